/-
  Texts: Sx9a, SxS, Sx10.
-/
import Derived.Test.YtkjakddmmagjaaaM1
import Derived.Test.YtkjakddmmagjaaaM2
import Derived.Deep.LoopGhost
import Derived.Orders
section
/-
  A calculus of symbolic states for walks over translated Go code, part 9, its end: a region in the text's order is what it says.
-/
namespace Go.Sx
open Go.RowKit
section
variable {P : Program} {W0 : Base} {ρ : Nat → Nat} {tm : List SV} {ob : List SO} {a : Act} {w : World}

theorem all_bnd {ob : List SO} {ks : List SK} (h : ks.all (SK.bndB (liveB ob)) = true) : ∀ k ∈ ks, k.bnd (live ob) := fun k hk => SK.bndB_iff (fun _ => liveB_iff) (List.all_eq_true.1 h k hk)
theorem all_obB {ob ob1 : List SO} (h : ob1.all (obB (liveB ob)) = true) {i : Nat} {e : TypeId} {ks : List SK} {sp : Nat} (hi : ob1[i]? = some (.cells e ks sp)) : ∀ k ∈ ks, k.bnd (live ob) := by
  have := List.all_eq_true.1 h _ (List.mem_of_getElem? hi)
  exact all_bnd this

/-- The slice that grows, as the library's law has it. -/
theorem headOf_sound (H : Holds W0 ρ tm ob a w) {size n : Nat} {e : TypeId} {s : SA} {qs : List Prop} {old : List SK} {ob1 : List SO} (h : headOf ob size e s = some (n, qs, old, ob1)) (hq : Ok qs) :
    w.ownsRow W0.w.heap.size e size (s.conc ρ) n (concs ρ old) ∧
    ((s.conc ρ = .slice none 0 0 ∧ ob1 = ob) ∨ ∃ o ks sp, ob[o]? = some (.cells e ks sp) ∧ ob1 = ob.set o .dead ∧ (s.conc ρ).ownBlock = some (ρ o)) := by
  unfold headOf at h
  split at h
  · simp only [Option.some.injEq, Prod.mk.injEq] at h
    obtain ⟨rfl, rfl, rfl, rfl⟩ := h
    exact ⟨World.ownsRow_nil w _ e size, .inl ⟨rfl, rfl⟩⟩
  · rename_i o m cap
    split at h
    · rename_i e' ks sp ho
      split at h
      · rename_i hc
        obtain ⟨c1, c2⟩ := hc
        have c1 := Nat.eq_of_beq_eq_true c1
        have c2 := Nat.eq_of_beq_eq_true c2
        subst c1
        simp only [Option.some.injEq, Prod.mk.injEq] at h
        obtain ⟨rfl, rfl, rfl, rfl⟩ := h
        obtain ⟨⟨q0, q1, q2⟩, _⟩ := hq
        obtain ⟨h1, ⟨rest, hr, h2⟩, h3, h4⟩ := H.mem.obj o e' ks sp ho
        have hl : (concs ρ ks).length = m * size := by simp [concs, c2]
        refine ⟨⟨hl, .inr ⟨ρ o, cap, _, rfl, h1, h2, q0, q1, ?_, ?_⟩⟩, .inr ⟨o, ks, sp, ho, rfl, rfl⟩⟩
        · simp only [List.size_toArray, List.length_append, hl, hr, q2]
        · simp only [← hl, List.take_left]
      · cases h
    · cases h
  · cases h
theorem tailOf_sound (H : Holds W0 ρ tm ob a w) {size m : Nat} {x : SA} {new : List SK} (h : tailOf ob size x = some (m, new)) : (concs ρ new).length = m * size ∧ ∃ ad c, x.conc ρ = .slice (some ad) m c ∧ ∀ j u, (concs ρ new)[j]? = some u → w.cell? (ad.add j) = some u := by
  unfold tailOf at h
  split at h
  · rename_i o off m' cap
    split at h
    · rename_i e ks sp ho
      obtain ⟨r, hr, he⟩ := Option.map_eq_some_iff.1 h
      simp only [Prod.mk.injEq] at he
      obtain ⟨rfl, rfl⟩ := he
      obtain ⟨h1, ⟨rest, _, h2⟩, h3, h4⟩ := H.mem.obj o e ks sp ho
      obtain ⟨l1, l2⟩ := concs_sub hr ρ
      refine ⟨by rw [l2]; simp; omega, ⟨ρ o, off, none⟩, cap, rfl, fun j u hj => ?_⟩
      rw [l2, List.getElem?_take] at hj
      split at hj
      · rename_i hlt
        rw [List.getElem?_drop] at hj
        simp only [add_addr, World.cell?, h2]
        rw [show (concs ρ ks ++ rest).toArray[off + j]? = (concs ρ ks ++ rest)[off + j]? by simp, List.getElem?_append_left (by omega)]
        exact hj
      · cases hj
    · cases h
  · cases h

theorem live_dead {ob : List SO} {o i : Nat} : live (ob.set o .dead) i ↔ live ob i ∧ i ≠ o := by
  constructor
  · rintro ⟨e, ks, sp, h⟩
    rw [List.getElem?_set] at h
    split at h
    · split at h <;> cases h
    · rename_i hne; exact ⟨⟨e, ks, sp, h⟩, fun e => hne e.symm⟩
  · rintro ⟨⟨e, ks, sp, h⟩, hne⟩
    exact ⟨e, ks, sp, by rw [List.getElem?_set_ne (fun e => hne e.symm)]; exact h⟩

/-- An append: the grown row is a new block; what it grew out of is dead. -/
theorem app_sound (H : Holds W0 ρ tm ob a w) {ts : List TypeId} {ty : TypeId} {s x : SA} {qs : List Prop} {e : TypeId} {size n : Nat} {ks : List SK} {ob1 : List SO} (h : appPlan P ob ts s x = some (qs, e, size, n, ks, ob1)) (hq : Ok qs) :
    ∃ v w' c ρ', (Builtin.append_ ts.toArray ty #[s.conc ρ, x.conc ρ]).run P w = .ok v w' ∧ n + c ≤ maxLen ∧ v = SA.conc ρ' (.sc (.sl ob1.length 0 n (n + c))) ∧ live (ob1 ++ [.cells e ks (c * size)]) ob1.length ∧
      Holds W0 ρ' (scrub (ob1 ++ [.cells e ks (c * size)]) tm) (ob1 ++ [.cells e ks (c * size)]) a w' := by
  unfold appPlan at h
  split at h
  case h_2 => cases h
  rename_i t t'
  split at h
  case isFalse => cases h
  rename_i htt
  have htt := Nat.eq_of_beq_eq_true htt
  subst htt
  split at h
  case h_2 => cases h
  rename_i e0 hu
  split at h
  case h_2 => cases h
  rename_i ie hie
  split at h
  case h_2 => cases h
  rename_i z hz
  split at h
  case h_2 => cases h
  rename_i m new n0 qs0 old ob0 ht hh
  split at h
  case isFalse => cases h
  rename_i hc
  simp only [Option.some.injEq, Prod.mk.injEq] at h
  obtain ⟨rfl, rfl, rfl, rfl, rfl, rfl⟩ := h
  obtain ⟨c1, c2, c3, c4, c5, c6, c7, c8, c9⟩ := hc
  obtain ⟨hown, hob⟩ := headOf_sound H hh hq
  obtain ⟨tl, ad, cp, hx, hcells⟩ := tailOf_sound H ht
  have hfit : ∀ u ∈ concs ρ new, u.oneCell' = true := concs_fit (fun k hk => List.all_eq_true.1 c6 k hk) ρ
  obtain ⟨v, w', hrun, hown', hgb, hnil, hwhere⟩ := run_append_own_at (P := P) w W0.w.heap.size t ty e0 ie z ie.size ie.bytes hu hie hz rfl rfl c1 c2 (s.conc ρ) n0 (concs ρ old) hown ad m cp (concs ρ new) tl hcells hfit c4 c5 H.below.size
  have hv : v ≠ .slice none 0 0 := fun e => c3 (hnil.1 e).2
  obtain ⟨hl', h2⟩ := hown'
  rcases h2 with ⟨e, _⟩ | ⟨g, cap, cur, rfl, hbg, hg, hnc, hcm, hcs, htk⟩
  · exact absurd e hv
  have hlen : (concs ρ old ++ concs ρ new).length = (n0 + m) * ie.size := hl'
  have hcc : concs ρ (old ++ new) = concs ρ old ++ concs ρ new := by simp [concs, flat_append]
  have hsp : (cap - (n0 + m)) * ie.size = cur.size - (n0 + m) * ie.size := by rw [hcs, Nat.sub_mul]
  have hcap : n0 + m + (cap - (n0 + m)) = cap := by omega
  -- where each block lies that is still there
  have hl0 : ∀ i, live ob0 i → live ob i := by
    intro i hi
    rcases hob with ⟨_, rfl⟩ | ⟨o, ks, sp, ho, rfl, _⟩
    · exact hi
    · exact (live_dead.1 hi).1
  have hget0 : ∀ (i : Nat) e ks sp, ob0[i]? = some (.cells e ks sp) → ob[i]? = some (.cells e ks sp) := by
    intro i e ks sp hi
    rcases hob with ⟨_, rfl⟩ | ⟨o, ks, sp, ho, rfl, _⟩
    · exact hi
    · rw [List.getElem?_set] at hi
      split at hi
      · split at hi <;> cases hi
      · exact hi
  have hapart : ∀ i, live ob0 i → some (ρ i) ≠ (s.conc ρ).ownBlock := by
    intro i hi
    rcases hob with ⟨e, rfl⟩ | ⟨o, ks, sp, ho, rfl, hb⟩
    · rw [e]; simp [Value.ownBlock]
    · obtain ⟨⟨e1, k1, s1, h1⟩, hne⟩ := live_dead.1 hi
      rw [hb]
      simp only [ne_eq, Option.some.injEq]
      exact fun e => hne (H.mem.inj _ _ _ _ _ _ _ _ h1 ho e)
  have hplace : ∀ i, live ob i → ρ i < w.heap.size := by
    rintro i ⟨e, ks, sp, hi⟩
    obtain ⟨_, ⟨_, _, h2⟩, _⟩ := H.mem.obj i e ks sp hi
    exact heap_lt h2
  have hgne : ∀ i, live ob0 i → ρ i ≠ g := by
    intro i hi e
    have k' : (Value.slice (some ⟨g, 0, none⟩) (n0 + m) cap).ownBlock = some g := rfl
    rw [k'] at hwhere
    rcases hwhere with k | k
    · exact hapart i hi (by rw [e, k])
    · simp only [Option.some.injEq] at k
      have := hplace i (hl0 i hi); omega
  have hlenlt : ∀ i, live ob0 i → i ≠ ob0.length := by
    rintro i ⟨e, ks, sp, hi⟩
    have := ob_lt hi; omega
  have hlen0 : ob0.length = ob.length := by
    rcases hob with ⟨_, rfl⟩ | ⟨o, ks, sp, ho, rfl, _⟩ <;> simp
  have hnew : ∀ i, live ob0 i → live (ob0 ++ [SO.cells e0 (old ++ new) ((cap - (n0 + m)) * ie.size)]) i := by
    rintro i ⟨e, ks, sp, hi⟩
    exact ⟨e, ks, sp, by rw [List.getElem?_append_left (ob_lt hi)]; exact hi⟩
  have hcase : ∀ (i : Nat) e ks sp, (ob0 ++ [SO.cells e0 (old ++ new) ((cap - (n0 + m)) * ie.size)])[i]? = some (.cells e ks sp) → ob0[i]? = some (.cells e ks sp) ∨ (i = ob0.length ∧ e = e0 ∧ ks = old ++ new ∧ sp = (cap - (n0 + m)) * ie.size) := by
    intro i e ks sp hi
    rcases Nat.lt_or_ge i ob0.length with hlt | hge
    · rw [List.getElem?_append_left hlt] at hi; exact .inl hi
    · rw [List.getElem?_append_right hge] at hi
      have : i - ob0.length = 0 := by
        rcases Nat.eq_zero_or_pos (i - ob0.length) with h | h
        · exact h
        · rw [List.getElem?_eq_none (by simp; omega)] at hi; cases hi
      rw [this] at hi
      simp only [List.getElem?_cons_zero, Option.some.injEq, SO.cells.injEq] at hi
      exact .inr ⟨by omega, hi.1.symm, hi.2.1.symm, hi.2.2.symm⟩
  have hag : Agree (live ob0) ρ (grown ρ ob0.length g) := fun i hi => by simp only [grown, if_neg (hlenlt i hi)]
  have hbase : (∀ k, (s.conc ρ).ownBlock = some k → W0.w.heap.size ≤ k) := fun k hk => (hown.lt k hk).1
  refine ⟨.slice (some ⟨g, 0, none⟩) (n0 + m) cap, w', cap - (n0 + m), grown ρ ob0.length g, ?_, by omega, ?_, ⟨e0, old ++ new, (cap - (n0 + m)) * ie.size, by simp⟩, H.onto (fun i hi hi' => ?_) (H.below.grown hgb H.below.size hbase) ⟨fun i e ks sp hi => ?_, fun i j e ks sp e' ks' sp' hi hj hij => ?_⟩ ⟨fun i hi => ?_, fun i hi => ?_, ?_⟩⟩
  · rw [hx]; exact hrun
  · simp [SA.conc, SC.conc, grown, hcap]
  · -- what is there lies where it lay
    obtain ⟨e, ks, sp, h'⟩ := hi'
    rcases hcase i e ks sp h' with k | ⟨k, _⟩
    · exact hag i ⟨_, _, _, k⟩
    · obtain ⟨e1, k1, s1, h1⟩ := hi
      have := ob_lt h1; omega
  · rcases hcase i e ks sp hi with hi | ⟨rfl, rfl, rfl, rfl⟩
    · have hi' := hget0 i e ks sp hi
      obtain ⟨a1, ⟨rs, hr, a2⟩, a3, a4⟩ := H.mem.obj i e ks sp hi'
      have hb0 : ∀ k ∈ ks, k.bnd (live ob0) := all_obB c9 hi
      have hli : live ob0 i := ⟨_, _, _, hi⟩
      rw [hag i hli, hag.sks hb0]
      refine ⟨a1, ⟨rs, hr, ?_⟩, fun k hk => SK.bnd_mono hnew (hb0 k hk), a4⟩
      rw [hgb.block _ (heap_lt a2) (hapart i hli)]; exact a2
    · have hb0 : ∀ k ∈ old ++ new, k.bnd (live ob0) := all_bnd c8
      rw [hag.sks hb0, show grown ρ ob0.length g ob0.length = g by simp [grown]]
      refine ⟨hbg, ⟨cur.toList.drop ((n0 + m) * ie.size), by simp [hsp], ?_⟩, fun k hk => SK.bnd_mono hnew (hb0 k hk), fun k hk => ?_⟩
      · rw [hg, hcc, ← htk, List.take_append_drop, Array.toArray_toList]
      · rcases List.mem_append.1 hk with hk | hk
        · exact List.all_eq_true.1 c7 k hk
        · exact List.all_eq_true.1 c6 k hk
  · rcases hcase i e ks sp hi with h1 | ⟨k1, _⟩ <;> rcases hcase j e' ks' sp' hj with h2 | ⟨k2, _⟩
    · rw [hag i ⟨_, _, _, h1⟩, hag j ⟨_, _, _, h2⟩] at hij
      exact H.mem.inj _ _ _ _ _ _ _ _ (hget0 _ _ _ _ h1) (hget0 _ _ _ _ h2) hij
    · rw [hag i ⟨_, _, _, h1⟩, k2, show grown ρ ob0.length g ob0.length = g by simp [grown]] at hij
      exact absurd hij (hgne i ⟨_, _, _, h1⟩)
    · rw [hag j ⟨_, _, _, h2⟩, k1, show grown ρ ob0.length g ob0.length = g by simp [grown]] at hij
      exact absurd hij.symm (hgne j ⟨_, _, _, h2⟩)
    · omega
  · rcases H.kept.1 i hi with ⟨⟨e, ks, sp, k1⟩, k2⟩ | k
    · have hlt := ob_lt k1
      rcases hob with ⟨_, rfl⟩ | ⟨o, ks', sp', ho, rfl, _⟩
      · exact .inl ⟨hnew i ⟨_, _, _, k1⟩, by rw [hag i ⟨_, _, _, k1⟩, k2]⟩
      · by_cases e : i = o
        · subst e
          exact .inr (by rw [List.getElem?_append_left (by simpa using hlt)]; simp [hlt])
        · have hli : live (ob.set o .dead) i := live_dead.2 ⟨⟨_, _, _, k1⟩, e⟩
          exact .inl ⟨hnew i hli, by rw [hag i hli, k2]⟩
    · refine .inr ?_
      have hlt := ob_lt k
      rw [List.getElem?_append_left (by omega)]
      rcases hob with ⟨_, rfl⟩ | ⟨o, ks', sp', ho, rfl, _⟩
      · exact k
      · have : o ≠ i := by rintro rfl; rw [ho] at k; cases k
        rw [List.getElem?_set_ne this]; exact k
  · have k := H.kept.2.1 i hi
    have hlt := ob_lt k
    rw [List.getElem?_append_left (by omega)]
    rcases hob with ⟨_, rfl⟩ | ⟨o, ks', sp', ho, rfl, _⟩
    · exact k
    · have : o ≠ i := by rintro rfl; rw [ho] at k; cases k
      rw [List.getElem?_set_ne this]; exact k
  · have := H.kept.2.2
    simp only [List.length_append, List.length_singleton]
    omega

theorem cpy_sound (H : Holds W0 ρ tm ob a w) {ts : List TypeId} {ty : TypeId} {s x : SA} {qs : List Prop} {z : SA} {ob1 : List SO} (h : cpyPlan P ob ts s x = some (qs, z, ob1)) :
    ∃ w', (Builtin.copy_ ts.toArray ty #[s.conc ρ, x.conc ρ]).run P w = .ok (z.conc ρ) w' ∧ z.bnd (live ob1) ∧ Holds W0 ρ (scrub ob1 tm) ob1 a w' := by
  have fin : ∀ {ob1 : List SO} {w' : World}, Holds W0 ρ tm ob1 a w' → Holds W0 ρ (scrub ob1 tm) ob1 a w' := fun H1 => H1.onto (fun _ _ _ => rfl) H1.below H1.mem H1.kept
  unfold cpyPlan at h
  split at h
  case h_2 => cases h
  rename_i t ts'
  split at h
  case h_2 => cases h
  rename_i e hu
  split at h
  case h_2 => cases h
  rename_i ie hie
  split at h
  case h_2 => cases h
  rename_i o off n cap
  split at h
  case h_2 => cases h
  rename_i e' ks sp ho
  obtain ⟨h1, ⟨rest, hrest, h2⟩, h3, h4⟩ := H.mem.obj o e' ks sp ho
  have hkl : (concs ρ ks).length = (flat ks).length := by simp [concs]
  split at h
  · rename_i o2 off2 m cap2
    split at h
    case h_2 => cases h
    rename_i e2 ks2 sp2 ho2
    split at h
    case h_2 => cases h
    rename_i new hnw
    split at h
    case isFalse => cases h
    rename_i hf
    obtain ⟨r, hr, he⟩ := Option.map_eq_some_iff.1 h
    simp only [Prod.mk.injEq] at he
    obtain ⟨rfl, rfl, rfl⟩ := he
    obtain ⟨l1, l2⟩ := lay_flat hr
    obtain ⟨g1, ⟨rest2, _, g2⟩, g3, g4⟩ := H.mem.obj o2 e2 ks2 sp2 ho2
    obtain ⟨s1, s2⟩ := concs_sub hnw ρ
    have hlen : (concs ρ new).length = Nat.min m n * ie.size := by rw [s2]; simp; omega
    have hfl : (flat new).length = (concs ρ new).length := by simp [concs]
    have hfit : ∀ u ∈ concs ρ new, u.oneCell' = true := concs_fit (fun k hk => List.all_eq_true.1 hf k hk) ρ
    have hload := run_loadCells_list (P := P) w ⟨ρ o2, off2, none⟩ (concs ρ new) (fun j u hj => by
      rw [s2, List.getElem?_take] at hj
      split at hj
      · rename_i hlt
        rw [List.getElem?_drop] at hj
        simp only [add_addr, World.cell?, g2]
        rw [show (concs ρ ks2 ++ rest2).toArray[off2 + j]? = (concs ρ ks2 ++ rest2)[off2 + j]? by simp, List.getElem?_append_left (by omega)]
        exact hj
      · cases hj)
    have hst := run_storeCells_at (P := P) (ρ o) off e' (concs ρ new) 0 (concs ρ ks ++ rest).toArray w h2 (by simp; omega) hfit
    have hnew : ((concs ρ ks ++ rest).toArray.toList.take (off + 0) ++ concs ρ new ++ (concs ρ ks ++ rest).toArray.toList.drop (off + 0 + (concs ρ new).length)).toArray = (concs ρ r ++ rest).toArray := by
      congr 1
      simp only [Nat.add_zero]
      rw [List.take_append_of_le_length (by omega), List.drop_append_of_le_length (by omega), ← hfl]
      simp only [concs, l2, List.map_append, List.map_take, List.map_drop, List.append_assoc]
    rw [hnew] at hst
    refine ⟨_, ?_, trivial, fin (H.turned ho hrest h2 (bnd_flat.2 (lay_all hr (bnd_flat.1 h3) (fun c hc => mem_sub hnw (bnd_flat.1 g3) c hc))) (fit_flat.2 (lay_all hr (fit_flat.1 h4) (fun c hc => mem_sub hnw (fit_flat.1 g4) c hc))))⟩
    rw [show SA.conc ρ (.sc (.sl o off n cap)) = .slice (some ⟨ρ o, off, none⟩) n cap from rfl, show SA.conc ρ (.sc (.sl o2 off2 m cap2)) = .slice (some ⟨ρ o2, off2, none⟩) m cap2 from rfl]
    rw [hlen, show ie.size = P.cellsOf e by simp [Program.cellsOf, hie]] at hload
    simp [Builtin.copy_, run_underlying hu, Builtin.lenOf, Builtin.firstCells, run_sizeOf w hie, hload, goInt, SA.conc, SC.conc, hst]
  · cases h

/-! ## A region -/

theorem args_eq {a : Act} {args : Array Operand} {ys : List SA} (e1 : args.toList.map a.eval = ys.map (SA.conc ρ)) : args.map a.eval = (ys.map (SA.conc ρ)).toArray := by
  apply Array.ext'
  rw [Array.toList_map, e1]

theorem special_sound {cx : Cx} {inl : Inl} (hin : InlOK P inl) (H : Holds W0 ρ tm ob a w) {o : Oper} {sp : Special} (hs : special cx tm o = some sp) {k : SV → List SO → Prop} (h : doSpecial P inl ob k sp)
    {K : Act → World → Prop} {Q : Exit → Act → World → Prop} (hK : ∀ ρ' a' w' sv ob', k sv ob' → Holds W0 ρ' (put (scrub ob' tm) o.dst sv) ob' a' w' → K a' w') : o.wp P a w K Q := by
  unfold special at hs
  split at hs
  · rename_i x args ts ho
    split at hs
    case h_2 => cases hs
    rename_i p0 f caps p1 ys h0 h1
    split at hs
    · cases hs
    rename_i hcx
    simp only [Option.some.injEq] at hs
    subst hs
    simp only [doSpecial] at h
    obtain ⟨hp, h⟩ := ands_iff.1 h
    obtain ⟨o0, o1⟩ := Ok.append.1 hp
    obtain ⟨ef, bf⟩ := calleeOf_sound H h0 o0
    obtain ⟨e1, b1⟩ := rdL_sound H h1 o1
    have hcaps : (caps.map ofPV).map (SA.conc ρ) = caps.map (PV.conc ρ) := by
      rw [List.map_map]; exact List.map_congr_left fun p _ => ofPV_conc ρ p
    obtain ⟨hrun, hc⟩ := hin f _ ob k h H (fun y hy => by
      rcases List.mem_append.1 hy with hy | hy
      · exact b1 y hy
      · obtain ⟨p, hp, rfl⟩ := List.mem_map.1 hy; exact ofPV_bnd (bf p hp))
    unfold Oper.wp
    rw [run_call_fn ho ef (args_eq e1), ← hcaps, ← List.map_append, hrun, Oper.upon_enter]
    refine hc.mono ?_
    rintro e w' ⟨v, rfl, ρ', sv, ob', hk, hr, hb, H'⟩
    exact hK ρ' _ _ sv ob' hk (H'.put o.dst hr hb)
  · rename_i args ts ho
    split at hs
    case h_2 => cases hs
    rename_i p1 s x h1
    simp only [Option.some.injEq] at hs
    subst hs
    simp only [doSpecial] at h
    split at h
    case h_2 => exact h.no
    rename_i qs e size n ks ob1 hpl
    obtain ⟨hp, h⟩ := ands_iff.1 h
    obtain ⟨o1, o2⟩ := Ok.append.1 hp
    obtain ⟨e1, b1⟩ := rdL_sound H h1 o1
    obtain ⟨v, w', c, ρ', hrun, hc, rfl, hl, H'⟩ := app_sound (ty := o.type) H hpl o2
    rw [Array.toArray_toList] at hrun
    have hx : (execOp a.eval o).run P w = .ok (.value (SA.conc ρ' (.sc (.sl ob1.length 0 n (n + c))))) w' := by
      unfold execOp
      have := args_eq e1
      simp only [List.map_cons, List.map_nil] at this
      simp only [ho, resolve, this, Sem.run_bind, Sem.run_pure, Result.andThen_ok, invoke, builtin, hrun]
    unfold Oper.wp
    rw [hx, Oper.upon_value]
    exact hK ρ' _ _ _ _ (h c hc) (H'.put o.dst (sv := .one (.sc (.sl ob1.length 0 n (n + c)))) rfl hl)
  · rename_i args ts ho
    split at hs
    · cases hs
    case h_3 => cases hs
    rename_i p1 s x _ h1
    simp only [Option.some.injEq] at hs
    subst hs
    simp only [doSpecial] at h
    split at h
    case h_2 => exact h.no
    rename_i qs z ob1 hpl
    obtain ⟨hp, h⟩ := ands_iff.1 h
    obtain ⟨o1, o2⟩ := Ok.append.1 hp
    obtain ⟨e1, b1⟩ := rdL_sound H h1 o1
    obtain ⟨w', hrun, hb, H'⟩ := cpy_sound (ty := o.type) H hpl
    rw [Array.toArray_toList] at hrun
    have hx : (execOp a.eval o).run P w = .ok (.value (z.conc ρ)) w' := by
      unfold execOp
      have := args_eq e1
      simp only [List.map_cons, List.map_nil] at this
      simp only [ho, resolve, this, Sem.run_bind, Sem.run_pure, Result.andThen_ok, invoke, builtin, hrun]
    unfold Oper.wp
    rw [hx, Oper.upon_value]
    exact hK ρ _ _ _ _ h (H'.put o.dst (sv := .one z) rfl hb)
  · cases hs

theorem runs_sound {cx : Cx} (hcx : CxOK P cx) {inl : Inl} (hin : InlOK P inl) {ops : Array Oper} {d : Bool} {Q : Exit → Act → World → Prop} {K : List SV → List SO → Prop} (hK : ∀ ρ tm ob a w, Holds W0 ρ tm ob a w → K tm ob → Q .normal a w) :
    ∀ {l : List Oper} {i : Nat} {ρ : Nat → Nat} {tm : List SV} {ob : List SO} {a : Act} {w : World}, Holds W0 ρ tm ob a w → runs P cx inl ops d i l tm ob K → wpList P ops Q l a w
  | [], i, ρ, tm, ob, a, w, H, h => hK ρ tm ob a w H h
  | o :: r, i, ρ, tm, ob, a, w, H, h => by
    have plain : ∀ id ps sv ob', semG P cx ops id tm ob o = some (ps, sv, ob') → ands ps (runs P cx inl ops d (i + 1) r (put tm o.dst sv) ob' K) → wpList P ops Q (o :: r) a w := by
      intro id ps sv ob' hs h
      obtain ⟨hp, h⟩ := ands_iff.1 h
      have := semG_sound hcx H hs hp (Q := Q) (K := wpList P ops Q r) fun ρ' a' w' H' => runs_sound hcx hin hK H' h
      unfold wpList
      split
      · rename_i hw; rw [if_pos hw] at this; exact .inl this
      · rename_i hw; rw [if_neg hw] at this; exact this
    have skip : runs P cx inl ops d (i + 1) r (put tm o.dst (.one (.sc (.val undef)))) ob K → wpList P ops Q r (a.put o.dst undef) w := fun h =>
      runs_sound hcx hin hK (H.put o.dst (sv := .one (.sc (.val undef))) rfl trivial) h
    simp only [runs] at h
    cases d with
    | true =>
      simp only at h
      split at h
      · rename_i hs; exact plain _ _ _ _ hs h
      · exact h.no
    | false =>
      cases hsp : special cx tm o with
      | none =>
        rw [hsp] at h
        simp only at h
        split at h
        · rename_i hs; exact plain _ _ _ _ hs h
        · exact h.no
      | some sp =>
        rw [hsp] at h
        simp only at h
        have go : doSpecial P inl ob (fun sv ob' => runs P cx inl ops false (i + 1) r (put (scrub ob' tm) o.dst sv) ob' K) sp → o.wp P a w (wpList P ops Q r) Q := fun h =>
          special_sound hin H hsp h fun ρ' a' w' sv ob' hk H' => runs_sound hcx hin hK H' hk
        split at h
        · rename_i hwn
          have := whenOf_sound H hwn
          simp only [When.is] at this
          unfold wpList
          rw [if_pos this]
          exact .inl (go h)
        · rename_i hwn
          have := whenOf_sound H hwn
          simp only [When.is] at this
          unfold wpList
          rw [if_neg (by rw [this]; simp)]
          exact skip h
        · rename_i b hwn
          have := whenOf_sound H hwn
          simp only [When.is] at this
          unfold wpList
          cases b with
          | true => rw [if_pos this]; exact .inl (go (h.1 rfl))
          | false => rw [if_neg (by rw [this]; simp)]; exact skip (h.2 rfl)
        · exact h.no
end

section
variable {P : Program} {W0 : Base}
/-- One operation of a row, in the text's order. -/
theorem runs_step {cx : Cx} (hcx : CxOK P cx) {inl : Inl} (hin : InlOK P inl) {ops : Array Oper} {Q : Exit → Act → World → Prop} {K : List SV → List SO → Prop} {o : Oper} {r : List Oper} {i : Nat} {ρ : Nat → Nat} {tm : List SV} {ob : List SO} {a : Act} {w : World} {Z : Act → World → Prop}
    (H : Holds W0 ρ tm ob a w) (h : runs P cx inl ops false i (o :: r) tm ob K) (hZ : ∀ ρ tm ob a w, Holds W0 ρ tm ob a w → runs P cx inl ops false (i + 1) r tm ob K → Z a w) :
    if Region.wanted o (yielded ops a.tmps) then o.wp P a w Z Q ∨ (o.asks P a w ∧ LetsOut Q) else Z (a.put o.dst undef) w := by
  have plain : ∀ id ps sv ob', semG P cx ops id tm ob o = some (ps, sv, ob') → ands ps (runs P cx inl ops false (i + 1) r (put tm o.dst sv) ob' K) → if Region.wanted o (yielded ops a.tmps) then o.wp P a w Z Q ∨ (o.asks P a w ∧ LetsOut Q) else Z (a.put o.dst undef) w := by
    intro id ps sv ob' hs h
    obtain ⟨hp, h⟩ := ands_iff.1 h
    have := semG_sound hcx H hs hp (Q := Q) (K := Z) fun ρ' a' w' H' => hZ _ _ _ _ _ H' h
    split
    · rename_i hw; rw [if_pos hw] at this; exact .inl this
    · rename_i hw; rw [if_neg hw] at this; exact this
  have skip : runs P cx inl ops false (i + 1) r (put tm o.dst (.one (.sc (.val undef)))) ob K → Z (a.put o.dst undef) w := fun h =>
    hZ _ _ _ _ _ (H.put o.dst (sv := .one (.sc (.val undef))) rfl trivial) h
  simp only [runs] at h
  cases hsp : special cx tm o with
  | none =>
    rw [hsp] at h
    simp only at h
    split at h
    · rename_i hs; exact plain _ _ _ _ hs h
    · exact h.no
  | some sp =>
    rw [hsp] at h
    simp only at h
    have go : doSpecial P inl ob (fun sv ob' => runs P cx inl ops false (i + 1) r (put (scrub ob' tm) o.dst sv) ob' K) sp → o.wp P a w Z Q := fun h =>
      special_sound hin H hsp h fun ρ' a' w' sv ob' hk H' => hZ _ _ _ _ _ H' hk
    split at h
    · rename_i hwn
      have := whenOf_sound H hwn
      simp only [When.is] at this
      rw [if_pos this]
      exact .inl (go h)
    · rename_i hwn
      have := whenOf_sound H hwn
      simp only [When.is] at this
      rw [if_neg (by rw [this]; simp)]
      exact skip h
    · rename_i b hwn
      have := whenOf_sound H hwn
      simp only [When.is] at this
      cases b with
      | true => rw [if_pos this]; exact .inl (go (h.1 rfl))
      | false => rw [if_neg (by rw [this]; simp)]; exact skip (h.2 rfl)
    · exact h.no
end

end Go.Sx
end

section
/-
  A calculus of symbolic states for walks over translated Go code: when two symbolic values say the same, as plain sentences on numbers.
-/
namespace Go.Sx
open Go.RowKit

/-- A number of 256 bits, read. -/
def asU4 (l : List SC) : Option (List Prop × Nat) :=
  match l with
  | [.num .u64 a, .num .u64 b, .num .u64 c, .num .u64 d] => if okLit a && okLit b && okLit c && okLit d then some ([], join a b c d) else none
  | [a, b, c, d] =>
    match asI (.sc a), asI (.sc b), asI (.sc c), asI (.sc d) with
    | some (.u64, a), some (.u64, b), some (.u64, c), some (.u64, d) => some ([0 ≤ a ∧ a < 2 ^ 64, 0 ≤ b ∧ b < 2 ^ 64, 0 ≤ c ∧ c < 2 ^ 64, 0 ≤ d ∧ d < 2 ^ 64], join a b c d)
    | _, _, _, _ => none
  | _ => none
def asU : SA → Option (List Prop × Nat)
  | .agg [.u n] => some ([], n)
  | .agg ks => asU4 (flat ks)
  | _ => none
theorem asU4_sound {l : List SC} {ps : List Prop} {n : Nat} (h : asU4 l = some (ps, n)) (hp : Ok ps) (ρ : Nat → Nat) : Value.agg (l.map (SC.conc ρ)).toArray = U n := by
  unfold asU4 at h
  split at h
  · rename_i a b c d
    split at h
    · rename_i hl
      simp only [Option.some.injEq, Prod.mk.injEq] at h
      obtain ⟨_, rfl⟩ := h
      simp only [Bool.and_eq_true] at hl
      obtain ⟨⟨⟨ha, hb⟩, hc⟩, hd⟩ := hl
      rw [U_join (okLit_iff ha) (okLit_iff hb) (okLit_iff hc) (okLit_iff hd)]; rfl
    · cases h
  · split at h
    · rename_i ha hb hc hd
      simp only [Option.some.injEq, Prod.mk.injEq] at h
      obtain ⟨rfl, rfl⟩ := h
      obtain ⟨h1, h2, h3, h4, _⟩ := hp
      rw [U_join h1 h2 h3 h4]
      have e1 := asI_sound ha ρ; have e2 := asI_sound hb ρ; have e3 := asI_sound hc ρ; have e4 := asI_sound hd ρ
      simp only [SA.conc] at e1 e2 e3 e4
      simp [e1, e2, e3, e4]
    · cases h
  · cases h
theorem asU_sound {x : SA} {ps : List Prop} {n : Nat} (h : asU x = some (ps, n)) (hp : Ok ps) (ρ : Nat → Nat) : x.conc ρ = U n := by
  unfold asU at h
  split at h
  · simp only [Option.some.injEq, Prod.mk.injEq] at h; obtain ⟨_, rfl⟩ := h; rfl
  · exact asU4_sound h hp ρ
  · cases h

/-- What has come out says what was to come out: as plain sentences on numbers. -/
def sameV : Value → Value → Prop
  | .int .u64 a, .int .u64 b | .int .i64 a, .int .i64 b | .int .u8 a, .int .u8 b | .int .i32 a, .int .i32 b => a = b
  | .bool a, .bool b => a = b
  | .string a, .string b => a = b
  | v, w => v = w
def sameC (x y : SC) : Prop :=
  match x, y with
  | .ptr o off, .ptr o' off' => o = o' ∧ off = off'
  | .sl o off len cap, .sl o' off' len' cap' => o = o' ∧ off = off' ∧ len = len' ∧ cap = cap'
  | .sls o base lo hi cap, .sls o' base' lo' hi' cap' => o = o' ∧ base = base' ∧ lo = lo' ∧ hi = hi' ∧ cap = cap'
  | .fn f caps, .fn f' caps' => f = f' ∧ caps = caps'
  | x, y =>
    match asV (.sc x), asV (.sc y) with
    | some v, some w => sameV v w
    | _, _ => False
def sameF : List SC → List SC → Prop
  | [], [] => True
  | x :: r, y :: r' => sameC x y ∧ sameF r r'
  | _, _ => False
def sameK : List SK → List SK → Prop
  | [], [] => True
  | .u a :: r, .u b :: r' => a % M256 = b % M256 ∧ sameK r r'
  | .f k n g :: r, .f k' n' g' :: r' => if k = k' ∧ n = n' then (∀ j, j < n → g j = g' j) ∧ sameK r r' else sameF (flat (.f k n g :: r)) (flat (.f k' n' g' :: r'))
  | .c a :: .c b :: .c c :: .c d :: r, .u n :: r' =>
    match asU4 [a, b, c, d] with
    | some (ps, m) => ands ps (m % M256 = n % M256 ∧ sameK r r')
    | none => False
  | .u n :: r, .c a :: .c b :: .c c :: .c d :: r' =>
    match asU4 [a, b, c, d] with
    | some (ps, m) => ands ps (n % M256 = m % M256 ∧ sameK r r')
    | none => False
  | .f .u64 4 g :: r, .u n :: r' => ands [0 ≤ g 0 ∧ g 0 < 2 ^ 64, 0 ≤ g 1 ∧ g 1 < 2 ^ 64, 0 ≤ g 2 ∧ g 2 < 2 ^ 64, 0 ≤ g 3 ∧ g 3 < 2 ^ 64] (join (g 0) (g 1) (g 2) (g 3) % M256 = n % M256 ∧ sameK r r')
  | .c x :: r, .c y :: r' => sameC x y ∧ sameK r r'
  | xs, ys => sameF (flat xs) (flat ys)
def sameA : SA → SA → Prop
  | .sc x, .sc y => sameC x y
  | .agg ks, .agg ks' => sameK ks ks'
  | _, _ => False
def sameL : List SA → List SA → Prop
  | [], [] => True
  | [x], [y] => sameA x y
  | x :: r, y :: r' => sameA x y ∧ sameL r r'
  | _, _ => False
def same : SV → SV → Prop
  | .one x, .one y => sameA x y
  | .tup xs, .tup ys => sameL xs ys
  | _, _ => False

theorem sameV_sound {v w : Value} (h : sameV v w) : v = w := by
  unfold sameV at h
  split at h <;> first | (rw [h]; done) | exact h
theorem sameC_sound {x y : SC} (h : sameC x y) (ρ : Nat → Nat) : x.conc ρ = y.conc ρ := by
  unfold sameC at h
  split at h
  · obtain ⟨rfl, rfl⟩ := h; rfl
  · obtain ⟨rfl, rfl, rfl, rfl⟩ := h; rfl
  · obtain ⟨rfl, rfl, rfl, rfl, rfl⟩ := h; rfl
  · obtain ⟨rfl, rfl⟩ := h; rfl
  · split at h
    · rename_i v w hv hw
      have h1 := asV_sound hv ρ
      have h2 := asV_sound hw ρ
      simp only [SA.conc] at h1 h2
      rw [h1, h2]; exact sameV_sound h
    · exact h.elim
theorem sameF_sound (ρ : Nat → Nat) : ∀ {xs ys : List SC}, sameF xs ys → xs.map (SC.conc ρ) = ys.map (SC.conc ρ)
  | [], [], _ => rfl
  | x :: r, y :: r', h => by simp only [sameF] at h; rw [List.map_cons, List.map_cons, sameC_sound h.1 ρ, sameF_sound ρ h.2]
  | [], _ :: _, h | _ :: _, [], h => by simp [sameF] at h
theorem concs_cons (ρ : Nat → Nat) (k : SK) (r : List SK) : concs ρ (k :: r) = concs ρ [k] ++ concs ρ r := by simp [concs, flat]
theorem concs_u (ρ : Nat → Nat) (n : Nat) : concs ρ [.u n] = [.int .u64 (limb n 0), .int .u64 (limb n 1), .int .u64 (limb n 2), .int .u64 (limb n 3)] := rfl
theorem concs_f (ρ : Nat → Nat) (k : IntKind) (n : Nat) (g : Nat → Int) : concs ρ [.f k n g] = (List.range n).map fun j => .int k (g j) := by
  simp [concs, flat, SK.cells, Function.comp_def, SC.conc]
theorem asU4_concs {l : List SC} {ps : List Prop} {n : Nat} (h : asU4 l = some (ps, n)) (hp : Ok ps) (ρ : Nat → Nat) : l.map (SC.conc ρ) = concs ρ [.u n] := by
  have := asU4_sound h hp ρ
  simp only [U, Value.agg.injEq] at this
  rw [concs_u]
  have e := congrArg Array.toList this
  simpa using e
theorem concs_u_congr {a b : Nat} (h : a % M256 = b % M256) (ρ : Nat → Nat) : concs ρ [.u a] = concs ρ [.u b] := by
  obtain ⟨h0, h1, h2, h3⟩ := limbs_eq.1 h
  rw [concs_u, concs_u, h0, h1, h2, h3]
theorem sameK_sound (ρ : Nat → Nat) (xs ys : List SK) : sameK xs ys → concs ρ xs = concs ρ ys := by
  induction xs, ys using sameK.induct with
  | case1 => intro _; rfl
  | case2 a r b r' ih =>
    intro h
    simp only [sameK] at h
    rw [concs_cons, concs_cons ρ (.u b), concs_u_congr h.1, ih h.2]
  | case3 k n g r k' n' g' r' he ih =>
    intro h
    simp only [sameK, if_pos he] at h
    obtain ⟨rfl, rfl⟩ := he
    obtain ⟨hg, h⟩ := h
    rw [concs_cons, concs_cons ρ (.f k n g'), concs_f, concs_f, ih h]
    congr 1
    exact List.map_congr_left fun j hj => by rw [hg j (List.mem_range.1 hj)]
  | case4 k n g r k' n' g' r' he =>
    intro h
    simp only [sameK, if_neg he] at h
    exact sameF_sound ρ h
  | case5 a b c d r n r' ps m hm ih =>
    intro h
    simp only [sameK, hm] at h
    obtain ⟨hp, h1, h2⟩ := ands_iff.1 h
    have := asU4_concs hm hp ρ
    rw [concs_cons ρ (.u n), ← concs_u_congr h1, ← this, ← ih h2]
    simp [concs, flat, SK.cells]
  | case6 a b c d r n r' hm =>
    intro h
    simp only [sameK, hm] at h
  | case7 n r a b c d r' ps m hm ih =>
    intro h
    simp only [sameK, hm] at h
    obtain ⟨hp, h1, h2⟩ := ands_iff.1 h
    have := asU4_concs hm hp ρ
    rw [concs_cons ρ (.u n), concs_u_congr h1, ← this, ih h2]
    simp [concs, flat, SK.cells]
  | case8 n r a b c d r' hm =>
    intro h
    simp only [sameK, hm] at h
  | case9 g r n r' ih =>
    intro h
    simp only [sameK] at h
    obtain ⟨⟨h1, h2, h3, h4, _⟩, he, h⟩ := ands_iff.1 h
    have hj := limb_join h1 h2 h3 h4
    rw [concs_cons, concs_cons ρ (.u n), ← concs_u_congr he, ih h, concs_u, hj.1, hj.2.1, hj.2.2.1, hj.2.2.2]
    rfl
  | case10 x r y r' ih =>
    intro h
    simp only [sameK] at h
    rw [concs_cons, concs_cons ρ (.c y), ih h.2]
    simp [concs, flat, SK.cells, sameC_sound h.1 ρ]
  | case11 xs ys h1 h2 h3 h4 h5 h6 h7 =>
    intro h
    rw [sameK] at h <;> first | exact sameF_sound ρ h | assumption
theorem sameA_sound (ρ : Nat → Nat) {x y : SA} (h : sameA x y) : x.conc ρ = y.conc ρ := by
  unfold sameA at h
  split at h
  · exact sameC_sound h ρ
  · simp only [SA.conc, sameK_sound ρ _ _ h]
  · exact h.elim
theorem sameL_sound (ρ : Nat → Nat) : ∀ {xs ys : List SA}, sameL xs ys → xs.map (SA.conc ρ) = ys.map (SA.conc ρ)
  | [], [], _ => rfl
  | [x], [y], h => by simp only [sameL] at h; simp [sameA_sound ρ h]
  | x :: x' :: r, y :: y' :: r', h => by
    simp only [sameL] at h
    rw [List.map_cons, sameA_sound ρ h.1, sameL_sound ρ (ys := y' :: r') h.2]; rfl
  | [x], y :: y' :: r', h => by simp only [sameL] at h; cases r' <;> simp at h
  | x :: x' :: r, [y], h => by simp only [sameL] at h; cases r <;> simp at h
  | [], _ :: _, h => by simp [sameL] at h
  | _ :: _, [], h => by simp [sameL] at h
theorem same_sound {s s' : SV} (h : same s s') (ρ : Nat → Nat) (v : Value) (hr : s.rep ρ v) : s'.rep ρ v := by
  unfold same at h
  split at h
  · simp only [SV.rep] at hr ⊢; rw [hr, sameA_sound ρ h]
  · simp only [SV.rep] at hr ⊢; rw [hr, sameL_sound ρ h]
  · exact h.elim

end Go.Sx
end

section
/-
  A calculus of symbolic states for walks over translated Go code, part 10: code, and a call.
-/
namespace Go.Sx
open Go.RowKit

/-- Rounds of a loop that come to an end by themselves. -/
def sxLoop (body : List SV → List SO → (Exit → List SV → List SO → Prop) → Prop) (K : Exit → List SV → List SO → Prop) : Nat → List SV → List SO → Prop
  | 0, _, _ => StuckAt "rounds"
  | n + 1, tm, ob => body tm ob fun e tm ob => match e with
    | .normal => sxLoop body K n tm ob
    | e => K e tm ob

/-- A loop that is met by what holds at each round's head. -/
structure Inv where
  X : Type
  tm : X → List SV
  ob : X → List SO
  holds : X → Prop
  less : X → Nat
/-- What is told of a place of the code: a loop's rounds; behind a region, a number in a slot that is one of a few. -/
inductive Hint where
  | inv (L : Inv)
  | split (t k : Nat)
def getInv : List (Nat × Hint) → Nat → Option Inv
  | [], _ => none
  | (k, .inv L) :: r, n => match Nat.beq k n with
    | true => some L
    | false => getInv r n
  | (_, .split _ _) :: r, n => getInv r n
def getSplit : List (Nat × Hint) → Nat → Option (Nat × Nat)
  | [], _ => none
  | (k, .split t m) :: r, n => match Nat.beq k n with
    | true => some (t, m)
    | false => getSplit r n
  | (_, .inv _) :: r, n => getSplit r n
def firstId : Code → Nat
  | .region id _ _ => id
  | .seq a _ => firstId a
  | .block _ a => firstId a
  | .loop a => firstId a
  | _ => 0

/-- Said of a slot with less: what stood there stands for what is said now; what is owed for that. -/
def wC (x y : SC) : List Prop :=
  match x, y with
  | .num k a, .num k' b => if k = k' ∧ a = b then [] else [False]
  | .bit a, .bit b => match a, b with
    | true, true | false, false => []
    | _, _ => [False]
  | .ptr o off, .ptr o' off' => match Nat.beq o o' && Nat.beq off off' with
    | true => []
    | false => [False]
  | .sl o off len cap, .sl o' off' len' cap' => match Nat.beq o o' && Nat.beq off off' && Nat.beq len len' with
    | true => [cap = cap']
    | false => [False]
  | x, y => [sameC x y]
def wK : List SK → List SK → List Prop
  | [], [] => []
  | .u a :: r, .u b :: r' => (a % M256 = b % M256) :: wK r r'
  | .c x :: r, .c y :: r' => wC x y ++ wK r r'
  | xs, ys => [sameK xs ys]
def wA : SA → SA → List Prop
  | .sc x, .sc y => wC x y
  | .agg ks, .agg ks' => wK ks ks'
  | _, _ => [False]
def wL : List SA → List SA → List Prop
  | [], [] => []
  | x :: r, y :: r' => wA x y ++ wL r r'
  | _, _ => [False]
def weakV : SV → SV → List Prop
  | _, .any => []
  | .one x, .one y => wA x y
  | .tup xs, .tup ys => wL xs ys
  | .gd b x, .gd b' y => (b = b') :: wA x y
  | _, _ => [False]
def weakT : List SV → List SV → List Prop
  | [], [] => []
  | s :: l, s' :: l' => weakV s s' ++ weakT l l'
  | _, _ => [False]
/-- Of blocks with less: what is dead is forgotten; the first n are told of. -/
def weakO : Nat → List SO → List SO → List Prop
  | 0, _, [] => []
  | _ + 1, [], [] => []
  | n, .cells e ks sp :: l, .cells e' ks' sp' :: l' => match Nat.beq e e' with
    | true => wK ks ks' ++ (sp = sp') :: weakO (n - 1) l l'
    | false => [False]
  | n, .cells _ _ _ :: l, .dead :: l' | n, .dead :: l, .dead :: l' | n, .gone :: l, .dead :: l' | n, .gone :: l, .gone :: l' => weakO (n - 1) l l'
  | _, _, _ => [False]

/-- What is said of a loop's head names no blocks but those that it has. -/
def closedB (tm : List SV) (ob : List SO) : Bool := tm.all (SV.bndB (liveB ob)) && ob.all (obB (liveB ob)) && ob.all (fun o => match o with | .cells _ ks _ => ks.all SK.fit | _ => true)

/-- Places kept for a region's new blocks. -/
def isNew : Op → Bool
  | .alloc _ | .box .. | .buildSlice .. | .makeSlice .. => true
  | _ => false
def gones : Nat → List SO
  | 0 => []
  | n + 1 => .gone :: gones n
def kept (ops : Array Oper) (ob : List SO) : List SO := if ops.toList.any (fun o => isNew o.op) then ob ++ gones ops.size else ob
/-- May a region draw its order, and the text's order serve for all? (Part 11.) -/
abbrev Drawn := Program → Cx → Array Oper → List SV → List SO → Option Nat

/-- A number in a slot that is one of a few: each is looked at. -/
def splitAll (kd : IntKind) (n : Int) (t : Nat) (K : List SV → List SO → Prop) (tm : List SV) (ob : List SO) : Nat → Prop
  | 0 => n = 0 → K (tm.set t (.one (.sc (.num kd 0)))) ob
  | k + 1 => splitAll kd n t K tm ob k ∧ (n = ((k + 1 : Nat) : Int) → K (tm.set t (.one (.sc (.num kd ((k + 1 : Nat) : Int))))) ob)
def splitK (sp : Option (Nat × Nat)) (K : List SV → List SO → Prop) (tm : List SV) (ob : List SO) : Prop :=
  match sp with
  | none => K tm ob
  | some (t, k) =>
    match tm.getD t .any with
    | .one (.sc (.val (.int kd n))) => (0 ≤ n ∧ n ≤ (k : Int)) ∧ splitAll kd n t K tm ob k
    | _ => K tm ob

/-- Every order that a region may draw, one by one. -/
def allOf : List Nat → (Nat → Prop) → Prop
  | [], _ => True
  | [i], f => f i
  | i :: r, f => f i ∧ allOf r f
def anyRuns (P : Program) (cx : Cx) (inl : Inl) (ops : Array Oper) (K : List SV → List SO → Prop) : Nat → Array Bool → List SV → List SO → Prop
  | 0, listed, tm, ob => match Region.ready .any ops listed with
    | [] => K tm ob
    | _ => StuckAt "orders"
  | fuel + 1, listed, tm, ob => match Region.ready .any ops listed with
    | [] => K tm ob
    | r => allOf r fun i => match ops[i]? with
      | some o => runs P cx inl ops false i [o] tm ob fun tm ob => anyRuns P cx inl ops K fuel (listed.setIfInBounds i true) tm ob
      | none => StuckAt "orders"

def sx (P : Program) (cx : Cx) (inl : Inl) (dr : Drawn) (iv : List (Nat × Hint)) (N kf kn : Nat) : Code → List SV → List SO → (Exit → List SV → List SO → Prop) → Prop
  | .skip, tm, ob, K => K .normal tm ob
  | .label _, tm, ob, K => K .normal tm ob
  | .exit id, tm, ob, K => K (.exit id) tm ob
  | .ret, tm, ob, K => K .ret tm ob
  | .region id ops draw, tm, ob, K =>
    match draw with
    | false => runs P cx inl ops false 0 ops.toList tm ob (splitK (getSplit iv (kf + id)) (K .normal))
    | true => match dr P cx ops tm ob with
      | some n => runs P cx noInl ops true ob.length (ops.toList.take n) tm (kept ops ob) fun tm ob => runs P cx inl ops false n (ops.toList.drop n) tm ob (splitK (getSplit iv (kf + id)) (K .normal))
      | none => match P.follows .mixedOrders with
        | true => anyRuns P cx inl ops (splitK (getSplit iv (kf + id)) (K .normal)) ops.size (Array.replicate ops.size false) tm ob
        | false => StuckAt "order"
  | .seq x y, tm, ob, K => sx P cx inl dr iv N kf kn x tm ob fun e tm ob => match e with
    | .normal => sx P cx inl dr iv N kf kn y tm ob K
    | e => K e tm ob
  | .cond c x y, tm, ob, K =>
    match rd tm c with
    | some (ps, .sc (.bit true)) => ands ps (sx P cx inl dr iv N kf kn x tm ob K)
    | some (ps, .sc (.bit false)) => ands ps (sx P cx inl dr iv N kf kn y tm ob K)
    | some (ps, .sc (.val (.bool b))) => ands ps ((b = true → sx P cx inl dr iv N kf kn x tm ob K) ∧ (b = false → sx P cx inl dr iv N kf kn y tm ob K))
    | _ => StuckAt "cond"
  | .block id x, tm, ob, K => sx P cx inl dr iv N kf kn x tm ob fun e tm ob => match e with
    | .exit i => match Nat.beq i id with
      | true => K .normal tm ob
      | false => K (.exit i) tm ob
    | e => K e tm ob
  | .loop x, tm, ob, K =>
    match getInv iv (kf + firstId x) with
    | none => sxLoop (sx P cx inl dr iv N kf kn x) K N tm ob
    | some L => (∀ y, closedB (L.tm y) (L.ob y) = true) ∧ ∃ y, L.holds y ∧ ands (weakT tm (L.tm y)) (ands (weakO kn ob (L.ob y)) (∀ y, L.holds y → sx P cx inl dr iv N kf kn x (L.tm y) (L.ob y) fun e tm ob => match e with
      | .normal => ∃ y', L.holds y' ∧ ands (weakT tm (L.tm y')) (ands (weakO kn ob (L.ob y')) (L.less y' < L.less y))
      | e => K e tm ob))
  | _, _, _, _ => StuckAt "code"

/-- The order that a region draws is of no account. -/
def DrawnOK (P : Program) (cx : Cx) (dr : Drawn) : Prop :=
  ∀ ops tm ob n, dr P cx ops tm ob = some n → ∀ {inl : Inl}, InlOK P inl → ∀ {W0 : Base} {ρ : Nat → Nat} {a : Act} {w : World} {Q : Exit → Act → World → Prop} {K : List SV → List SO → Prop} {id : Nat},
    Holds W0 ρ tm ob a w → runs P cx noInl ops true ob.length (ops.toList.take n) tm (kept ops ob) (fun tm ob => runs P cx inl ops false n (ops.toList.drop n) tm ob K) → (∀ ρ tm ob a w, Holds W0 ρ tm ob a w → K tm ob → Q .normal a w) → (Code.region id ops true).wp P Q a w
def noDraw : Drawn := fun _ _ _ _ _ => none
theorem noDraw_ok (P : Program) (cx : Cx) : DrawnOK P cx noDraw := fun _ _ _ _ h => by simp [noDraw] at h

section
variable {P : Program} {W0 : Base}

theorem wC_sound {x y : SC} (h : Ok (wC x y)) (ρ : Nat → Nat) : x.conc ρ = y.conc ρ := by
  unfold wC at h
  split at h
  · split at h
    · rename_i e; obtain ⟨rfl, rfl⟩ := e; rfl
    · exact h.1.elim
  · split at h
    · rfl
    · rfl
    · exact h.1.elim
  · split at h
    · rename_i e
      simp only [Bool.and_eq_true] at e
      rw [Nat.eq_of_beq_eq_true e.1, Nat.eq_of_beq_eq_true e.2]
    · exact h.1.elim
  · split at h
    · rename_i e
      simp only [Bool.and_eq_true] at e
      rw [Nat.eq_of_beq_eq_true e.1.1, Nat.eq_of_beq_eq_true e.1.2, Nat.eq_of_beq_eq_true e.2, h.1]
    · exact h.1.elim
  · exact sameC_sound h.1 ρ
theorem wK_sound (ρ : Nat → Nat) (xs ys : List SK) : Ok (wK xs ys) → concs ρ xs = concs ρ ys := by
  induction xs, ys using wK.induct with
  | case1 => intro _; rfl
  | case2 a r b r' ih =>
    intro h
    simp only [wK] at h
    rw [concs_cons, concs_cons ρ (.u b), concs_u_congr h.1, ih h.2]
  | case3 x r y r' ih =>
    intro h
    simp only [wK] at h
    obtain ⟨h1, h2⟩ := Ok.append.1 h
    rw [concs_cons, concs_cons ρ (.c y), ih h2]
    simp [concs, flat, SK.cells, wC_sound h1 ρ]
  | case4 xs ys h1 h2 h3 =>
    intro h
    rw [wK] at h <;> first | exact sameK_sound ρ _ _ h.1 | assumption
theorem wA_sound (ρ : Nat → Nat) {x y : SA} (h : Ok (wA x y)) : x.conc ρ = y.conc ρ := by
  unfold wA at h
  split at h
  · exact wC_sound h ρ
  · simp only [SA.conc, wK_sound ρ _ _ h]
  · exact h.1.elim
theorem wL_sound (ρ : Nat → Nat) : ∀ {xs ys : List SA}, Ok (wL xs ys) → xs.map (SA.conc ρ) = ys.map (SA.conc ρ)
  | [], [], _ => rfl
  | x :: r, y :: r', h => by
    simp only [wL] at h
    obtain ⟨h1, h2⟩ := Ok.append.1 h
    rw [List.map_cons, List.map_cons, wA_sound ρ h1, wL_sound ρ h2]
  | [], _ :: _, h | _ :: _, [], h => h.1.elim
theorem weakV_sound {ρ : Nat → Nat} {s s' : SV} (h : Ok (weakV s s')) : ∀ v, s.rep ρ v → s'.rep ρ v := by
  unfold weakV at h
  split at h
  · exact fun _ _ => trivial
  · intro v k; simp only [SV.rep] at k ⊢; rw [k, wA_sound ρ h]
  · intro v k; simp only [SV.rep] at k ⊢; rw [k, wL_sound ρ h]
  · obtain ⟨rfl, h⟩ := h
    intro v k; simp only [SV.rep] at k ⊢; rw [k, wA_sound ρ h]
  · exact h.1.elim
theorem weakT_sound : ∀ {tm tm' : List SV}, Ok (weakT tm tm') → tm.length = tm'.length ∧ ∀ t : Nat, Ok (weakV (tm.getD t .any) (tm'.getD t .any))
  | [], [], _ => ⟨rfl, fun t => by simp [weakV, Ok]⟩
  | s :: l, s' :: l', h => by
    simp only [weakT] at h
    obtain ⟨h1, h2⟩ := Ok.append.1 h
    obtain ⟨a1, a2⟩ := weakT_sound h2
    refine ⟨by simp [a1], fun t => ?_⟩
    cases t with
    | zero => exact h1
    | succ t => simpa using a2 t
  | [], _ :: _, h => h.1.elim
  | _ :: _, [], h => h.1.elim
theorem weakO_sound : ∀ (n : Nat) (ob ob' : List SO), n ≤ ob.length → Ok (weakO n ob ob') → n ≤ ob'.length ∧ (∀ (i : Nat) e ks sp, ob'[i]? = some (.cells e ks sp) → ∃ ks0, ob[i]? = some (.cells e ks0 sp) ∧ ∀ ρ, concs ρ ks0 = concs ρ ks) ∧
    (∀ i : Nat, i < n → (∀ e ks sp, ob[i]? = some (.cells e ks sp) → live ob' i ∨ ob'[i]? = some .dead) ∧ (ob[i]? = some .dead → ob'[i]? = some .dead)) := by
  intro n ob ob'
  induction n, ob, ob' using weakO.induct with
  | case1 ob => intro _ _; exact ⟨Nat.zero_le _, fun i e ks sp h => by simp at h, fun i hi => by omega⟩
  | case2 n => intro hn _; simp at hn
  | case3 n e ks sp l e' ks' sp' l' he ih =>
    intro hn h
    simp only [weakO, he] at h
    have he := Nat.eq_of_beq_eq_true he
    subst he
    obtain ⟨hk, hh⟩ := Ok.append.1 h
    have hsp : sp = sp' := hh.1
    have hh' : Ok (weakO (n - 1) l l') := hh.2
    subst hsp
    simp only [List.length_cons] at hn
    obtain ⟨h1, h2, h3⟩ := ih (by omega) hh'
    refine ⟨by simp only [List.length_cons]; omega, fun i e2 k2 s2 hi => ?_, fun i hi => ?_⟩
    · cases i with
      | zero =>
        simp only [List.getElem?_cons_zero, Option.some.injEq, SO.cells.injEq] at hi
        obtain ⟨rfl, rfl, rfl⟩ := hi
        exact ⟨ks, rfl, fun ρ => wK_sound ρ _ _ hk⟩
      | succ i => simp only [List.getElem?_cons_succ] at hi ⊢; exact h2 i _ _ _ hi
    · cases i with
      | zero => exact ⟨fun e2 k2 s2 _ => .inl ⟨e, ks', sp, rfl⟩, fun h => by cases h⟩
      | succ i =>
        obtain ⟨a, b⟩ := h3 i (by omega)
        exact ⟨fun e2 k2 s2 h => a e2 k2 s2 h, fun h => b h⟩
  | case4 n e ks sp l e' ks' sp' l' he =>
    intro hn h
    simp only [weakO, he] at h
    exact h.1.elim
  | case5 n e ks sp l l' ih | case6 n l l' ih | case7 n l l' ih =>
    intro hn h
    simp only [weakO] at h
    simp only [List.length_cons] at hn
    obtain ⟨h1, h2, h3⟩ := ih (by omega) h
    refine ⟨by simp only [List.length_cons]; omega, fun i e2 k2 s2 hi => ?_, fun i hi => ?_⟩
    · cases i with
      | zero => simp at hi
      | succ i => simp only [List.getElem?_cons_succ] at hi ⊢; exact h2 i _ _ _ hi
    · cases i with
      | zero => exact ⟨fun _ _ _ _ => .inr rfl, fun _ => rfl⟩
      | succ i =>
        obtain ⟨a, b⟩ := h3 i (by omega)
        exact ⟨fun e2 k2 s2 h => a e2 k2 s2 h, fun h => b h⟩
  | case8 n l l' ih =>
    intro hn h
    simp only [weakO] at h
    simp only [List.length_cons] at hn
    obtain ⟨h1, h2, h3⟩ := ih (by omega) h
    refine ⟨by simp only [List.length_cons]; omega, fun i e2 k2 s2 hi => ?_, fun i hi => ?_⟩
    · cases i with
      | zero => simp at hi
      | succ i => simp only [List.getElem?_cons_succ] at hi ⊢; exact h2 i _ _ _ hi
    · cases i with
      | zero => exact ⟨fun _ _ _ h => by simp at h, fun h => by simp at h⟩
      | succ i =>
        obtain ⟨a, b⟩ := h3 i (by omega)
        exact ⟨fun e2 k2 s2 h => a e2 k2 s2 h, fun h => b h⟩
  | case9 => intro _ h; rw [weakO] at h <;> first | exact h.1.elim | assumption

theorem Holds.weaken {ρ : Nat → Nat} {tm tm' : List SV} {ob ob' : List SO} {a : Act} {w : World} (H : Holds W0 ρ tm ob a w) {kn : Nat} (hkn : W0.ob.length ≤ kn) (hkl : kn ≤ ob.length) (ht : Ok (weakT tm tm')) (ho : Ok (weakO kn ob ob')) (hc : closedB tm' ob' = true) : Holds W0 ρ tm' ob' a w ∧ kn ≤ ob'.length := by
  obtain ⟨h1, h2⟩ := weakT_sound ht
  obtain ⟨k1, k2, k3⟩ := weakO_sound _ _ _ hkl ho
  simp only [closedB, Bool.and_eq_true, List.all_eq_true] at hc
  obtain ⟨⟨c1, c2⟩, c3⟩ := hc
  refine ⟨⟨H.size.trans h1, fun t => weakV_sound (h2 t) _ (H.rep t), fun t => ?_, H.defers, H.below, ⟨fun i e ks sp hi => ?_, fun i j e ks sp e' ks' sp' hi hj hij => ?_⟩, fun i hi => ?_, fun i hi => ?_, by omega⟩, k1⟩
  · rcases Nat.lt_or_ge t tm'.length with hlt | hge
    · have := c1 tm'[t] (List.getElem_mem hlt)
      simp only [List.getD_eq_getElem?_getD, List.getElem?_eq_getElem hlt, Option.getD_some]
      exact SV.bndB_iff (fun _ => liveB_iff) this
    · simp only [List.getD_eq_getElem?_getD, List.getElem?_eq_none hge, Option.getD_none]
      trivial
  · obtain ⟨ks0, h0, hs⟩ := k2 i e ks sp hi
    obtain ⟨a1, a2, a3, a4⟩ := H.mem.obj i e ks0 sp h0
    rw [hs ρ] at a2
    refine ⟨a1, a2, fun k hk => ?_, fun k hk => ?_⟩
    · have := c2 (.cells e ks sp) (List.mem_of_getElem? hi)
      simp only [obB, List.all_eq_true] at this
      exact SK.bndB_iff (fun _ => liveB_iff) (this k hk)
    · have := c3 (.cells e ks sp) (List.mem_of_getElem? hi)
      simp only [List.all_eq_true] at this
      exact this k hk
  · obtain ⟨_, h0, _⟩ := k2 i _ _ _ hi
    obtain ⟨_, h0', _⟩ := k2 j _ _ _ hj
    exact H.mem.inj _ _ _ _ _ _ _ _ h0 h0' hij
  · have hlt : i < kn := by
      obtain ⟨e, ks, sp, h⟩ := hi
      have := ob_lt h; omega
    rcases H.kept.1 i hi with ⟨⟨e, ks, sp, q1⟩, q2⟩ | q
    · rcases (k3 i hlt).1 e ks sp q1 with q | q
      · exact .inl ⟨q, q2⟩
      · exact .inr q
    · exact .inr ((k3 i hlt).2 q)
  · have hlt := ob_lt hi
    exact (k3 i (by omega)).2 (H.kept.2.1 i hi)

theorem splitAll_sound {kd : IntKind} {t : Nat} {K : List SV → List SO → Prop} {tm : List SV} {ob : List SO} : ∀ {k j : Nat}, splitAll kd (j : Int) t K tm ob k → j ≤ k → K (tm.set t (.one (.sc (.num kd (j : Int))))) ob
  | 0, j, h, hj => by
    have : j = 0 := by omega
    subst this
    exact h rfl
  | k + 1, j, h, hj => by
    rcases Nat.lt_or_ge j (k + 1) with hlt | hge
    · exact splitAll_sound h.1 (by omega)
    · have : j = k + 1 := by omega
      subst this
      exact h.2 rfl
theorem splitK_sound {ρ : Nat → Nat} {tm : List SV} {ob : List SO} {a : Act} {w : World} (H : Holds W0 ρ tm ob a w) {sp : Option (Nat × Nat)} {K : List SV → List SO → Prop} (h : splitK sp K tm ob) : ∃ tm', Holds W0 ρ tm' ob a w ∧ K tm' ob := by
  unfold splitK at h
  split at h
  · exact ⟨tm, H, h⟩
  · rename_i t k
    split at h
    · rename_i kd n hn
      obtain ⟨⟨h0, h1⟩, h⟩ := h
      obtain ⟨j, rfl⟩ := Int.eq_ofNat_of_zero_le h0
      refine ⟨tm.set t (.one (.sc (.num kd (j : Int)))), ?_, splitAll_sound h (by omega)⟩
      have hr := H.rep t
      rw [hn] at hr
      refine ⟨by rw [List.length_set]; exact H.size, fun u => ?_, fun u => ?_, H.defers, H.below, H.mem, H.kept⟩
      · have hu := H.rep u
        simp only [List.getD_eq_getElem?_getD, List.getElem?_set] at hu ⊢
        by_cases e : t = u
        · subst e
          by_cases hl : t < tm.length
          · simp only [hl, if_true, Option.getD_some]; exact hr
          · simp only [hl, if_true, if_false, Option.getD_none]; exact trivial
        · simp only [e, if_false]; exact hu
      · have hu := H.bnd u
        simp only [List.getD_eq_getElem?_getD, List.getElem?_set] at hu ⊢
        by_cases e : t = u
        · subst e
          by_cases hl : t < tm.length
          · simp only [hl, if_true, Option.getD_some]; exact trivial
          · simp only [hl, if_true, if_false, Option.getD_none]; exact trivial
        · simp only [e, if_false]; exact hu
    · exact ⟨tm, H, h⟩

theorem sxLoop_sound {c : Code} {body : List SV → List SO → (Exit → List SV → List SO → Prop) → Prop} 
    (hbody : ∀ {ρ : Nat → Nat} {tm : List SV} {ob : List SO} {a : Act} {w : World} {K : Exit → List SV → List SO → Prop} {Q : Exit → Act → World → Prop}, Holds W0 ρ tm ob a w → body tm ob K → (∀ e ρ tm ob a w, Holds W0 ρ tm ob a w → K e tm ob → Q e a w) → c.wp P Q a w)
    {K : Exit → List SV → List SO → Prop} {Q : Exit → Act → World → Prop} (hK : ∀ e ρ tm ob a w, Holds W0 ρ tm ob a w → K e tm ob → Q e a w) :
    ∀ (n : Nat) {ρ : Nat → Nat} {tm : List SV} {ob : List SO} {a : Act} {w : World}, Holds W0 ρ tm ob a w → sxLoop body K n tm ob → Code.rounds P c Q n a w
  | 0, _, _, _, _, _, _, h => h.no
  | n + 1, ρ, tm, ob, a, w, H, h => by
    rw [rounds_succ]
    refine hbody H h fun e ρ' tm' ob' a' w' H' h' => ?_
    cases e <;> first
      | exact sxLoop_sound hbody hK n H' h'
      | exact hK _ ρ' tm' ob' a' w' H' h'

theorem allOf_mem : ∀ {l : List Nat} {f : Nat → Prop}, allOf l f → ∀ i ∈ l, f i
  | [], _, _, i, hi => by simp at hi
  | [j], f, h, i, hi => by simp only [List.mem_singleton] at hi; subst hi; exact h
  | j :: k :: r, f, h, i, hi => by
    rcases List.mem_cons.1 hi with rfl | hi
    · exact h.1
    · exact allOf_mem h.2 i hi
theorem anyRuns_sound {cx : Cx} (hcx : CxOK P cx) {inl : Inl} (hin : InlOK P inl) {ops : Array Oper} {Q : Exit → Act → World → Prop} {K : List SV → List SO → Prop} (hK : ∀ ρ tm ob a w, Holds W0 ρ tm ob a w → K tm ob → Q .normal a w) :
    ∀ (fuel : Nat) (listed : Array Bool) (ρ : Nat → Nat) (tm : List SV) (ob : List SO) (a : Act) (w : World), Holds W0 ρ tm ob a w → anyRuns P cx inl ops K fuel listed tm ob → wpAny P .any ops Q fuel listed a w
  | 0, listed, ρ, tm, ob, a, w, H, h => by
    simp only [anyRuns] at h
    split at h
    · rename_i hr
      exact ⟨hr, hK ρ tm ob a w H h⟩
    · exact h.no
  | fuel + 1, listed, ρ, tm, ob, a, w, H, h => by
    simp only [anyRuns] at h
    split at h
    · rename_i hr
      exact ⟨fun _ => hK ρ tm ob a w H h, fun i hi => by rw [hr] at hi; simp at hi⟩
    · rename_i hr
      refine ⟨fun hr' => absurd hr' (by simpa using hr), fun i hi => ?_⟩
      have hi' := allOf_mem h i hi
      unfold wpOp
      cases ho : ops[i]? with
      | none =>
        rw [ho] at hi'
        exact hi'.no
      | some o =>
        rw [ho] at hi'
        exact runs_step hcx hin H hi' fun ρ' tm' ob' a' w' H' h' => anyRuns_sound hcx hin hK fuel _ ρ' tm' ob' a' w' H' h'
theorem Holds.drawnOne {ρ : Nat → Nat} {tm : List SV} {ob : List SO} {a : Act} {w : World} (H : Holds W0 ρ tm ob a w) : Holds W0 ρ tm ob a { w with drawn := w.drawn + 1 } :=
  ⟨H.size, H.rep, H.bnd, H.defers, Below.drew H.below, ⟨H.mem.obj, H.mem.inj⟩, H.kept⟩
theorem sx_sound {cx : Cx} (hcx : CxOK P cx) {inl : Inl} (hin : InlOK P inl) {dr : Drawn} (hdr : DrawnOK P cx dr) {iv : List (Nat × Hint)} {N kf kn : Nat} (hkn : W0.ob.length = kn) : ∀ (c : Code) {ρ : Nat → Nat} {tm : List SV} {ob : List SO} {a : Act} {w : World} {K : Exit → List SV → List SO → Prop} {Q : Exit → Act → World → Prop},
    Holds W0 ρ tm ob a w → sx P cx inl dr iv N kf kn c tm ob K → (∀ e ρ tm ob a w, Holds W0 ρ tm ob a w → K e tm ob → Q e a w) → c.wp P Q a w
  | .skip, ρ, tm, ob, a, w, K, Q, H, h, hK => wp_skip (hK _ ρ tm ob a w H h)
  | .label _, ρ, tm, ob, a, w, K, Q, H, h, hK => wp_label (hK _ ρ tm ob a w H h)
  | .exit id, ρ, tm, ob, a, w, K, Q, H, h, hK => wp_exit (hK _ ρ tm ob a w H h)
  | .ret, ρ, tm, ob, a, w, K, Q, H, h, hK => wp_ret (hK _ ρ tm ob a w H h)
  | .region id ops draw, ρ, tm, ob, a, w, K, Q, H, h, hK => by
    simp only [sx] at h
    have hK' : ∀ ρ tm ob a w, Holds W0 ρ tm ob a w → splitK (getSplit iv (kf + id)) (K .normal) tm ob → Q .normal a w := by
      intro ρ tm ob a w H h
      obtain ⟨tm', H', h'⟩ := splitK_sound H h
      exact hK _ ρ tm' ob a w H' h'
    split at h
    · exact wp_region_list (runs_sound hcx hin hK' H h)
    · split at h
      · rename_i hd
        exact hdr _ _ _ _ hd hin H h hK'
      · split at h
        · rename_i hm
          exact wp_region_any hm (anyRuns_sound hcx hin hK' _ _ ρ tm ob a _ H.drawnOne h)
        · exact h.no
  | .seq x y, ρ, tm, ob, a, w, K, Q, H, h, hK => by
    simp only [sx] at h
    refine wp_seq (sx_sound hcx hin hdr hkn x H h fun e ρ' tm' ob' a' w' H' h' => ?_)
    cases e <;> first
      | exact sx_sound hcx hin hdr hkn y H' h' hK
      | exact hK _ ρ' tm' ob' a' w' H' h'
  | .cond c x y, ρ, tm, ob, a, w, K, Q, H, h, hK => by
    simp only [sx] at h
    split at h
    · rename_i ps hc
      obtain ⟨hp, h⟩ := ands_iff.1 h
      exact wp_cond_true (rd_sound hc hp H).1 (sx_sound hcx hin hdr hkn x H h hK)
    · rename_i ps hc
      obtain ⟨hp, h⟩ := ands_iff.1 h
      exact wp_cond_false (rd_sound hc hp H).1 (sx_sound hcx hin hdr hkn y H h hK)
    · rename_i ps b hc
      obtain ⟨hp, h⟩ := ands_iff.1 h
      exact wp_cond_split (rd_sound hc hp H).1 (fun e => sx_sound hcx hin hdr hkn x H (h.1 e) hK) (fun e => sx_sound hcx hin hdr hkn y H (h.2 e) hK)
    · exact h.no
  | .block id x, ρ, tm, ob, a, w, K, Q, H, h, hK => by
    simp only [sx] at h
    refine wp_block (sx_sound hcx hin hdr hkn x H h fun e ρ' tm' ob' a' w' H' h' => ?_)
    cases e with
    | exit i =>
      simp only at h'
      simp only [Exit.inBlock]
      split at h'
      · rename_i e; rw [if_pos (Nat.eq_of_beq_eq_true e)]; exact hK _ ρ' tm' ob' a' w' H' h'
      · rename_i e; rw [if_neg (Nat.ne_of_beq_eq_false e)]; exact hK _ ρ' tm' ob' a' w' H' h'
    | _ => exact hK _ ρ' tm' ob' a' w' H' h'
  | .loop x, ρ, tm, ob, a, w, K, Q, H, h, hK => by
    simp only [sx] at h
    split at h
    · exact wp_loop_rounds N (sxLoop_sound (fun H h hK => sx_sound hcx hin hdr hkn x H h hK) hK N H h)
    · rename_i L _
      obtain ⟨hcl, y, hy, h⟩ := h
      obtain ⟨ht, h⟩ := ands_iff.1 h
      obtain ⟨ho, hround⟩ := ands_iff.1 h
      have hle : ∀ {ρ : Nat → Nat} {tm : List SV} {ob : List SO} {a : Act} {w : World}, Holds W0 ρ tm ob a w → kn ≤ ob.length := fun H => by have := H.kept.2.2; omega
      refine wp_loop_ghost (fun n a w => ∃ y ρ, L.less y = n ∧ L.holds y ∧ Holds W0 ρ (L.tm y) (L.ob y) a w) (L.less y) ⟨y, ρ, rfl, hy, (H.weaken (by omega) (hle H) ht ho (hcl y)).1⟩ ?_
      rintro n a w ⟨y, ρ, rfl, hy, H⟩
      refine sx_sound hcx hin hdr hkn x H (hround y hy) fun e ρ' tm' ob' a' w' H' h' => ?_
      cases e <;> first
        | (obtain ⟨y', hy', h'⟩ := h'
           obtain ⟨ht', h'⟩ := ands_iff.1 h'
           obtain ⟨ho', hlt⟩ := ands_iff.1 h'
           exact ⟨_, hlt, y', ρ', rfl, hy', (H'.weaken (by omega) (hle H') ht' ho' (hcl y')).1⟩)
        | exact hK _ ρ' tm' ob' a' w' H' h'
  | .rangeFunc .., _, _, _, _, _, _, _, _, h, _ | .scope _, _, _, _, _, _, _, _, _, h, _ | .goto _, _, _, _, _, _, _, _, _, h, _ | .refuse _, _, _, _, _, _, _, _, _, h, _ => by simp only [sx] at h; exact h.no

/-! ## A call -/

def resL (P : Program) (tm : List SV) (ob : List SO) : List ResultVar → Option (List SA)
  | [] => some []
  | .tmp t :: r =>
    match ev tm (.tmp t), resL P tm ob r with
    | .one x, some xs => some (x :: xs)
    | _, _ => none
  | .cell t ty :: r =>
    match ev tm (.tmp t), resL P tm ob r with
    | .one x, some xs => match semLoad P ob ty x with
      | some ([], z) => some (z :: xs)
      | _ => none
    | _, _ => none
def resV : List SA → SV
  | [x] => .one x
  | xs => .tup xs
/-- What a call comes to at its end. -/
def ret (P : Program) (rs : List ResultVar) (post : SV → List SO → Prop) : Exit → List SV → List SO → Prop
  | .ret, tm, ob | .normal, tm, ob =>
    match resL P tm ob rs with
    | some xs => post (resV xs) ob
    | none => StuckAt "results"
  | _, _, _ => StuckAt "exit"

theorem resL_sound {ρ : Nat → Nat} {tm : List SV} {ob : List SO} {a : Act} {w : World} (H : Holds W0 ρ tm ob a w) : ∀ {rs : List ResultVar} {xs : List SA}, resL P tm ob rs = some xs →
    (rs.mapM (fun
      | .tmp t => pure (a.tmps.getD t undef)
      | .cell c t => do loadVar t (← asAddr (a.tmps.getD c undef))) : Sem (List Value)).run P w = .ok (xs.map (SA.conc ρ)) w ∧ ∀ x ∈ xs, x.bnd (live ob)
  | [], xs, h => by simp only [resL, Option.some.injEq] at h; subst h; simp
  | .tmp t :: r, xs, h => by
    simp only [resL] at h
    split at h
    · rename_i x xs' h1 h2
      simp only [Option.some.injEq] at h; subst h
      have hr := (H.ev (.tmp t)).1
      have hb := (H.ev (.tmp t)).2
      rw [h1] at hr hb
      simp only [SV.rep, Act.eval] at hr
      obtain ⟨ih, ihb⟩ := resL_sound H h2
      refine ⟨by simp only [List.mapM_cons, Sem.run_bind, Sem.run_pure, Result.andThen_ok, hr, ih, List.map_cons], fun y hy => ?_⟩
      rcases List.mem_cons.1 hy with rfl | hy
      · exact hb
      · exact ihb y hy
    · cases h
  | .cell t ty :: r, xs, h => by
    simp only [resL] at h
    split at h
    · rename_i x xs' h1 h2
      split at h
      · rename_i z hz
        simp only [Option.some.injEq] at h; subst h
        have hr := (H.ev (.tmp t)).1
        rw [h1] at hr
        simp only [SV.rep, Act.eval] at hr
        obtain ⟨e, hb⟩ := semLoad_sound (P := P) H hz trivial
        obtain ⟨b, off, hx⟩ : ∃ b off, x.conc ρ = .pointer (some ⟨b, off, none⟩) := by
          unfold semLoad at hz
          split at hz
          · exact ⟨_, _, rfl⟩
          · exact ⟨_, _, rfl⟩
          · cases hz
        rw [hx] at e hr
        simp only [Instr.loadAt, Instr.sureAddr, Sem.run_bind, Sem.run_pure, Result.andThen_ok] at e
        obtain ⟨ih, ihb⟩ := resL_sound H h2
        have hp : asAddr (a.tmps.getD t undef) = pure ⟨b, off, none⟩ := by rw [hr]; rfl
        refine ⟨by simp only [List.mapM_cons, Sem.run_bind, Sem.run_pure, Result.andThen_ok, hp, ih, List.map_cons, e], fun y hy => ?_⟩
        rcases List.mem_cons.1 hy with rfl | hy
        · exact hb
        · exact ihb y hy
      · cases h
    · cases h
theorem results_sound {ρ : Nat → Nat} {tm : List SV} {ob : List SO} {a : Act} {w : World} (H : Holds W0 ρ tm ob a w) {fn : Func} {xs : List SA} (h : resL P tm ob fn.results.toList = some xs) :
    ∃ v, (results fn a.tmps).run P w = .ok v w ∧ (resV xs).rep ρ v ∧ (resV xs).bnd (live ob) := by
  obtain ⟨this, hb⟩ := resL_sound H h
  have e : (results fn a.tmps).run P w = .ok (if h : (xs.map (SA.conc ρ)).toArray.size = 1 then (xs.map (SA.conc ρ)).toArray[0] else .tuple (xs.map (SA.conc ρ)).toArray) w := by
    unfold results
    rw [Sem.run_bind, Array.mapM_eq_mapM_toList, Sem.run_map]
    erw [this]
    rfl
  rw [e]
  refine ⟨_, rfl, ?_, ?_⟩
  · match xs with
    | [] => simp [resV, SV.rep]
    | [x] => simp [resV, SV.rep]
    | x :: y :: r => simp [resV, SV.rep]
  · match xs, hb with
    | [], hb => exact hb
    | [x], hb => exact hb x (by simp)
    | x :: y :: r, hb => exact hb

/-- The slots as a call begins. -/
def slots0 (args : List SA) (n : Nat) : List SV := args.map .one ++ List.replicate (n - args.length) .any

theorem calls_of_sx {cx : Cx} (hcx : CxOK P cx) {inl : Inl} (hin : InlOK P inl) {dr : Drawn} (hdr : DrawnOK P cx dr) (iv : List (Nat × Hint)) (N kf : Nat) {f : FuncId} {fn : Func} {c : Code} (hf : P.funcs[f]? = some fn) (hb : fn.body = some c) {Z : World} {ob : List SO} (args : List SA) (hargs : ∀ x ∈ args, x.bnd (live ob)) (ρ : Nat → Nat) (w : World)
    (hB : Below Z.heap.size Z w) (hm : Mem Z.heap.size ρ ob w)
    (post : SV → List SO → Prop) {R : Ending → World → Prop} (hR : ∀ sv ob' ρ' v w', post sv ob' → sv.rep ρ' v → sv.bnd (live ob') → Below Z.heap.size Z w' → Mem Z.heap.size ρ' ob' w' → Kept ⟨Z, ob, ρ⟩ ρ' ob' → R (.returned v) w')
    (h : sx P cx inl dr iv N kf ob.length c (slots0 args fn.ntmps) ob (ret P fn.results.toList post)) : Calls P f (args.map (SA.conc ρ)).toArray w R := by
  refine calls_of_wp hf hb ?_
  have H : Holds ⟨Z, ob, ρ⟩ ρ (slots0 args fn.ntmps) ob { tmps := (args.map (SA.conc ρ)).toArray ++ Array.replicate (fn.ntmps - (args.map (SA.conc ρ)).toArray.size) undef, defers := [] } w := by
    have get : ∀ t : Nat, (slots0 args fn.ntmps).getD t .any = match args[t]? with | some x => .one x | none => .any := by
      intro t
      simp only [slots0, List.getD_eq_getElem?_getD, List.getElem?_append, List.length_map, List.getElem?_map]
      by_cases ht : t < args.length
      · simp [ht]
      · simp only [ht, if_false, List.getElem?_replicate, List.getElem?_eq_none (Nat.le_of_not_lt ht)]
        split <;> rfl
    refine ⟨by simp [slots0], fun t => ?_, fun t => ?_, rfl, hB, hm, fun i hi => .inl ⟨hi, rfl⟩, fun i hi => hi, Nat.le_refl _⟩
    · rw [get t]
      cases ht : args[t]? with
      | none => trivial
      | some x =>
        obtain ⟨hlt, rfl⟩ := List.getElem?_eq_some_iff.1 ht
        simp [SV.rep, Array.getElem?_append, hlt]
    · rw [get t]
      cases ht : args[t]? with
      | none => trivial
      | some x => exact hargs x (List.mem_of_getElem? ht)
  refine sx_sound hcx hin hdr rfl c H h fun e ρ' tm ob' a w' H' h' => ?_
  have fin : (match resL P tm ob' fn.results.toList with
      | some xs => post (resV xs) ob'
      | none => StuckAt "results") → a.defers = [] ∧ ∃ v, (results fn a.tmps).run P w' = .ok v w' ∧ R (.returned v) w' := by
    intro h'
    split at h'
    · rename_i xs hx
      obtain ⟨v, hv, hr, hbd⟩ := results_sound H' hx
      exact ⟨H'.defers, v, hv, hR _ ob' ρ' v w' h' hr hbd H'.below H'.mem H'.kept⟩
    · exact h'.no
  cases e with
  | ret => exact fin h'
  | normal => exact fin h'
  | _ => exact h'.no

/-- Calls run in place, d of them in one another. -/
def inlD (P : Program) (cx : Cx) (dr : Drawn) (iv : List (Nat × Hint)) (N : Nat) : Nat → Inl
  | 0 => noInl
  | d + 1 => fun f args ob k =>
    match P.funcs[f]? with
    | some fn =>
      match fn.body, fn.name == "runtime.NumGoroutine" with
      | some c, false => sx P cx (inlD P cx dr iv N d) dr iv N ((f + 1) * 100000) ob.length c (slots0 args fn.ntmps) ob (ret P fn.results.toList k)
      | _, _ => StuckAt "no text"
    | none => StuckAt "no function"

theorem run_callFunc_enter {P : Program} {f : Nat} {fn : Func} (hf : P.funcs[f]? = some fn) (hb : fn.body.isSome = true) (hn : (fn.name == "runtime.NumGoroutine") = false) (args : Array Value) (w : World) : (callFunc f args).run P w = .ok (.enter f args) w := by
  have hb' : fn.body.isNone = false := by cases h : fn.body <;> simp [h] at hb ⊢
  unfold callFunc
  rw [Sem.run_bind, run_program, Result.andThen_ok]
  simp only [hf, hn, hb', Bool.false_eq_true, if_false, Sem.run_pure]

theorem inlD_ok {cx : Cx} (hcx : CxOK P cx) {dr : Drawn} (hdr : DrawnOK P cx dr) (iv : List (Nat × Hint)) (N : Nat) : ∀ d, InlOK P (inlD P cx dr iv N d)
  | 0 => noInl_ok P
  | d + 1 => by
    intro f args ob k h Z ρ tm a w H hargs
    simp only [inlD] at h
    split at h
    case h_2 => exact h.no
    rename_i fn hf
    split at h
    case h_2 => exact h.no
    rename_i c hb hn
    refine ⟨run_callFunc_enter hf (by rw [hb]; rfl) hn _ w, ?_⟩
    refine calls_of_sx hcx (inlD_ok hcx hdr iv N d) hdr iv N _ hf hb args hargs ρ w H.below H.mem k (fun sv ob' ρ' v w' hk hr hbd hB hm hkp => ?_) h
    refine ⟨v, rfl, ρ', sv, ob', hk, hr, hbd, H.onto (fun i hi hi' => ?_) hB hm ⟨fun i hi => ?_, fun i hi => hkp.2.1 i (H.kept.2.1 i hi), Nat.le_trans H.kept.2.2 hkp.2.2⟩⟩
    · rcases hkp.1 i hi with ⟨_, e⟩ | e
      · exact e
      · obtain ⟨_, _, _, h'⟩ := hi'; rw [e] at h'; cases h'
    · rcases H.kept.1 i hi with ⟨k1, k2⟩ | k1
      · rcases hkp.1 i k1 with ⟨q1, q2⟩ | q
        · exact .inl ⟨q1, Eq.trans q2 k2⟩
        · exact .inr q
      · exact .inr (hkp.2.1 i k1)
end

end Go.Sx
end
