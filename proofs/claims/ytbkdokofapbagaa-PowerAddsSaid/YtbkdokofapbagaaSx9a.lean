/-
  A calculus of symbolic states for walks over translated Go code, part 9, its end: a region in the text's order is what it says.
-/
import Derived.Test.YtbkdokofapbagaaSx9
namespace Go.Sx
open Go.RowKit
section
variable {P : Program} {W0 : Base} {ρ : Nat → Nat} {tm : List SV} {ob : List SO} {a : Act} {w : World}

theorem all_bnd {ob : List SO} {ks : List SK} (h : ks.all (SK.bndB (liveB ob)) = true) : ∀ k ∈ ks, k.bnd (live ob) := fun k hk => SK.bndB_iff (fun _ => liveB_iff) (List.all_eq_true.1 h k hk)
theorem all_obB {ob ob1 : List SO} (h : ob1.all (obB (liveB ob)) = true) {i : Nat} {e : TypeId} {ks : List SK} {sp : Nat} (hi : ob1[i]? = some (.cells e ks sp)) : ∀ k ∈ ks, k.bnd (live ob) := by
  have := List.all_eq_true.1 h _ (List.mem_of_getElem? hi)
  exact all_bnd this

/-- The slice that grows, as the library's law has it. -/
theorem headOf_sound (H : Holds W0 ρ tm ob a w) {size n : Nat} {e : TypeId} {s : SA} {qs : List Prop} {old : List SK} {ob1 : List SO} (h : headOf ob size e s = some (n, qs, old, ob1)) (hq : Ok qs) :
    w.ownsRow W0.w.heap.size e size (s.conc ρ) n (concs ρ old) ∧
    ((s.conc ρ = .slice none 0 0 ∧ ob1 = ob) ∨ ∃ o ks sp, ob[o]? = some (.cells e ks sp) ∧ ob1 = ob.set o .dead ∧ (s.conc ρ).ownBlock = some (ρ o)) := by
  unfold headOf at h
  split at h
  · simp only [Option.some.injEq, Prod.mk.injEq] at h
    obtain ⟨rfl, rfl, rfl, rfl⟩ := h
    exact ⟨World.ownsRow_nil w _ e size, .inl ⟨rfl, rfl⟩⟩
  · rename_i o m cap
    split at h
    · rename_i e' ks sp ho
      split at h
      · rename_i hc
        obtain ⟨c1, c2⟩ := hc
        have c1 := Nat.eq_of_beq_eq_true c1
        have c2 := Nat.eq_of_beq_eq_true c2
        subst c1
        simp only [Option.some.injEq, Prod.mk.injEq] at h
        obtain ⟨rfl, rfl, rfl, rfl⟩ := h
        obtain ⟨⟨q0, q1, q2⟩, _⟩ := hq
        obtain ⟨h1, ⟨rest, hr, h2⟩, h3, h4⟩ := H.mem.obj o e' ks sp ho
        have hl : (concs ρ ks).length = m * size := by simp [concs, c2]
        refine ⟨⟨hl, .inr ⟨ρ o, cap, _, rfl, h1, h2, q0, q1, ?_, ?_⟩⟩, .inr ⟨o, ks, sp, ho, rfl, rfl⟩⟩
        · simp only [List.size_toArray, List.length_append, hl, hr, q2]
        · simp only [← hl, List.take_left]
      · cases h
    · cases h
  · cases h
theorem tailOf_sound (H : Holds W0 ρ tm ob a w) {size m : Nat} {x : SA} {new : List SK} (h : tailOf ob size x = some (m, new)) : (concs ρ new).length = m * size ∧ ∃ ad c, x.conc ρ = .slice (some ad) m c ∧ ∀ j u, (concs ρ new)[j]? = some u → w.cell? (ad.add j) = some u := by
  unfold tailOf at h
  split at h
  · rename_i o off m' cap
    split at h
    · rename_i e ks sp ho
      obtain ⟨r, hr, he⟩ := Option.map_eq_some_iff.1 h
      simp only [Prod.mk.injEq] at he
      obtain ⟨rfl, rfl⟩ := he
      obtain ⟨h1, ⟨rest, _, h2⟩, h3, h4⟩ := H.mem.obj o e ks sp ho
      obtain ⟨l1, l2⟩ := concs_sub hr ρ
      refine ⟨by rw [l2]; simp; omega, ⟨ρ o, off, none⟩, cap, rfl, fun j u hj => ?_⟩
      rw [l2, List.getElem?_take] at hj
      split at hj
      · rename_i hlt
        rw [List.getElem?_drop] at hj
        simp only [add_addr, World.cell?, h2]
        rw [show (concs ρ ks ++ rest).toArray[off + j]? = (concs ρ ks ++ rest)[off + j]? by simp, List.getElem?_append_left (by omega)]
        exact hj
      · cases hj
    · cases h
  · cases h

theorem live_dead {ob : List SO} {o i : Nat} : live (ob.set o .dead) i ↔ live ob i ∧ i ≠ o := by
  constructor
  · rintro ⟨e, ks, sp, h⟩
    rw [List.getElem?_set] at h
    split at h
    · split at h <;> cases h
    · rename_i hne; exact ⟨⟨e, ks, sp, h⟩, fun e => hne e.symm⟩
  · rintro ⟨⟨e, ks, sp, h⟩, hne⟩
    exact ⟨e, ks, sp, by rw [List.getElem?_set_ne (fun e => hne e.symm)]; exact h⟩

/-- An append: the grown row is a new block; what it grew out of is dead. -/
theorem app_sound (H : Holds W0 ρ tm ob a w) {ts : List TypeId} {ty : TypeId} {s x : SA} {qs : List Prop} {e : TypeId} {size n : Nat} {ks : List SK} {ob1 : List SO} (h : appPlan P ob ts s x = some (qs, e, size, n, ks, ob1)) (hq : Ok qs) :
    ∃ v w' c ρ', (Builtin.append_ ts.toArray ty #[s.conc ρ, x.conc ρ]).run P w = .ok v w' ∧ n + c ≤ maxLen ∧ v = SA.conc ρ' (.sc (.sl ob1.length 0 n (n + c))) ∧ live (ob1 ++ [.cells e ks (c * size)]) ob1.length ∧
      Holds W0 ρ' (scrub (ob1 ++ [.cells e ks (c * size)]) tm) (ob1 ++ [.cells e ks (c * size)]) a w' := by
  unfold appPlan at h
  split at h
  case h_2 => cases h
  rename_i t t'
  split at h
  case isFalse => cases h
  rename_i htt
  have htt := Nat.eq_of_beq_eq_true htt
  subst htt
  split at h
  case h_2 => cases h
  rename_i e0 hu
  split at h
  case h_2 => cases h
  rename_i ie hie
  split at h
  case h_2 => cases h
  rename_i z hz
  split at h
  case h_2 => cases h
  rename_i m new n0 qs0 old ob0 ht hh
  split at h
  case isFalse => cases h
  rename_i hc
  simp only [Option.some.injEq, Prod.mk.injEq] at h
  obtain ⟨rfl, rfl, rfl, rfl, rfl, rfl⟩ := h
  obtain ⟨c1, c2, c3, c4, c5, c6, c7, c8, c9⟩ := hc
  obtain ⟨hown, hob⟩ := headOf_sound H hh hq
  obtain ⟨tl, ad, cp, hx, hcells⟩ := tailOf_sound H ht
  have hfit : ∀ u ∈ concs ρ new, u.oneCell' = true := concs_fit (fun k hk => List.all_eq_true.1 c6 k hk) ρ
  obtain ⟨v, w', hrun, hown', hgb, hnil, hwhere⟩ := run_append_own_at (P := P) w W0.w.heap.size t ty e0 ie z ie.size ie.bytes hu hie hz rfl rfl c1 c2 (s.conc ρ) n0 (concs ρ old) hown ad m cp (concs ρ new) tl hcells hfit c4 c5 H.below.size
  have hv : v ≠ .slice none 0 0 := fun e => c3 (hnil.1 e).2
  obtain ⟨hl', h2⟩ := hown'
  rcases h2 with ⟨e, _⟩ | ⟨g, cap, cur, rfl, hbg, hg, hnc, hcm, hcs, htk⟩
  · exact absurd e hv
  have hlen : (concs ρ old ++ concs ρ new).length = (n0 + m) * ie.size := hl'
  have hcc : concs ρ (old ++ new) = concs ρ old ++ concs ρ new := by simp [concs, flat_append]
  have hsp : (cap - (n0 + m)) * ie.size = cur.size - (n0 + m) * ie.size := by rw [hcs, Nat.sub_mul]
  have hcap : n0 + m + (cap - (n0 + m)) = cap := by omega
  -- where each block lies that is still there
  have hl0 : ∀ i, live ob0 i → live ob i := by
    intro i hi
    rcases hob with ⟨_, rfl⟩ | ⟨o, ks, sp, ho, rfl, _⟩
    · exact hi
    · exact (live_dead.1 hi).1
  have hget0 : ∀ (i : Nat) e ks sp, ob0[i]? = some (.cells e ks sp) → ob[i]? = some (.cells e ks sp) := by
    intro i e ks sp hi
    rcases hob with ⟨_, rfl⟩ | ⟨o, ks, sp, ho, rfl, _⟩
    · exact hi
    · rw [List.getElem?_set] at hi
      split at hi
      · split at hi <;> cases hi
      · exact hi
  have hapart : ∀ i, live ob0 i → some (ρ i) ≠ (s.conc ρ).ownBlock := by
    intro i hi
    rcases hob with ⟨e, rfl⟩ | ⟨o, ks, sp, ho, rfl, hb⟩
    · rw [e]; simp [Value.ownBlock]
    · obtain ⟨⟨e1, k1, s1, h1⟩, hne⟩ := live_dead.1 hi
      rw [hb]
      simp only [ne_eq, Option.some.injEq]
      exact fun e => hne (H.mem.inj _ _ _ _ _ _ _ _ h1 ho e)
  have hplace : ∀ i, live ob i → ρ i < w.heap.size := by
    rintro i ⟨e, ks, sp, hi⟩
    obtain ⟨_, ⟨_, _, h2⟩, _⟩ := H.mem.obj i e ks sp hi
    exact heap_lt h2
  have hgne : ∀ i, live ob0 i → ρ i ≠ g := by
    intro i hi e
    have k' : (Value.slice (some ⟨g, 0, none⟩) (n0 + m) cap).ownBlock = some g := rfl
    rw [k'] at hwhere
    rcases hwhere with k | k
    · exact hapart i hi (by rw [e, k])
    · simp only [Option.some.injEq] at k
      have := hplace i (hl0 i hi); omega
  have hlenlt : ∀ i, live ob0 i → i ≠ ob0.length := by
    rintro i ⟨e, ks, sp, hi⟩
    have := ob_lt hi; omega
  have hlen0 : ob0.length = ob.length := by
    rcases hob with ⟨_, rfl⟩ | ⟨o, ks, sp, ho, rfl, _⟩ <;> simp
  have hnew : ∀ i, live ob0 i → live (ob0 ++ [SO.cells e0 (old ++ new) ((cap - (n0 + m)) * ie.size)]) i := by
    rintro i ⟨e, ks, sp, hi⟩
    exact ⟨e, ks, sp, by rw [List.getElem?_append_left (ob_lt hi)]; exact hi⟩
  have hcase : ∀ (i : Nat) e ks sp, (ob0 ++ [SO.cells e0 (old ++ new) ((cap - (n0 + m)) * ie.size)])[i]? = some (.cells e ks sp) → ob0[i]? = some (.cells e ks sp) ∨ (i = ob0.length ∧ e = e0 ∧ ks = old ++ new ∧ sp = (cap - (n0 + m)) * ie.size) := by
    intro i e ks sp hi
    rcases Nat.lt_or_ge i ob0.length with hlt | hge
    · rw [List.getElem?_append_left hlt] at hi; exact .inl hi
    · rw [List.getElem?_append_right hge] at hi
      have : i - ob0.length = 0 := by
        rcases Nat.eq_zero_or_pos (i - ob0.length) with h | h
        · exact h
        · rw [List.getElem?_eq_none (by simp; omega)] at hi; cases hi
      rw [this] at hi
      simp only [List.getElem?_cons_zero, Option.some.injEq, SO.cells.injEq] at hi
      exact .inr ⟨by omega, hi.1.symm, hi.2.1.symm, hi.2.2.symm⟩
  have hag : Agree (live ob0) ρ (grown ρ ob0.length g) := fun i hi => by simp only [grown, if_neg (hlenlt i hi)]
  have hbase : (∀ k, (s.conc ρ).ownBlock = some k → W0.w.heap.size ≤ k) := fun k hk => (hown.lt k hk).1
  refine ⟨.slice (some ⟨g, 0, none⟩) (n0 + m) cap, w', cap - (n0 + m), grown ρ ob0.length g, ?_, by omega, ?_, ⟨e0, old ++ new, (cap - (n0 + m)) * ie.size, by simp⟩, H.onto (fun i hi hi' => ?_) (H.below.grown hgb H.below.size hbase) ⟨fun i e ks sp hi => ?_, fun i j e ks sp e' ks' sp' hi hj hij => ?_⟩ ⟨fun i hi => ?_, fun i hi => ?_, ?_⟩⟩
  · rw [hx]; exact hrun
  · simp [SA.conc, SC.conc, grown, hcap]
  · -- what is there lies where it lay
    obtain ⟨e, ks, sp, h'⟩ := hi'
    rcases hcase i e ks sp h' with k | ⟨k, _⟩
    · exact hag i ⟨_, _, _, k⟩
    · obtain ⟨e1, k1, s1, h1⟩ := hi
      have := ob_lt h1; omega
  · rcases hcase i e ks sp hi with hi | ⟨rfl, rfl, rfl, rfl⟩
    · have hi' := hget0 i e ks sp hi
      obtain ⟨a1, ⟨rs, hr, a2⟩, a3, a4⟩ := H.mem.obj i e ks sp hi'
      have hb0 : ∀ k ∈ ks, k.bnd (live ob0) := all_obB c9 hi
      have hli : live ob0 i := ⟨_, _, _, hi⟩
      rw [hag i hli, hag.sks hb0]
      refine ⟨a1, ⟨rs, hr, ?_⟩, fun k hk => SK.bnd_mono hnew (hb0 k hk), a4⟩
      rw [hgb.block _ (heap_lt a2) (hapart i hli)]; exact a2
    · have hb0 : ∀ k ∈ old ++ new, k.bnd (live ob0) := all_bnd c8
      rw [hag.sks hb0, show grown ρ ob0.length g ob0.length = g by simp [grown]]
      refine ⟨hbg, ⟨cur.toList.drop ((n0 + m) * ie.size), by simp [hsp], ?_⟩, fun k hk => SK.bnd_mono hnew (hb0 k hk), fun k hk => ?_⟩
      · rw [hg, hcc, ← htk, List.take_append_drop, Array.toArray_toList]
      · rcases List.mem_append.1 hk with hk | hk
        · exact List.all_eq_true.1 c7 k hk
        · exact List.all_eq_true.1 c6 k hk
  · rcases hcase i e ks sp hi with h1 | ⟨k1, _⟩ <;> rcases hcase j e' ks' sp' hj with h2 | ⟨k2, _⟩
    · rw [hag i ⟨_, _, _, h1⟩, hag j ⟨_, _, _, h2⟩] at hij
      exact H.mem.inj _ _ _ _ _ _ _ _ (hget0 _ _ _ _ h1) (hget0 _ _ _ _ h2) hij
    · rw [hag i ⟨_, _, _, h1⟩, k2, show grown ρ ob0.length g ob0.length = g by simp [grown]] at hij
      exact absurd hij (hgne i ⟨_, _, _, h1⟩)
    · rw [hag j ⟨_, _, _, h2⟩, k1, show grown ρ ob0.length g ob0.length = g by simp [grown]] at hij
      exact absurd hij.symm (hgne j ⟨_, _, _, h2⟩)
    · omega
  · rcases H.kept.1 i hi with ⟨⟨e, ks, sp, k1⟩, k2⟩ | k
    · have hlt := ob_lt k1
      rcases hob with ⟨_, rfl⟩ | ⟨o, ks', sp', ho, rfl, _⟩
      · exact .inl ⟨hnew i ⟨_, _, _, k1⟩, by rw [hag i ⟨_, _, _, k1⟩, k2]⟩
      · by_cases e : i = o
        · subst e
          exact .inr (by rw [List.getElem?_append_left (by simpa using hlt)]; simp [hlt])
        · have hli : live (ob.set o .dead) i := live_dead.2 ⟨⟨_, _, _, k1⟩, e⟩
          exact .inl ⟨hnew i hli, by rw [hag i hli, k2]⟩
    · refine .inr ?_
      have hlt := ob_lt k
      rw [List.getElem?_append_left (by omega)]
      rcases hob with ⟨_, rfl⟩ | ⟨o, ks', sp', ho, rfl, _⟩
      · exact k
      · have : o ≠ i := by rintro rfl; rw [ho] at k; cases k
        rw [List.getElem?_set_ne this]; exact k
  · have k := H.kept.2.1 i hi
    have hlt := ob_lt k
    rw [List.getElem?_append_left (by omega)]
    rcases hob with ⟨_, rfl⟩ | ⟨o, ks', sp', ho, rfl, _⟩
    · exact k
    · have : o ≠ i := by rintro rfl; rw [ho] at k; cases k
      rw [List.getElem?_set_ne this]; exact k
  · have := H.kept.2.2
    simp only [List.length_append, List.length_singleton]
    omega

theorem cpy_sound (H : Holds W0 ρ tm ob a w) {ts : List TypeId} {ty : TypeId} {s x : SA} {qs : List Prop} {z : SA} {ob1 : List SO} (h : cpyPlan P ob ts s x = some (qs, z, ob1)) :
    ∃ w', (Builtin.copy_ ts.toArray ty #[s.conc ρ, x.conc ρ]).run P w = .ok (z.conc ρ) w' ∧ z.bnd (live ob1) ∧ Holds W0 ρ (scrub ob1 tm) ob1 a w' := by
  have fin : ∀ {ob1 : List SO} {w' : World}, Holds W0 ρ tm ob1 a w' → Holds W0 ρ (scrub ob1 tm) ob1 a w' := fun H1 => H1.onto (fun _ _ _ => rfl) H1.below H1.mem H1.kept
  unfold cpyPlan at h
  split at h
  case h_2 => cases h
  rename_i t ts'
  split at h
  case h_2 => cases h
  rename_i e hu
  split at h
  case h_2 => cases h
  rename_i ie hie
  split at h
  case h_2 => cases h
  rename_i o off n cap
  split at h
  case h_2 => cases h
  rename_i e' ks sp ho
  obtain ⟨h1, ⟨rest, hrest, h2⟩, h3, h4⟩ := H.mem.obj o e' ks sp ho
  have hkl : (concs ρ ks).length = (flat ks).length := by simp [concs]
  split at h
  · rename_i o2 off2 m cap2
    split at h
    case h_2 => cases h
    rename_i e2 ks2 sp2 ho2
    split at h
    case h_2 => cases h
    rename_i new hnw
    split at h
    case isFalse => cases h
    rename_i hf
    obtain ⟨r, hr, he⟩ := Option.map_eq_some_iff.1 h
    simp only [Prod.mk.injEq] at he
    obtain ⟨rfl, rfl, rfl⟩ := he
    obtain ⟨l1, l2⟩ := lay_flat hr
    obtain ⟨g1, ⟨rest2, _, g2⟩, g3, g4⟩ := H.mem.obj o2 e2 ks2 sp2 ho2
    obtain ⟨s1, s2⟩ := concs_sub hnw ρ
    have hlen : (concs ρ new).length = Nat.min m n * ie.size := by rw [s2]; simp; omega
    have hfl : (flat new).length = (concs ρ new).length := by simp [concs]
    have hfit : ∀ u ∈ concs ρ new, u.oneCell' = true := concs_fit (fun k hk => List.all_eq_true.1 hf k hk) ρ
    have hload := run_loadCells_list (P := P) w ⟨ρ o2, off2, none⟩ (concs ρ new) (fun j u hj => by
      rw [s2, List.getElem?_take] at hj
      split at hj
      · rename_i hlt
        rw [List.getElem?_drop] at hj
        simp only [add_addr, World.cell?, g2]
        rw [show (concs ρ ks2 ++ rest2).toArray[off2 + j]? = (concs ρ ks2 ++ rest2)[off2 + j]? by simp, List.getElem?_append_left (by omega)]
        exact hj
      · cases hj)
    have hst := run_storeCells_at (P := P) (ρ o) off e' (concs ρ new) 0 (concs ρ ks ++ rest).toArray w h2 (by simp; omega) hfit
    have hnew : ((concs ρ ks ++ rest).toArray.toList.take (off + 0) ++ concs ρ new ++ (concs ρ ks ++ rest).toArray.toList.drop (off + 0 + (concs ρ new).length)).toArray = (concs ρ r ++ rest).toArray := by
      congr 1
      simp only [Nat.add_zero]
      rw [List.take_append_of_le_length (by omega), List.drop_append_of_le_length (by omega), ← hfl]
      simp only [concs, l2, List.map_append, List.map_take, List.map_drop, List.append_assoc]
    rw [hnew] at hst
    refine ⟨_, ?_, trivial, fin (H.turned ho hrest h2 (bnd_flat.2 (lay_all hr (bnd_flat.1 h3) (fun c hc => mem_sub hnw (bnd_flat.1 g3) c hc))) (fit_flat.2 (lay_all hr (fit_flat.1 h4) (fun c hc => mem_sub hnw (fit_flat.1 g4) c hc))))⟩
    rw [show SA.conc ρ (.sc (.sl o off n cap)) = .slice (some ⟨ρ o, off, none⟩) n cap from rfl, show SA.conc ρ (.sc (.sl o2 off2 m cap2)) = .slice (some ⟨ρ o2, off2, none⟩) m cap2 from rfl]
    rw [hlen, show ie.size = P.cellsOf e by simp [Program.cellsOf, hie]] at hload
    simp [Builtin.copy_, run_underlying hu, Builtin.lenOf, Builtin.firstCells, run_sizeOf w hie, hload, goInt, SA.conc, SC.conc, hst]
  · cases h

/-! ## A region -/

theorem args_eq {a : Act} {args : Array Operand} {ys : List SA} (e1 : args.toList.map a.eval = ys.map (SA.conc ρ)) : args.map a.eval = (ys.map (SA.conc ρ)).toArray := by
  apply Array.ext'
  rw [Array.toList_map, e1]

theorem special_sound {cx : Cx} {inl : Inl} (hin : InlOK P inl) (H : Holds W0 ρ tm ob a w) {o : Oper} {sp : Special} (hs : special cx tm o = some sp) {k : SV → List SO → Prop} (h : doSpecial P inl ob k sp)
    {K : Act → World → Prop} {Q : Exit → Act → World → Prop} (hK : ∀ ρ' a' w' sv ob', k sv ob' → Holds W0 ρ' (put (scrub ob' tm) o.dst sv) ob' a' w' → K a' w') : o.wp P a w K Q := by
  unfold special at hs
  split at hs
  · rename_i x args ts ho
    split at hs
    case h_2 => cases hs
    rename_i p0 f caps p1 ys h0 h1
    split at hs
    · cases hs
    rename_i hcx
    simp only [Option.some.injEq] at hs
    subst hs
    simp only [doSpecial] at h
    obtain ⟨hp, h⟩ := ands_iff.1 h
    obtain ⟨o0, o1⟩ := Ok.append.1 hp
    obtain ⟨ef, bf⟩ := calleeOf_sound H h0 o0
    obtain ⟨e1, b1⟩ := rdL_sound H h1 o1
    have hcaps : (caps.map ofPV).map (SA.conc ρ) = caps.map (PV.conc ρ) := by
      rw [List.map_map]; exact List.map_congr_left fun p _ => ofPV_conc ρ p
    obtain ⟨hrun, hc⟩ := hin f _ ob k h H (fun y hy => by
      rcases List.mem_append.1 hy with hy | hy
      · exact b1 y hy
      · obtain ⟨p, hp, rfl⟩ := List.mem_map.1 hy; exact ofPV_bnd (bf p hp))
    unfold Oper.wp
    rw [run_call_fn ho ef (args_eq e1), ← hcaps, ← List.map_append, hrun, Oper.upon_enter]
    refine hc.mono ?_
    rintro e w' ⟨v, rfl, ρ', sv, ob', hk, hr, hb, H'⟩
    exact hK ρ' _ _ sv ob' hk (H'.put o.dst hr hb)
  · rename_i args ts ho
    split at hs
    case h_2 => cases hs
    rename_i p1 s x h1
    simp only [Option.some.injEq] at hs
    subst hs
    simp only [doSpecial] at h
    split at h
    case h_2 => exact h.no
    rename_i qs e size n ks ob1 hpl
    obtain ⟨hp, h⟩ := ands_iff.1 h
    obtain ⟨o1, o2⟩ := Ok.append.1 hp
    obtain ⟨e1, b1⟩ := rdL_sound H h1 o1
    obtain ⟨v, w', c, ρ', hrun, hc, rfl, hl, H'⟩ := app_sound (ty := o.type) H hpl o2
    rw [Array.toArray_toList] at hrun
    have hx : (execOp a.eval o).run P w = .ok (.value (SA.conc ρ' (.sc (.sl ob1.length 0 n (n + c))))) w' := by
      unfold execOp
      have := args_eq e1
      simp only [List.map_cons, List.map_nil] at this
      simp only [ho, resolve, this, Sem.run_bind, Sem.run_pure, Result.andThen_ok, invoke, builtin, hrun]
    unfold Oper.wp
    rw [hx, Oper.upon_value]
    exact hK ρ' _ _ _ _ (h c hc) (H'.put o.dst (sv := .one (.sc (.sl ob1.length 0 n (n + c)))) rfl hl)
  · rename_i args ts ho
    split at hs
    · cases hs
    case h_3 => cases hs
    rename_i p1 s x _ h1
    simp only [Option.some.injEq] at hs
    subst hs
    simp only [doSpecial] at h
    split at h
    case h_2 => exact h.no
    rename_i qs z ob1 hpl
    obtain ⟨hp, h⟩ := ands_iff.1 h
    obtain ⟨o1, o2⟩ := Ok.append.1 hp
    obtain ⟨e1, b1⟩ := rdL_sound H h1 o1
    obtain ⟨w', hrun, hb, H'⟩ := cpy_sound (ty := o.type) H hpl
    rw [Array.toArray_toList] at hrun
    have hx : (execOp a.eval o).run P w = .ok (.value (z.conc ρ)) w' := by
      unfold execOp
      have := args_eq e1
      simp only [List.map_cons, List.map_nil] at this
      simp only [ho, resolve, this, Sem.run_bind, Sem.run_pure, Result.andThen_ok, invoke, builtin, hrun]
    unfold Oper.wp
    rw [hx, Oper.upon_value]
    exact hK ρ _ _ _ _ h (H'.put o.dst (sv := .one z) rfl hb)
  · cases hs

theorem runs_sound {cx : Cx} (hcx : CxOK P cx) {inl : Inl} (hin : InlOK P inl) {ops : Array Oper} {d : Bool} {Q : Exit → Act → World → Prop} {K : List SV → List SO → Prop} (hK : ∀ ρ tm ob a w, Holds W0 ρ tm ob a w → K tm ob → Q .normal a w) :
    ∀ {l : List Oper} {i : Nat} {ρ : Nat → Nat} {tm : List SV} {ob : List SO} {a : Act} {w : World}, Holds W0 ρ tm ob a w → runs P cx inl ops d i l tm ob K → wpList P ops Q l a w
  | [], i, ρ, tm, ob, a, w, H, h => hK ρ tm ob a w H h
  | o :: r, i, ρ, tm, ob, a, w, H, h => by
    have plain : ∀ id ps sv ob', semG P cx ops id tm ob o = some (ps, sv, ob') → ands ps (runs P cx inl ops d (i + 1) r (put tm o.dst sv) ob' K) → wpList P ops Q (o :: r) a w := by
      intro id ps sv ob' hs h
      obtain ⟨hp, h⟩ := ands_iff.1 h
      have := semG_sound hcx H hs hp (Q := Q) (K := wpList P ops Q r) fun ρ' a' w' H' => runs_sound hcx hin hK H' h
      unfold wpList
      split
      · rename_i hw; rw [if_pos hw] at this; exact .inl this
      · rename_i hw; rw [if_neg hw] at this; exact this
    have skip : runs P cx inl ops d (i + 1) r (put tm o.dst (.one (.sc (.val undef)))) ob K → wpList P ops Q r (a.put o.dst undef) w := fun h =>
      runs_sound hcx hin hK (H.put o.dst (sv := .one (.sc (.val undef))) rfl trivial) h
    simp only [runs] at h
    cases d with
    | true =>
      simp only at h
      split at h
      · rename_i hs; exact plain _ _ _ _ hs h
      · exact h.no
    | false =>
      cases hsp : special cx tm o with
      | none =>
        rw [hsp] at h
        simp only at h
        split at h
        · rename_i hs; exact plain _ _ _ _ hs h
        · exact h.no
      | some sp =>
        rw [hsp] at h
        simp only at h
        have go : doSpecial P inl ob (fun sv ob' => runs P cx inl ops false (i + 1) r (put (scrub ob' tm) o.dst sv) ob' K) sp → o.wp P a w (wpList P ops Q r) Q := fun h =>
          special_sound hin H hsp h fun ρ' a' w' sv ob' hk H' => runs_sound hcx hin hK H' hk
        split at h
        · rename_i hwn
          have := whenOf_sound H hwn
          simp only [When.is] at this
          unfold wpList
          rw [if_pos this]
          exact .inl (go h)
        · rename_i hwn
          have := whenOf_sound H hwn
          simp only [When.is] at this
          unfold wpList
          rw [if_neg (by rw [this]; simp)]
          exact skip h
        · rename_i b hwn
          have := whenOf_sound H hwn
          simp only [When.is] at this
          unfold wpList
          cases b with
          | true => rw [if_pos this]; exact .inl (go (h.1 rfl))
          | false => rw [if_neg (by rw [this]; simp)]; exact skip (h.2 rfl)
        · exact h.no
end

end Go.Sx
