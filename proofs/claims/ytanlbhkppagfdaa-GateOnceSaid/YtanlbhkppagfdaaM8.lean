/-
  Texts: Sx11, Sx12.
-/
import Derived.Test.YtanlbhkppagfdaaM1
import Derived.Test.YtanlbhkppagfdaaM2
import Derived.Test.YtanlbhkppagfdaaM3
import Derived.Test.YtanlbhkppagfdaaM4
import Derived.Test.YtanlbhkppagfdaaM5
import Derived.Test.YtanlbhkppagfdaaM6
import Derived.Test.YtanlbhkppagfdaaM7
import Derived.Orders
section
namespace Go.Sx
open Go.RowKit
def tmpOf : Operand → Option Tmp
  | .tmp t => some t
  | _ => none
def names (ops : Array Oper) (o : Oper) : List Tmp :=
  o.op.operands.toList.filterMap tmpOf ++
  (match o.guard with
   | some (j, _) => ((ops[j]?).bind (·.dst)).toList
   | none => [])
theorem ev_congr {tm tm' : List SV} {x : Operand} (h : ∀ t, tmpOf x = some t → tm.getD t .any = tm'.getD t .any) : ev tm x = ev tm' x := by
  cases x with
  | tmp t => exact h t rfl
  | _ => rfl
theorem rdL_congr {tm tm' : List SV} : ∀ {xs : List Operand}, (∀ x ∈ xs, ev tm x = ev tm' x) → rdL tm xs = rdL tm' xs
  | [], _ => rfl
  | x :: r, h => by simp only [rdL, rd, h x (by simp), rdL_congr (xs := r) fun y hy => h y (by simp [hy])]
theorem rdP_congr {tm tm' : List SV} : ∀ {xs : List (Nat × Operand)}, (∀ x ∈ xs, ev tm x.2 = ev tm' x.2) → rdP tm xs = rdP tm' xs
  | [], _ => rfl
  | (i, x) :: r, h => by simp only [rdP, rd, h (i, x) (by simp), rdP_congr (xs := r) fun y hy => h y (by simp [hy])]
theorem rdO_congr {tm tm' : List SV} {x : Option Operand} (h : ∀ y, x = some y → ev tm y = ev tm' y) : rdO tm x = rdO tm' x := by
  cases x with
  | none => rfl
  | some y => simp only [rdO, rd, h y rfl]
theorem semVal_congr {P : Program} {tm tm' : List SV} {o : Oper} (h : ∀ x ∈ o.op.operands, ev tm x = ev tm' x) : semVal P tm o = semVal P tm' o := by
  unfold semVal
  split <;> rename_i ho <;> (try simp only [ho] at h)
  all_goals first
    | rfl
    | (have h1 := h _ (by simp [Op.operands]; exact .inl rfl); have h2 := h _ (by simp [Op.operands]; exact .inr rfl); simp only [rd2, rd1, rd, h1, h2]; done)
    | (have h1 := h _ (by simp [Op.operands]; rfl); simp only [rd1, rd, h1]; done)
    | (rename_i args ts
       rw [rdL_congr (tm := tm) (tm' := tm') (xs := args.toList) fun x hx => h x (by simp only [Op.operands, Call.operands]; simpa using hx)]
       done)
    | skip
  · rename_i c x y
    have h1 := h c (by simp [Op.operands]); have h2 := h x (by simp [Op.operands]); have h3 := h y (by simp [Op.operands])
    simp only [semPick, rd1, rd, h1, h2, h3]
  · rename_i t parts
    rw [rdP_congr (tm := tm) (tm' := tm')]
    intro p hp
    exact h p.2 (by simp only [Op.operands, List.mem_toArray, List.mem_map]; exact ⟨p, hp, rfl⟩)
  · rename_i t x lo hi mx
    have h1 := h x (by simp [Op.operands])
    have h2 : rdO tm lo = rdO tm' lo := rdO_congr fun y hy => h y (by subst hy; simp [Op.operands])
    have h3 : rdO tm hi = rdO tm' hi := rdO_congr fun y hy => h y (by subst hy; simp [Op.operands])
    have h4 : rdO tm mx = rdO tm' mx := rdO_congr fun y hy => h y (by subst hy; simp [Op.operands])
    simp only [rd, h1, h2, h3, h4]
  · rename_i f first caps
    rw [rdL_congr (tm := tm) (tm' := tm') (xs := caps.toList) fun x hx => h x (by simp only [Op.operands]; simp at hx ⊢; exact .inr hx)]
theorem semOp_congr {P : Program} {cx : Cx} {id : Nat} {tm tm' : List SV} {ob : List SO} {o : Oper} (h : ∀ x ∈ o.op.operands, ev tm x = ev tm' x) : semOp P cx id tm ob o = semOp P cx id tm' ob o := by
  have hv : semVal P tm o = semVal P tm' o := semVal_congr h
  unfold semOp
  split <;> rename_i ho <;> (try simp only [ho] at h)
  all_goals first
    | rfl
    | (rw [hv]; done)
    | (have h1 := h _ (by simp [Op.operands]; exact .inl rfl); have h2 := h _ (by simp [Op.operands]; exact .inr rfl); simp only [rd, h1, h2]; done)
    | (have h1 := h _ (by simp [Op.operands]; rfl); simp only [rd, h1]; done)
    | skip
  · rename_i t len parts
    rw [rdP_congr (tm := tm) (tm' := tm')]
    intro p hp
    exact h p.2 (by simp only [Op.operands, List.mem_toArray, List.mem_map]; exact ⟨p, hp, rfl⟩)
  · rename_i f args ts
    have h1 := h f (by simp [Op.operands, Call.operands])
    rw [rdL_congr (tm := tm) (tm' := tm') (xs := args.toList) fun x hx => h x (by simp only [Op.operands, Call.operands]; simp at hx ⊢; exact .inr hx)]
    simp only [calleeOf, rd, h1]
  · rename_i args ts
    rw [rdL_congr (tm := tm) (tm' := tm') (xs := args.toList) fun x hx => h x (by simp only [Op.operands, Call.operands]; simpa using hx)]
  · rename_i s d x
    have h1 := h x (by simp [Op.operands])
    simp only [rd, h1, hv]
theorem mem_names {ops : Array Oper} {o : Oper} {x : Operand} {t : Tmp} (hx : x ∈ o.op.operands) (ht : tmpOf x = some t) : t ∈ names ops o := by
  unfold names
  exact List.mem_append_left _ (List.mem_filterMap.2 ⟨x, by simpa using hx, ht⟩)
theorem semG0_congr {P : Program} {cx : Cx} {ops : Array Oper} {id : Nat} {tm tm' : List SV} {ob : List SO} {o : Oper} (h : ∀ t ∈ names ops o, tm.getD t .any = tm'.getD t .any) : semG0 P cx ops id tm ob o = semG0 P cx ops id tm' ob o := by
  have ho : semOp P cx id tm ob o = semOp P cx id tm' ob o := semOp_congr fun x hx => ev_congr fun t ht => h t (mem_names hx ht)
  unfold semG0
  split
  · exact ho
  · rename_i j want hg
    split
    · rfl
    · rename_i d hd
      have hdt : d ∈ names ops o := by unfold names; simp [hg, hd]
      simp only [guarded, ho, h d hdt]
theorem wcall_congr {cx : Cx} {ops : Array Oper} {tm tm' : List SV} {o : Oper} (h : ∀ t ∈ names ops o, tm.getD t .any = tm'.getD t .any) : wcall cx tm o = wcall cx tm' o := by
  unfold wcall
  split
  · rfl
  split
  · rename_i x args ts ho
    have hx : ∀ y ∈ o.op.operands, ev tm y = ev tm' y := fun y hy => ev_congr fun t ht => h t (mem_names hy ht)
    rw [ho] at hx
    have h1 : ev tm x = ev tm' x := hx x (by simp [Op.operands, Call.operands])
    rw [rdL_congr (tm := tm) (tm' := tm') (xs := args.toList) fun y hy => hx y (by simp only [Op.operands, Call.operands]; simp at hy ⊢; exact .inr hy)]
    simp only [calleeOf, rd, h1]
  · rfl
theorem whenOf_congr {ops : Array Oper} {tm tm' : List SV} {o : Oper} (h : ∀ t ∈ names ops o, tm.getD t .any = tm'.getD t .any) : whenOf ops tm o = whenOf ops tm' o := by
  unfold whenOf
  split
  · rfl
  · rename_i j want hg
    split
    · rfl
    · rename_i d hd
      have hdt : d ∈ names ops o := by unfold names; simp [hg, hd]
      rw [h d hdt]
theorem semG_congr {P : Program} {cx : Cx} {ops : Array Oper} {id : Nat} {tm tm' : List SV} {ob : List SO} {o : Oper} (h : ∀ t ∈ names ops o, tm.getD t .any = tm'.getD t .any) : semG P cx ops id tm ob o = semG P cx ops id tm' ob o := by
  unfold semG
  rw [wcall_congr h, whenOf_congr h, semG0_congr (tm := tm) (tm' := tm') h]
def looks (id : Nat) (tm : List SV) (o : Oper) : Option Nat :=
  match o.op with
  | .load _ x | .store _ x _ | .convert _ _ x => match rd tm x with
    | some (_, .sc (.ptr k _)) | some (_, .sc (.pti k _ _ _)) | some (_, .sc (.sl k _ _ _)) | some (_, .sc (.sls k _ _ _ _)) | some (_, .sc (.ptw k _ _ _)) | some (_, .sc (.slw k _ _ _ _)) => some k
    | _ => none
  | .alloc _ | .box .. | .buildSlice .. | .makeSlice .. => some id
  | .call { callee := .builtin .copy, args, .. } => match rdL tm args.toList with
    | some (_, [.sc (.sl k _ _ _), _]) => some k
    | _ => none
  | _ => none
def wr {α : Type} (l : List α) (w : Option (Nat × α)) : List α :=
  match w with
  | some (k, x) => l.set k x
  | none => l
def key {α : Type} (w : Option (Nat × α)) : Option Nat := w.map (·.1)
theorem wr_length {α : Type} (l : List α) (w : Option (Nat × α)) : (wr l w).length = l.length := by
  unfold wr; split <;> simp
def blockOf : SA → Option Nat
  | .sc (.ptr k _) | .sc (.pti k _ _ _) | .sc (.sl k _ _ _) | .sc (.sls k _ _ _ _) | .sc (.ptw k _ _ _) | .sc (.slw k _ _ _ _) => some k
  | _ => none
theorem semStore_wr {P : Program} {ob ob1 ob2 : List SO} {t : TypeId} {x y : SA} {ps : List Prop} (h : semStore P ob t x y = some (ps, ob1)) (hl : ∀ k, blockOf x = some k → ob2[k]? = ob[k]?) :
    ∃ k z, blockOf x = some k ∧ k < ob.length ∧ ob1 = ob.set k z ∧ semStore P ob2 t x y = some (ps, ob2.set k z) := by
  unfold semStore at h ⊢
  split at h
  · rename_i k off
    split at h
    · rename_i e ks sp hk
      split at h
      · rename_i hc
        obtain ⟨r, hr, he⟩ := Option.map_eq_some_iff.1 h
        simp only [Prod.mk.injEq] at he
        obtain ⟨rfl, rfl⟩ := he
        refine ⟨k, _, rfl, ob_lt hk, rfl, ?_⟩
        simp only [hl k rfl, hk]
        rw [if_pos hc, hr]
        rfl
      · cases h
    · cases h
  · rename_i k base len i
    split at h
    · rename_i e ks sp kd v hk hv
      split at h
      · rename_i hc
        obtain ⟨r, hr, he⟩ := Option.map_eq_some_iff.1 h
        simp only [Prod.mk.injEq] at he
        obtain ⟨rfl, rfl⟩ := he
        refine ⟨k, _, rfl, ob_lt hk, rfl, ?_⟩
        simp only [hl k rfl, hk, hv]
        rw [if_pos hc, hr]
        rfl
      · cases h
    · cases h
  · rename_i k w i c
    split at h
    · rename_i e w' n g sp hk
      split at h
      · rename_i hc
        simp only [Option.some.injEq, Prod.mk.injEq] at h
        obtain ⟨rfl, rfl⟩ := h
        refine ⟨k, _, rfl, ob_lt hk, rfl, ?_⟩
        simp only [hl k rfl, hk]
        rw [if_pos hc]
      · cases h
    · rename_i e w' n g sp p hk
      split at h
      · rename_i hc
        simp only [Option.some.injEq, Prod.mk.injEq] at h
        obtain ⟨rfl, rfl⟩ := h
        refine ⟨k, _, rfl, ob_lt hk, rfl, ?_⟩
        simp only [hl k rfl, hk]
        rw [if_pos hc]
      · cases h
    · cases h
  · cases h
theorem semLoad_wr {P : Program} {gl : Globs} {ob ob2 : List SO} {t : TypeId} {x : SA} (hl : ∀ k, blockOf x = some k → ob2[k]? = ob[k]?) : semLoad P gl ob2 t x = semLoad P gl ob t x := by
  unfold semLoad
  split
  · rw [hl _ rfl]
  · rw [hl _ rfl]
  · rw [hl _ rfl]
  · rfl
  · rfl
  · rfl
theorem semStr_wr {ob ob2 : List SO} {x : SA} (hl : ∀ k, blockOf x = some k → ob2[k]? = ob[k]?) : semStr ob2 x = semStr ob x := by
  unfold semStr
  split
  · rw [hl _ rfl]
  · rfl
  · rw [hl _ rfl]
  · rw [hl _ rfl]
  · rfl
theorem semCpy_wr {P : Program} {ob ob1 ob2 : List SO} {ts : List TypeId} {s x z : SA} (h : semCpy P ob ts s x = some (z, ob1)) (hl : ∀ k, blockOf s = some k → ob2[k]? = ob[k]?) :
    ∃ k y off n cap, s = .sc (.sl k off n cap) ∧ k < ob.length ∧ ob1 = ob.set k y ∧ semCpy P ob2 ts s x = some (z, ob2.set k y) := by
  unfold semCpy at h ⊢
  split at h
  case h_2 => cases h
  rename_i t ts' o off n cap b
  split at h
  case h_2 => cases h
  rename_i e hu
  split at h
  case h_2 => cases h
  rename_i ie e' ks sp hie ho
  split at h
  case isFalse => cases h
  rename_i hsz
  split at h
  case h_2 => cases h
  rename_i cs hcs
  split at h
  case isFalse => cases h
  rename_i ha
  obtain ⟨r, hr, he⟩ := Option.map_eq_some_iff.1 h
  simp only [Prod.mk.injEq] at he
  obtain ⟨rfl, rfl⟩ := he
  refine ⟨o, _, off, n, cap, rfl, ob_lt ho, rfl, ?_⟩
  simp only [hie, hl o rfl, ho]
  rw [if_pos hsz]
  simp only [hcs]
  rw [if_pos ha, hr]
  rfl
theorem looks_block {tm : List SV} {x : Operand} {ps : List Prop} {y : SA} (hy : rd tm x = some (ps, y)) : (match rd tm x with
    | some (_, .sc (.ptr k _)) | some (_, .sc (.pti k _ _ _)) | some (_, .sc (.sl k _ _ _)) | some (_, .sc (.sls k _ _ _ _)) | some (_, .sc (.ptw k _ _ _)) | some (_, .sc (.slw k _ _ _ _)) => some k
    | _ => none) = blockOf y := by
  rw [hy]
  cases y with
  | agg ks => rfl
  | sc c => cases c <;> rfl
theorem place_wr {ob ob1 ob2 : List SO} {id : Nat} {x : SO} (h : place ob id x = some ob1) (hid : id < ob.length) (hl : ob2[id]? = ob[id]?) : ob1 = ob.set id x ∧ place ob2 id x = some (ob2.set id x) := by
  unfold place at h ⊢
  split at h
  · rename_i hn; rw [List.getElem?_eq_none_iff] at hn; omega
  · rename_i hn
    simp only [Option.some.injEq] at h
    exact ⟨h.symm, by rw [hl, hn]⟩
  · cases h
  · cases h
  · cases h
  · cases h
  · cases h
theorem semMakeW_wr {P : Program} {ob ob1 : List SO} {id : Nat} {e : TypeId} {x y : Int} {ps : List Prop} {k : Nat} (h : semMakeW P ob id e x y = some (ps, k, ob1)) (hid : id < ob.length) :
    ∃ z, ob1 = ob.set id z ∧ ∀ ob2 : List SO, ob2[id]? = ob[id]? → semMakeW P ob2 id e x y = some (ps, k, ob2.set id z) := by
  unfold semMakeW at h ⊢
  split at h
  case h_2 => cases h
  split at h
  case isFalse => cases h
  rename_i hc
  obtain ⟨ob', hp, he⟩ := Option.map_eq_some_iff.1 h
  simp only [Prod.mk.injEq] at he
  obtain ⟨rfl, rfl, rfl⟩ := he
  refine ⟨_, (place_wr hp hid rfl).1, fun ob2 hl => ?_⟩
  rw [if_pos hc, (place_wr hp hid hl).2]
  rfl
theorem semOp_ob {P : Program} {cx : Cx} {id : Nat} {tm : List SV} {ob ob1 : List SO} {o : Oper} {ps : List Prop} {sv : SV} (h : semOp P cx id tm ob o = some (ps, sv, ob1)) (hid : isNew o.op = true → id < ob.length) :
    ∃ w, ob1 = wr ob w ∧ (∀ k, key w = some k → eff o.op = true ∧ looks id tm o = some k) ∧ ∀ ob2, (∀ k, looks id tm o = some k → ob2[k]? = ob[k]?) → semOp P cx id tm ob2 o = some (ps, sv, wr ob2 w) := by
  cases he : eff o.op with
  | false =>
    have hq := semOp_quiet h he
    subst hq
    refine ⟨none, rfl, fun k hk => (by cases hk), fun ob2 hl => ?_⟩
    unfold semOp at h ⊢
    split at h <;> rename_i ho <;> (try simp only [ho])
    all_goals first
      | (simp [eff, ho] at he; done)
      | (simp only [Option.some.injEq, Prod.mk.injEq, and_true, wr] at h ⊢; exact h)
      | skip
    · rename_i t x
      split at h
      · rename_i p1 y hy
        have hb : looks id tm o = blockOf y := by simp only [looks, ho]; exact looks_block hy
        rw [semLoad_wr (ob := ob1) (ob2 := ob2) fun k hk => hl k (by rw [hb]; exact hk)]
        obtain ⟨z, hz, e⟩ := Option.map_eq_some_iff.1 h
        simp only [Prod.mk.injEq] at e
        obtain ⟨rfl, rfl, _⟩ := e
        simp [hz, wr]
      · cases h
    · split at h
      · split at h
        · split at h
          · simp only [Option.some.injEq, Prod.mk.injEq, and_true, wr] at h ⊢; exact h
          · cases h
        · cases h
      · cases h
    · rename_i s d x
      split at h
      · rename_i hb
        split at h
        · rename_i p1 y hy
          have hbl : looks id tm o = blockOf y := by simp only [looks, ho]; exact looks_block hy
          rw [semStr_wr (ob := ob1) (ob2 := ob2) fun k hk => hl k (by rw [hbl]; exact hk)]
          obtain ⟨z, hz, e⟩ := Option.map_eq_some_iff.1 h
          simp only [Prod.mk.injEq] at e
          obtain ⟨rfl, rfl, _⟩ := e
          simp [hz, wr]
        · cases h
      · obtain ⟨z, hz, e⟩ := Option.map_eq_some_iff.1 h
        simp only [Prod.mk.injEq] at e
        obtain ⟨rfl, rfl, _⟩ := e
        simp [hz, wr]
    · obtain ⟨z, hz, e⟩ := Option.map_eq_some_iff.1 h
      simp only [Prod.mk.injEq] at e
      obtain ⟨rfl, rfl, _⟩ := e
      simp [hz, wr]
  | true =>
    unfold semOp at h ⊢
    split at h <;> rename_i ho
    all_goals first
      | (simp [eff, ho] at he; done)
      | skip
    · have hlk : looks id tm o = some id := by simp [looks, ho]
      have hid := hid (by simp [isNew, ho])
      split at h
      · split at h
        · rename_i hf
          obtain ⟨ob', hp, e⟩ := Option.map_eq_some_iff.1 h
          simp only [Prod.mk.injEq] at e
          obtain ⟨rfl, rfl, rfl⟩ := e
          refine ⟨some (id, _), (place_wr hp hid rfl).1, fun k hk => ⟨rfl, by rw [hlk]; exact hk⟩, fun ob2 hl => ?_⟩
          rw [if_pos hf, (place_wr hp hid (hl id hlk)).2]
          rfl
        · cases h
      · cases h
    · have hlk : looks id tm o = some id := by simp [looks, ho]
      have hid := hid (by simp [isNew, ho])
      split at h
      · split at h
        · rename_i hf
          obtain ⟨ob', hp, e⟩ := Option.map_eq_some_iff.1 h
          simp only [Prod.mk.injEq] at e
          obtain ⟨rfl, rfl, rfl⟩ := e
          refine ⟨some (id, _), (place_wr hp hid rfl).1, fun k hk => ⟨rfl, by rw [hlk]; exact hk⟩, fun ob2 hl => ?_⟩
          rw [if_pos hf, (place_wr hp hid (hl id hlk)).2]
          rfl
        · cases h
      · cases h
    · have hlk : looks id tm o = some id := by simp [looks, ho]
      have hid := hid (by simp [isNew, ho])
      split at h
      · split at h
        · split at h
          · rename_i hf
            obtain ⟨ob', hp, e⟩ := Option.map_eq_some_iff.1 h
            simp only [Prod.mk.injEq] at e
            obtain ⟨rfl, rfl, rfl⟩ := e
            refine ⟨some (id, _), (place_wr hp hid rfl).1, fun k hk => ⟨rfl, by rw [hlk]; exact hk⟩, fun ob2 hl => ?_⟩
            rw [if_pos hf, (place_wr hp hid (hl id hlk)).2]
            rfl
          · cases h
        · cases h
      · cases h
    · have hlk : looks id tm o = some id := by simp [looks, ho]
      have hid := hid (by simp [isNew, ho])
      split at h
      · split at h
        · split at h
          · rename_i hf
            obtain ⟨ob', hp, e⟩ := Option.map_eq_some_iff.1 h
            simp only [Prod.mk.injEq] at e
            obtain ⟨rfl, rfl, rfl⟩ := e
            refine ⟨some (id, _), (place_wr hp hid rfl).1, fun k hk => ⟨rfl, by rw [hlk]; exact hk⟩, fun ob2 hl => ?_⟩
            rw [if_pos hf, (place_wr hp hid (hl id hlk)).2]
            rfl
          · cases h
        · cases h
      · split at h
        · obtain ⟨⟨qs, k, ob'⟩, hm, e⟩ := Option.map_eq_some_iff.1 h
          simp only [Prod.mk.injEq] at e
          obtain ⟨rfl, rfl, rfl⟩ := e
          obtain ⟨z, e1, e2⟩ := semMakeW_wr hm hid
          refine ⟨some (id, z), e1, fun k hk => ⟨rfl, by rw [hlk]; exact hk⟩, fun ob2 hl => ?_⟩
          rw [e2 ob2 (hl id hlk)]
          rfl
        · cases h
      · cases h
    · rename_i t x y
      split at h
      · rename_i p1 xv p2 yv hx hy
        obtain ⟨r, hs, e⟩ := Option.map_eq_some_iff.1 h
        simp only [Prod.mk.injEq] at e
        obtain ⟨rfl, rfl, rfl⟩ := e
        have hbl : looks id tm o = blockOf xv := by simp only [looks, ho]; exact looks_block hx
        obtain ⟨k, z, hb, hk, e1, _⟩ := semStore_wr hs (ob2 := ob) (fun _ _ => rfl)
        refine ⟨some (k, z), e1, fun k' hk' => ⟨rfl, by rw [hbl, hb]; exact hk'⟩, fun ob2 hl => ?_⟩
        obtain ⟨k', z', hb', hk', e3, e4⟩ := semStore_wr hs (ob2 := ob2) (fun q hq => hl q (by rw [hbl]; exact hq))
        rw [hb] at hb'
        simp only [Option.some.injEq] at hb'
        subst hb'
        simp only [e4, Option.map_some, wr]
        have : (ob.set k z)[k]? = (ob.set k z')[k]? := by rw [← e1, ← e3]
        simp [hk] at this
        rw [this]
      · cases h
    · rename_i args ts
      split at h
      · rename_i p1 sv xv hx
        obtain ⟨r, hs, e⟩ := Option.map_eq_some_iff.1 h
        simp only [Prod.mk.injEq] at e
        obtain ⟨rfl, rfl, rfl⟩ := e
        obtain ⟨k, z, off, n, cap, rfl, hk, e1, _⟩ := semCpy_wr (ob2 := ob) (z := r.1) (ob1 := r.2) hs (fun _ _ => rfl)
        have hlk : looks id tm o = some k := by simp [looks, ho, hx]
        refine ⟨some (k, z), e1, fun k' hk' => ⟨rfl, by rw [hlk]; exact hk'⟩, fun ob2 hl => ?_⟩
        obtain ⟨k', z', off', n', cap', hs', hk', e3, e4⟩ := semCpy_wr (ob2 := ob2) (z := r.1) (ob1 := r.2) hs (fun q hq => by
          simp only [blockOf, Option.some.injEq] at hq; subst hq; exact hl k hlk)
        simp only [SA.sc.injEq, SC.sl.injEq] at hs'
        obtain ⟨rfl, _⟩ := hs'
        simp only [e4, Option.map_some, wr]
        have : (ob.set k z)[k]? = (ob.set k z')[k]? := by rw [← e1, ← e3]
        simp [hk] at this
        rw [this]
      · cases h
theorem guarded_ob {P : Program} {cx : Cx} {id : Nat} {tm : List SV} {ob ob1 : List SO} {o : Oper} {g : Bool} {ps : List Prop} {sv : SV} (h : guarded P cx id tm ob o g = some (ps, sv, ob1)) :
    ob1 = ob ∧ ∀ ob2, (∀ k, looks id tm o = some k → ob2[k]? = ob[k]?) → guarded P cx id tm ob2 o g = some (ps, sv, ob2) := by
  unfold guarded at h ⊢
  split at h
  · cases h
  rename_i he
  have he' : eff o.op = false := by simpa using he
  have hn : isNew o.op = true → id < ob.length := by
    intro hn
    exfalso
    revert he'
    unfold isNew at hn
    unfold eff
    split at hn <;> rename_i ho <;> (try simp only [ho]) <;> simp at hn ⊢
  split at h
  · rename_i p1 x ob3 h1
    simp only [Option.some.injEq, Prod.mk.injEq] at h
    obtain ⟨rfl, rfl, rfl⟩ := h
    refine ⟨rfl, fun ob2 hl => ?_⟩
    rw [if_neg he]
    obtain ⟨w, _, _, e⟩ := semOp_ob h1 hn
    rw [e ob2 hl]
  · rename_i p1 b x ob3 h1
    simp only [Option.some.injEq, Prod.mk.injEq] at h
    obtain ⟨rfl, rfl, rfl⟩ := h
    refine ⟨rfl, fun ob2 hl => ?_⟩
    rw [if_neg he]
    obtain ⟨w, _, _, e⟩ := semOp_ob h1 hn
    rw [e ob2 hl]
  · cases h
theorem semG0_ob {P : Program} {cx : Cx} {ops : Array Oper} {id : Nat} {tm : List SV} {ob ob1 : List SO} {o : Oper} {ps : List Prop} {sv : SV} (h : semG0 P cx ops id tm ob o = some (ps, sv, ob1)) (hid : isNew o.op = true → id < ob.length) :
    ∃ w, ob1 = wr ob w ∧ (∀ k, key w = some k → eff o.op = true ∧ looks id tm o = some k) ∧ ∀ ob2, (∀ k, looks id tm o = some k → ob2[k]? = ob[k]?) → semG0 P cx ops id tm ob2 o = some (ps, sv, wr ob2 w) := by
  have hg : ∀ g, guarded P cx id tm ob o g = some (ps, sv, ob1) → ∃ w, ob1 = wr ob w ∧ (∀ k, key w = some k → eff o.op = true ∧ looks id tm o = some k) ∧ ∀ ob2, (∀ k, looks id tm o = some k → ob2[k]? = ob[k]?) → guarded P cx id tm ob2 o g = some (ps, sv, wr ob2 w) :=
    fun g h => ⟨none, (guarded_ob h).1, fun k hk => (by cases hk), (guarded_ob h).2⟩
  have skip : some ([], .one (.sc (.val undef)), ob) = some (ps, sv, ob1) → ∃ w, ob1 = wr ob w ∧ (∀ k, key w = some k → eff o.op = true ∧ looks id tm o = some k) ∧ ∀ ob2, (∀ k, looks id tm o = some k → ob2[k]? = ob[k]?) → some (([], .one (.sc (.val undef)), ob2) : List Prop × SV × List SO) = some (ps, sv, wr ob2 w) := by
    intro h
    simp only [Option.some.injEq, Prod.mk.injEq] at h
    obtain ⟨rfl, rfl, rfl⟩ := h
    exact ⟨none, rfl, fun k hk => (by cases hk), fun ob2 _ => rfl⟩
  unfold semG0 at h ⊢
  split at h
  · exact semOp_ob h hid
  · split at h
    · cases h
    · split at h
      · split at h
        · rename_i e; simp only [e, if_true]; exact semOp_ob h hid
        · rename_i e; simp only [e]; exact skip h
      · split at h <;> exact hg _ h
      · split at h
        · rename_i e; simp only [e, if_true]; exact hg _ h
        · rename_i e; simp only [e]; exact skip h
      · split at h <;> exact hg _ h
      · cases h
def effG (cx : Cx) (tm : List SV) (o : Oper) : Bool := match wcall cx tm o with
  | some _ => true
  | none => eff o.op
def looksG (cx : Cx) (id : Nat) (tm : List SV) (o : Oper) : Option Nat := match wcall cx tm o with
  | some (_, _, _, ys) => ptrs ys
  | none => looks id tm o
theorem semG_ob {P : Program} {cx : Cx} {ops : Array Oper} {id : Nat} {tm : List SV} {ob ob1 : List SO} {o : Oper} {ps : List Prop} {sv : SV} (h : semG P cx ops id tm ob o = some (ps, sv, ob1)) (hid : isNew o.op = true → id < ob.length) :
    ∃ w, ob1 = wr ob w ∧ (∀ k, key w = some k → effG cx tm o = true ∧ looksG cx id tm o = some k) ∧ ∀ ob2, (∀ k, looksG cx id tm o = some k → ob2[k]? = ob[k]?) → semG P cx ops id tm ob2 o = some (ps, sv, wr ob2 w) := by
  unfold semG effG looksG at *
  cases hw : wcall cx tm o with
  | none =>
    simp only [hw] at h ⊢
    exact semG0_ob h hid
  | some r =>
    obtain ⟨p1, f, s, ys⟩ := r
    simp only [hw] at h ⊢
    split at h
    · rename_i qs sv' k n m hwh hd
      simp only [Option.some.injEq, Prod.mk.injEq] at h
      obtain ⟨rfl, rfl, rfl⟩ := h
      have hk := (wdo_at hd (ob2 := ob) fun _ _ => rfl).1
      refine ⟨some (k, noteO s.e s.k m), rfl, fun i hi => ?_, fun ob2 hl => ?_⟩
      · simp only [key, Option.map_some, Option.some.injEq] at hi
        exact ⟨trivial, by rw [hk, hi]⟩
      · rw [(wdo_at hd hl).2]
        simp only [hwh]
        rfl
    · rename_i g qs x k n m hwh hd
      simp only [Option.some.injEq, Prod.mk.injEq] at h
      obtain ⟨rfl, rfl, rfl⟩ := h
      have hk := (wdo_at hd (ob2 := ob) fun _ _ => rfl).1
      refine ⟨some (k, noteO s.e s.k (cond g m n)), rfl, fun i hi => ?_, fun ob2 hl => ?_⟩
      · simp only [key, Option.map_some, Option.some.injEq] at hi
        exact ⟨trivial, by rw [hk, hi]⟩
      · rw [(wdo_at hd hl).2]
        simp only [hwh]
        rfl
    · cases h
structure Info where
  nm : List Nat
  dst : Option Nat
  ef : Bool
  lk : Option Nat
def infoOf (cx : Cx) (ops : Array Oper) (id : Nat) (tm : List SV) (o : Oper) : Info := ⟨names ops o, o.dst, effG cx tm o, looksG cx id tm o⟩
def infos (P : Program) (cx : Cx) (ops : Array Oper) : Nat → List Oper → List SV → List SO → List Info
  | _, [], _, _ => []
  | i, o :: r, tm, ob =>
    match semG P cx ops i tm ob o with
    | some (_, sv, ob') => infoOf cx ops i tm o :: infos P cx ops (i + 1) r (put tm o.dst sv) ob'
    | none => []
theorem runs_seq {P : Program} {cx : Cx} {ops : Array Oper} {K : List SV → List SO → Prop} : ∀ {l : List Oper} {b : Nat} {tm : List SV} {ob : List SO}, runs P cx noInl ops true b l tm ob K → ((∃ o ∈ l, isNew o.op = true) → b + l.length ≤ ob.length) →
    ∃ (TM : Nat → List SV) (OB : Nat → List SO) (V : Nat → SV) (PS : Nat → List Prop) (W : Nat → Option (Nat × SO)), TM 0 = tm ∧ OB 0 = ob ∧
      (∀ i o, l[i]? = some o → semG P cx ops (b + i) (TM i) (OB i) o = some (PS i, V i, OB (i + 1)) ∧ Ok (PS i) ∧ TM (i + 1) = put (TM i) o.dst (V i) ∧ (infos P cx ops b l tm ob)[i]? = some (infoOf cx ops (b + i) (TM i) o) ∧
        OB (i + 1) = wr (OB i) (W i) ∧ (∀ k, key (W i) = some k → effG cx (TM i) o = true ∧ looksG cx (b + i) (TM i) o = some k) ∧
        ∀ ob2, (∀ k, looksG cx (b + i) (TM i) o = some k → ob2[k]? = (OB i)[k]?) → semG P cx ops (b + i) (TM i) ob2 o = some (PS i, V i, wr ob2 (W i))) ∧ K (TM l.length) (OB l.length)
  | [], b, tm, ob, h, _ => ⟨fun _ => tm, fun _ => ob, fun _ => .any, fun _ => [], fun _ => none, rfl, rfl, fun i o hi => by simp at hi, h⟩
  | o :: r, b, tm, ob, h, hnew => by
    simp only [runs] at h
    split at h
    · rename_i ps sv ob' hs
      obtain ⟨hp, h⟩ := ands_iff.1 h
      obtain ⟨w, w1, w2, w3⟩ := semG_ob hs (fun hn => by have := hnew ⟨o, by simp, hn⟩; simp at this; omega)
      obtain ⟨TM, OB, V, PS, W, h1, h2, h3, h4⟩ := runs_seq h (fun ⟨p, hp, hn⟩ => by
        have := hnew ⟨p, by simp [hp], hn⟩
        rw [w1, wr_length]; simp at this; omega)
      refine ⟨fun i => match i with | 0 => tm | i + 1 => TM i, fun i => match i with | 0 => ob | i + 1 => OB i, fun i => match i with | 0 => sv | i + 1 => V i, fun i => match i with | 0 => ps | i + 1 => PS i, fun i => match i with | 0 => w | i + 1 => W i, rfl, rfl, fun i o' hi => ?_, h4⟩
      cases i with
      | zero =>
        simp only [List.getElem?_cons_zero, Option.some.injEq] at hi
        subst hi
        exact ⟨by rw [Nat.add_zero, hs, ← h2], hp, h1, by simp [infos, hs], by rw [← w1, ← h2], w2, w3⟩
      | succ i =>
        simp only [List.getElem?_cons_succ] at hi
        obtain ⟨k1, k2, k3, k4, k5⟩ := h3 i o' hi
        rw [show b + 1 + i = b + (i + 1) by omega] at k1 k4 k5
        exact ⟨k1, k2, k3, by simp only [infos, hs, List.getElem?_cons_succ]; exact k4, k5⟩
    · exact h.no
def bitsOf (acc : List Nat) (es : List Edge) : Nat :=
  match es with
  | [] => 0
  | e :: r => if Region.binds .any e then (2 ^ e.on ||| acc.getD e.on 0) ||| bitsOf acc r else bitsOf acc r
def clos : List Oper → List Nat → List Nat
  | [], acc => acc
  | o :: r, acc => clos r (acc ++ [bitsOf acc o.after.toList])
def prB (C : List Nat) (i j : Nat) : Bool := (C.getD i 0).testBit j
theorem bitsOf_spec {acc : List Nat} {j : Nat} : ∀ {es : List Edge}, (bitsOf acc es).testBit j = true → ∃ e ∈ es, Region.binds .any e = true ∧ (e.on = j ∨ (acc.getD e.on 0).testBit j = true)
  | [], h => by simp [bitsOf] at h
  | e :: r, h => by
    simp only [bitsOf] at h
    split at h
    · rename_i hb
      simp only [Nat.testBit_or, Bool.or_eq_true, Nat.testBit_two_pow, decide_eq_true_eq] at h
      rcases h with (h | h) | h
      · exact ⟨e, by simp, hb, .inl h⟩
      · exact ⟨e, by simp, hb, .inr h⟩
      · obtain ⟨e', he, k⟩ := bitsOf_spec h; exact ⟨e', by simp [he], k⟩
    · obtain ⟨e', he, k⟩ := bitsOf_spec h; exact ⟨e', by simp [he], k⟩
theorem clos_spec : ∀ (l : List Oper) (acc : List Nat), (clos l acc).length = acc.length + l.length ∧ (clos l acc).take acc.length = acc ∧
    ∀ i o, l[i]? = some o → (clos l acc)[acc.length + i]? = some (bitsOf ((clos l acc).take (acc.length + i)) o.after.toList)
  | [], acc => ⟨rfl, by simp [clos], fun i o h => by simp at h⟩
  | o :: r, acc => by
    obtain ⟨h1, h2, h3⟩ := clos_spec r (acc ++ [bitsOf acc o.after.toList])
    simp only [List.length_append, List.length_singleton] at h1 h2 h3
    have h2' : (clos r (acc ++ [bitsOf acc o.after.toList])).take acc.length = acc := by
      have := congrArg (List.take acc.length) h2
      rw [List.take_take, Nat.min_eq_left (by omega)] at this
      rw [this]; simp
    refine ⟨by simp only [clos, h1, List.length_cons]; omega, h2', fun i p hi => ?_⟩
    cases i with
    | zero =>
      simp only [List.getElem?_cons_zero, Option.some.injEq] at hi
      subst hi
      simp only [clos, Nat.add_zero, h2']
      have : (clos r (acc ++ [bitsOf acc o.after.toList]))[acc.length]? = ((clos r (acc ++ [bitsOf acc o.after.toList])).take (acc.length + 1))[acc.length]? := by
        rw [List.getElem?_take]; simp
      rw [this, h2]; simp
    | succ i =>
      simp only [List.getElem?_cons_succ] at hi
      have := h3 i p hi
      rw [show acc.length + (i + 1) = acc.length + 1 + i by omega]
      exact this
theorem prB_spec {l : List Oper} {i j : Nat} {o : Oper} (hi : l[i]? = some o) (h : prB (clos l []) i j = true) :
    ∃ e ∈ o.after.toList, Region.binds .any e = true ∧ (e.on = j ∨ (e.on < i ∧ prB (clos l []) e.on j = true)) := by
  obtain ⟨_, _, h3⟩ := clos_spec l []
  have := h3 i o hi
  simp only [List.length_nil, Nat.zero_add] at this
  unfold prB at h
  rw [List.getD_eq_getElem?_getD, this, Option.getD_some] at h
  obtain ⟨e, he, hb, k⟩ := bitsOf_spec h
  refine ⟨e, he, hb, k.imp id fun k => ?_⟩
  rw [List.getD_eq_getElem?_getD, List.getElem?_take] at k
  split at k
  · rename_i hlt; exact ⟨hlt, by unfold prB; rw [List.getD_eq_getElem?_getD]; exact k⟩
  · simp at k
def ordB (C : List Nat) (i j : Nat) : Bool := (Nat.blt j i && prB C i j) || (Nat.blt i j && prB C j i)
def okPair (C : List Nat) (i : Nat) (I : Info) (j : Nat) (J : Info) : Bool :=
  Nat.beq i j || (ordB C i j ||
  ((match J.dst with
   | some t => !(I.nm.contains t || I.dst == some t)
   | none => true) &&
  (match I.lk with
   | some k => !(J.ef && J.lk == some k)
   | none => true)))
def allFrom {α : Type} (p : Nat → α → Bool) : Nat → List α → Bool
  | _, [] => true
  | i, x :: r => p i x && allFrom p (i + 1) r
def noCard (cx : Cx) (tm : List SV) (o : Oper) : Bool :=
  match o.op with
  | .call { callee := .value x, .. } => match calleeOf tm x with
    | some (_, f, _) => (cx.get f).isNone && (getW cx.wf f).isNone
    | none => (cx.get 1000000017).isSome
  | .call { callee := .invoke .., .. } => true
  | .call { callee := .builtin .copy, .. } => (cx.get 1000000009).isSome
  | .call { callee := .builtin .append, .. } => (cx.get 1000000010).isSome
  | .convert _ d _ => (cx.get (1200000000 + d)).isSome
  | _ => false
def tailFrom (cx : Cx) (tm : List SV) : Nat → List Oper → Nat
  | i, [] => i
  | i, o :: r => match noCard cx tm o with
    | true => i
    | false => tailFrom cx tm (i + 1) r
def chainB (C : List Nat) (n size : Nat) : Bool := (List.range (size - n)).all fun k => (List.range (n + k)).all fun j => prB C (n + k) j
def drawAt (P : Program) (cx : Cx) (ops : Array Oper) (tm : List SV) (ob : List SO) (n : Nat) : Bool :=
  P.follows .mixedOrders &&
  allFrom (fun i (o : Oper) => o.after.toList.all fun e => !Region.binds .any e || Nat.blt e.on i) 0 ops.toList &&
  (Nat.ble n ops.size && chainB (clos ops.toList []) n ops.size) &&
  (let L := infos P cx ops ob.length (ops.toList.take n) tm (kept ops ob)
   let C := clos ops.toList []
   allFrom (fun i I => allFrom (fun j J => okPair C i I j J) 0 L) 0 L)
def headB (C : List Nat) (n size : Nat) : Bool := (List.range (size - n)).all fun k => (List.range n).all fun j => prB C (n + k) j
def drawMx (P : Program) (cx : Cx) (ops : Array Oper) (tm : List SV) (ob : List SO) (n : Nat) : Bool :=
  (cx.get 1000000018).isSome && P.follows .mixedOrders &&
  allFrom (fun i (o : Oper) => o.after.toList.all fun e => !Region.binds .any e || Nat.blt e.on i) 0 (ops.toList.take n) &&
  (Nat.ble n ops.size && headB (clos ops.toList []) n ops.size) &&
  (let L := infos P cx ops ob.length (ops.toList.take n) tm (kept ops ob)
   let C := clos ops.toList []
   allFrom (fun i I => allFrom (fun j J => okPair C i I j J) 0 L) 0 L)
def drawOK : Drawn := fun P cx ops tm ob =>
  match Nat.blt (tailFrom cx tm 0 ops.toList) 1000 && drawAt P cx ops tm ob (tailFrom cx tm 0 ops.toList) with
  | true => some (tailFrom cx tm 0 ops.toList)
  | false => match drawMx P cx ops tm ob (tailFrom cx tm 0 ops.toList) with
    | true => some (tailFrom cx tm 0 ops.toList + 1000)
    | false => none
theorem allFrom_spec {α : Type} {p : Nat → α → Bool} : ∀ {l : List α} {i : Nat}, allFrom p i l = true → ∀ j x, l[j]? = some x → p (i + j) x = true
  | [], i, _, j, x, hx => by simp at hx
  | y :: r, i, h, j, x, hx => by
    simp only [allFrom, Bool.and_eq_true] at h
    cases j with
    | zero => simp only [List.getElem?_cons_zero, Option.some.injEq] at hx; subst hx; exact h.1
    | succ j => simp only [List.getElem?_cons_succ] at hx; have := allFrom_spec h.2 j x hx; rw [show i + (j + 1) = i + 1 + j by omega]; exact this
def WD {α : Type} (l0 : List α) (W : Nat → Option (Nat × α)) (D : Nat → Bool) : Nat → List α
  | 0 => l0
  | j + 1 => if D j then wr (WD l0 W D j) (W j) else WD l0 W D j
section
variable {α : Type} {l0 : List α} {W : Nat → Option (Nat × α)}
theorem wr_other {l : List α} {w : Option (Nat × α)} {t : Nat} (h : key w ≠ some t) : (wr l w)[t]? = l[t]? := by
  unfold wr
  split
  · rename_i k x
    rw [List.getElem?_set_ne]
    rintro rfl
    exact h rfl
  · rfl
theorem wr_same {l l' : List α} {w : Option (Nat × α)} {t : Nat} (h : key w = some t) (hl : l.length = l'.length) : (wr l w)[t]? = (wr l' w)[t]? := by
  unfold wr
  split
  · rename_i k x
    simp only [key, Option.map_some, Option.some.injEq] at h
    subst h
    simp only [List.getElem?_set, hl, if_true]
  · cases h
theorem WD_length (D : Nat → Bool) : ∀ m, (WD l0 W D m).length = l0.length
  | 0 => rfl
  | m + 1 => by simp only [WD]; split <;> simp [wr_length, WD_length D m]
theorem WD_get {D D' : Nat → Bool} {t : Nat} : ∀ m, (∀ j, j < m → key (W j) = some t → D j = D' j) → (WD l0 W D m)[t]? = (WD l0 W D' m)[t]?
  | 0, _ => rfl
  | m + 1, h => by
    have ih := WD_get m (fun j hj => h j (by omega))
    simp only [WD]
    by_cases e : key (W m) = some t
    · rw [h m (by omega) e]
      split
      · exact wr_same e (by rw [WD_length, WD_length])
      · exact ih
    · have : ∀ D : Nat → Bool, (if D m = true then wr (WD l0 W D m) (W m) else WD l0 W D m)[t]? = (WD l0 W D m)[t]? := by
        intro D; split
        · exact wr_other e
        · rfl
      rw [this, this]; exact ih
theorem WD_trunc {D : Nat → Bool} {t m : Nat} : ∀ k, (∀ j, m ≤ j → j < m + k → key (W j) = some t → D j = false) → (WD l0 W D (m + k))[t]? = (WD l0 W D m)[t]?
  | 0, _ => rfl
  | k + 1, h => by
    rw [← WD_trunc k (fun j h1 h2 => h j h1 (by omega)), ← Nat.add_assoc]
    simp only [WD]
    split
    · rename_i hD
      refine wr_other fun e => ?_
      rw [h (m + k) (by omega) (by omega) e] at hD
      cases hD
    · rfl
theorem WD_all {D : Nat → Bool} {TM : Nat → List α} : ∀ m, TM 0 = l0 → (∀ j, j < m → TM (j + 1) = wr (TM j) (W j)) → (∀ j, j < m → D j = true) → WD l0 W D m = TM m
  | 0, h0, _, _ => h0.symm
  | m + 1, h0, h1, h2 => by
    simp only [WD, h2 m (by omega), if_true]
    rw [WD_all m h0 (fun j hj => h1 j (by omega)) (fun j hj => h2 j (by omega)), h1 m (by omega)]
theorem WD_at {D : Nat → Bool} {TM : Nat → List α} {i n t : Nat} (hin : i ≤ n) (h0 : TM 0 = l0) (hs : ∀ j, j < i → TM (j + 1) = wr (TM j) (W j))
    (hlt : ∀ j, j < i → key (W j) = some t → D j = true) (hge : ∀ j, i ≤ j → j < n → key (W j) = some t → D j = false) : (WD l0 W D n)[t]? = (TM i)[t]? := by
  obtain ⟨k, rfl⟩ : ∃ k, n = i + k := ⟨n - i, by omega⟩
  rw [WD_trunc k hge, WD_get (D' := fun _ => true) i hlt, WD_all i h0 hs (fun _ _ => rfl)]
theorem WD_after {D D' : Nat → Bool} {i n : Nat} (hin : i < n) (h1 : D' i = true) (h2 : ∀ j, j ≠ i → D' j = D j) (h3 : ∀ t j, key (W i) = some t → i < j → j < n → key (W j) = some t → D j = false) :
    WD l0 W D' n = wr (WD l0 W D n) (W i) := by
  apply List.ext_getElem?
  intro t
  by_cases e : key (W i) = some t
  · obtain ⟨k, rfl⟩ : ∃ k, n = i + 1 + k := ⟨n - (i + 1), by omega⟩
    rw [WD_trunc k (fun j a b c => by rw [h2 j (by omega)]; exact h3 t j e (by omega) b c)]
    simp only [WD, h1, if_true]
    exact wr_same e (by rw [WD_length, WD_length])
  · rw [wr_other e]
    refine WD_get n fun j _ hk => h2 j ?_
    rintro rfl
    exact e hk
end
theorem put_wr (tm : List SV) (dst : Option Tmp) (v : SV) : put tm dst v = wr tm (dst.map fun d => (d, v)) := by cases dst <;> rfl
theorem Holds.drew {W0 : Base} {ρ : Rho} {tm : List SV} {ob : List SO} {a : Act} {w : World} (H : Holds W0 ρ tm ob a w) : Holds W0 ρ tm ob a { w with drawn := w.drawn + 1 } :=
  ⟨H.size, H.rep, H.bnd, H.defers, Below.drew H.below, ⟨H.mem.objs, H.mem.injs, H.mem.frz⟩, H.kept, H.gl, H.fzs, H.keeps⟩
def Ordered (pr : Nat → Nat → Bool) (i j : Nat) : Prop := (j < i ∧ pr i j = true) ∨ (i < j ∧ pr j i = true)
structure Facts (P : Program) (cx : Cx) (ops : Array Oper) (b n : Nat) (TM : Nat → List SV) (OB : Nat → List SO) (V : Nat → SV) (PS : Nat → List Prop) (W : Nat → Option (Nat × SO)) (pr : Nat → Nat → Bool) : Prop where
  le : n ≤ ops.size
  chain : ∀ i j, n ≤ i → i < ops.size → j < n → pr i j = true
  one : ∀ i o, i < n → ops[i]? = some o → Ok (PS i) ∧ TM (i + 1) = put (TM i) o.dst (V i) ∧ OB (i + 1) = wr (OB i) (W i) ∧ (∀ k, key (W i) = some k → effG cx (TM i) o = true ∧ looksG cx (b + i) (TM i) o = some k) ∧
    ∀ ob2, (∀ k, looksG cx (b + i) (TM i) o = some k → ob2[k]? = (OB i)[k]?) → semG P cx ops (b + i) (TM i) ob2 o = some (PS i, V i, wr ob2 (W i))
  back : ∀ i o, i < n → ops[i]? = some o → ∀ e ∈ o.after.toList, Region.binds .any e = true → e.on < i
  prs : ∀ i j o, ops[i]? = some o → pr i j = true → ∃ e ∈ o.after.toList, Region.binds .any e = true ∧ (e.on = j ∨ (e.on < i ∧ pr e.on j = true))
  tmp : ∀ i j o p t, i < n → j < n → i ≠ j → ops[i]? = some o → ops[j]? = some p → p.dst = some t → (t ∈ names ops o ∨ o.dst = some t) → Ordered pr i j
  mem : ∀ i j o p k, i < n → j < n → i ≠ j → ops[i]? = some o → ops[j]? = some p → looksG cx (b + i) (TM i) o = some k → effG cx (TM j) p = true → looksG cx (b + j) (TM j) p = some k → Ordered pr i j
section
variable {P : Program} {cx : Cx} {ops : Array Oper} {b n : Nat} {TM : Nat → List SV} {OB : Nat → List SO} {V : Nat → SV} {PS : Nat → List Prop} {W : Nat → Option (Nat × SO)} {pr : Nat → Nat → Bool}
def Closed (ops : Array Oper) (D : Nat → Bool) : Prop := ∀ i o, D i = true → ops[i]? = some o → ∀ e ∈ o.after.toList, Region.binds .any e = true → D e.on = true
theorem closed_pr (F : Facts P cx ops b n TM OB V PS W pr) {D : Nat → Bool} (hD : Closed ops D) : ∀ (i j : Nat) (o : Oper), ops[i]? = some o → (∀ e ∈ o.after.toList, Region.binds .any e = true → D e.on = true) → pr i j = true → D j = true := by
  intro i
  induction i using Nat.strongRecOn with
  | _ i ih =>
    intro j o ho hall hp
    obtain ⟨e, he, hb, k⟩ := F.prs i j o ho hp
    have hde := hall e he hb
    rcases k with rfl | ⟨hlt, k⟩
    · exact hde
    · cases hq : ops[e.on]? with
      | none =>
        have h1 := (Array.getElem?_eq_some_iff.1 ho).1
        have h2 := Array.getElem?_eq_none_iff.1 hq
        omega
      | some q => exact ih e.on hlt j q hq (fun e' he' hb' => hD _ q hde hq e' he' hb') k
def tmW (ops : Array Oper) (V : Nat → SV) (j : Nat) : Option (Nat × SV) := ((ops[j]?).bind (·.dst)).map fun d => (d, V j)
theorem tmW_key {ops : Array Oper} {V : Nat → SV} {j t : Nat} (h : key (tmW ops V j) = some t) : ∃ o, ops[j]? = some o ∧ o.dst = some t := by
  unfold tmW key at h
  rw [Option.map_map] at h
  obtain ⟨d, hd, rfl⟩ := Option.map_eq_some_iff.1 h
  exact Option.bind_eq_some_iff.1 hd
abbrev tmAt (ops : Array Oper) (n : Nat) (TM : Nat → List SV) (V : Nat → SV) (D : Nat → Bool) : List SV := WD (TM 0) (tmW ops V) D n
abbrev obAt (n : Nat) (OB : Nat → List SO) (W : Nat → Option (Nat × SO)) (D : Nat → Bool) : List SO := WD (OB 0) W D n
theorem one_more (F : Facts P cx ops b n TM OB V PS W pr) {D D' : Nat → Bool} (hD : Closed ops D) {i : Nat} {o : Oper} (hin : i < n) (ho : ops[i]? = some o) (hi : D i = false) (hall : ∀ e ∈ o.after.toList, Region.binds .any e = true → D e.on = true)
    (h1 : D' i = true) (h2 : ∀ j, j ≠ i → D' j = D j) :
    semG P cx ops (b + i) (tmAt ops n TM V D) (obAt n OB W D) o = some (PS i, V i, obAt n OB W D') ∧ tmAt ops n TM V D' = put (tmAt ops n TM V D) o.dst (V i) := by
  have hle := F.le
  have at_ : ∀ j, j < n → ops[j]? = some ops[j]! := fun j hj => by simp [show j < ops.size by omega]
  have hpr : ∀ j, pr i j = true → D j = true := fun j => closed_pr F hD i j o ho hall
  have hbeh : ∀ j, j < n → pr j i = true → D j = false := by
    intro j hj hp
    cases hdj : D j with
    | false => rfl
    | true => rw [closed_pr F hD j i _ (at_ j hj) (fun e he hb => hD j _ hdj (at_ j hj) e he hb) hp] at hi; cases hi
  have ahead : ∀ j, j < i → Ordered pr i j → D j = true := fun j hj h => by
    rcases h with ⟨_, h⟩ | ⟨h, _⟩
    · exact hpr j h
    · omega
  have behind : ∀ j, i ≤ j → j < n → (i ≠ j → Ordered pr i j) → D j = false := fun j hj hjs h => by
    by_cases e : i = j
    · rw [← e]; exact hi
    · rcases h e with ⟨h, _⟩ | ⟨_, h⟩
      · omega
      · exact hbeh j hjs h
  have tms : ∀ j, j < i → TM (j + 1) = wr (TM j) (tmW ops V j) := by
    intro j hj
    rw [(F.one j _ (by omega) (at_ j (by omega))).2.1, put_wr, tmW, at_ j (by omega)]
    rfl
  have obs : ∀ j, j < i → OB (j + 1) = wr (OB j) (W j) := fun j hj => (F.one j _ (by omega) (at_ j (by omega))).2.2.1
  have ordT : ∀ t j, (t ∈ names ops o ∨ o.dst = some t) → j ≠ i → j < n → key (tmW ops V j) = some t → Ordered pr i j := by
    intro t j ht hji hjn hk
    obtain ⟨p, hp, hpd⟩ := tmW_key hk
    exact F.tmp i j o p t hin hjn (fun e => hji e.symm) ho hp hpd ht
  have lookT : ∀ t, t ∈ names ops o → (tmAt ops n TM V D)[t]? = (TM i)[t]? := fun t ht =>
    WD_at (Nat.le_of_lt hin) rfl tms (fun j hj hk => ahead j hj (ordT t j (.inl ht) (by omega) (by omega) hk)) (fun j hj hjs hk => behind j hj hjs fun e => ordT t j (.inl ht) (fun h => e h.symm) hjs hk)
  have ordO : ∀ k j, looksG cx (b + i) (TM i) o = some k → j ≠ i → j < n → key (W j) = some k → Ordered pr i j := by
    intro k j hl hji hjs hk
    obtain ⟨e1, e2⟩ := (F.one j _ hjs (at_ j hjs)).2.2.2.1 k hk
    exact F.mem i j o _ k hin hjs (fun e => hji e.symm) ho (at_ j hjs) hl e1 e2
  have lookO : ∀ k, looksG cx (b + i) (TM i) o = some k → (obAt n OB W D)[k]? = (OB i)[k]? := fun k hl =>
    WD_at (Nat.le_of_lt hin) rfl obs (fun j hj hk => ahead j hj (ordO k j hl (by omega) (by omega) hk)) (fun j hj hjs hk => behind j hj hjs fun e => ordO k j hl (fun h => e h.symm) hjs hk)
  refine ⟨?_, ?_⟩
  · rw [semG_congr (tm' := TM i) fun t ht => by simp only [List.getD_eq_getElem?_getD]; rw [lookT t ht]]
    rw [(F.one i o hin ho).2.2.2.2 _ lookO]
    rw [obAt, obAt, WD_after hin h1 h2]
    intro t j hk hj hjs hkj
    obtain ⟨_, e2⟩ := (F.one i o hin ho).2.2.2.1 t hk
    exact behind j (by omega) hjs fun e => ordO t j e2 (fun h => e h.symm) hjs hkj
  · rw [put_wr, tmAt, tmAt, WD_after hin h1 h2]
    · rw [tmW, ho]; rfl
    · intro t j hk hj hjs hkj
      obtain ⟨p, hp, hpd⟩ := tmW_key hk
      rw [ho] at hp
      obtain rfl := Option.some.inj hp
      exact behind j (by omega) hjs fun e => ordT t j (.inr hpd) (fun h => e h.symm) hjs hkj
theorem tail_any (hcx : CxOK P cx) {inl : Inl} (hin : InlOK P cx.gl inl) (F : Facts P cx ops b n TM OB V PS W pr) (chain : ∀ i j, n ≤ i → i < ops.size → j < i → pr i j = true) (back : ∀ i o, ops[i]? = some o → ∀ e ∈ o.after.toList, Region.binds .any e = true → e.on < i) {W0 : Base} (hat : CxAt cx W0) {Q : Exit → Act → World → Prop} {K : List SV → List SO → Prop} (hK : ∀ ρ tm ob a w, Holds W0 ρ tm ob a w → K tm ob → Q .normal a w) :
    ∀ (fuel : Nat) (listed : Array Bool) (m : Nat) (ρ : Rho) (tm : List SV) (ob : List SO) (a : Act) (w : World), listed.size = ops.size → n ≤ m → m ≤ ops.size → ops.size - m ≤ fuel → (∀ j, j < m → listed.getD j false = true) → (∀ j, m ≤ j → listed.getD j false = false) →
      Holds W0 ρ tm ob a w → runs P cx inl ops false m (ops.toList.drop m) tm ob K → wpAny P .any ops Q fuel listed a w := by
  have rdy : ∀ (listed : Array Bool) (m : Nat), listed.size = ops.size → n ≤ m → m ≤ ops.size → (∀ j, j < m → listed.getD j false = true) → (∀ j, m ≤ j → listed.getD j false = false) → (∀ i, i ∈ Region.ready .any ops listed → i = m) ∧ (m < ops.size → m ∈ Region.ready .any ops listed) := by
    intro listed m hs hnm hms hlo hhi
    refine ⟨fun i hi => ?_, fun hlt => ?_⟩
    · obtain ⟨h1, o, ho, hall⟩ := mem_ready.1 hi
      have hlt := (Array.getElem?_eq_some_iff.1 ho).1
      have hDi : listed.getD i false = false := by
        have hls : i < listed.size := by omega
        simp only [Array.getD_eq_getD_getElem?, Array.getElem?_eq_getElem hls, Option.getD_some] at h1 ⊢; exact h1
      have him : m ≤ i := by
        rcases Nat.lt_or_ge i m with g | g
        · rw [hlo i g] at hDi; cases hDi
        · exact g
      rcases Nat.lt_or_ge m i with g | g
      · have hc : Closed ops (fun j => listed.getD j false) := by
          intro k p hk hp e he hb
          have hkm : k < m := by
            rcases Nat.lt_or_ge k m with g | g
            · exact g
            · simp only [hhi k g] at hk; cases hk
          have := back k p hp e he hb
          exact hlo _ (by omega)
        have := closed_pr F hc i m o ho (fun e he hb => hall e (by simpa using he) hb) (chain i m (by omega) hlt g)
        simp only [hhi m (Nat.le_refl m)] at this
        cases this
      · omega
    · have hom : ops[m]? = some ops[m] := Array.getElem?_eq_getElem hlt
      refine mem_ready.2 ⟨?_, _, hom, fun e he hb => ?_⟩
      · have hls : m < listed.size := by omega
        have hDi := hhi m (Nat.le_refl m)
        simp only [Array.getD_eq_getD_getElem?, Array.getElem?_eq_getElem hls, Option.getD_some] at hDi ⊢; exact hDi
      · exact hlo _ (back m _ hom e (by simpa using he) hb)
  have done : ∀ (m : Nat) (ρ : Rho) (tm : List SV) (ob : List SO) (a : Act) (w : World), ops.size ≤ m → Holds W0 ρ tm ob a w → runs P cx inl ops false m (ops.toList.drop m) tm ob K → Q .normal a w := by
    intro m ρ tm ob a w hm H h
    rw [List.drop_of_length_le (by simpa using hm)] at h
    exact hK ρ tm ob a w H h
  intro fuel
  induction fuel with
  | zero =>
    intro listed m ρ tm ob a w hs hnm hms hf hlo hhi H h
    obtain ⟨r1, _⟩ := rdy listed m hs hnm hms hlo hhi
    refine ⟨?_, done m ρ tm ob a w (by omega) H h⟩
    rw [List.eq_nil_iff_forall_not_mem]
    intro j hj
    have := r1 j hj
    obtain ⟨_, o, ho, _⟩ := mem_ready.1 hj
    have hlt := (Array.getElem?_eq_some_iff.1 ho).1
    omega
  | succ fuel ih =>
    intro listed m ρ tm ob a w hs hnm hms hf hlo hhi H h
    obtain ⟨r1, r2⟩ := rdy listed m hs hnm hms hlo hhi
    refine ⟨fun hr => ?_, fun i hi => ?_⟩
    · rcases Nat.lt_or_ge m ops.size with g | g
      · have := r2 g
        rw [hr] at this; cases this
      · exact done m ρ tm ob a w g H h
    · have := r1 i hi
      subst this
      obtain ⟨_, o, ho, _⟩ := mem_ready.1 hi
      have hlt := (Array.getElem?_eq_some_iff.1 ho).1
      have hls : i < listed.size := by omega
      have hd : ops.toList.drop i = o :: ops.toList.drop (i + 1) := by
        have hl : i < ops.toList.length := by simpa using hlt
        rw [List.drop_eq_getElem_cons hl]
        congr 1
        have : ops.toList[i]? = some o := by simpa using ho
        rw [List.getElem?_eq_getElem hl] at this
        exact Option.some.inj this
      rw [hd] at h
      have := runs_step (Q := Q) hcx hat hin H h (Z := wpAny P .any ops Q fuel (listed.setIfInBounds i true)) fun ρ' tm' ob' a' w' H' h' => by
        refine ih _ (i + 1) ρ' tm' ob' a' w' (by simpa using hs) (by omega) (by omega) (by omega) (fun j hj => ?_) (fun j hj => ?_) H' h'
        · by_cases e : i = j
          · subst e; simp [hls]
          · exact getD_set_true (hlo j (by omega))
        · rw [getD_set_ne false (by omega)]
          exact hhi j (by omega)
      unfold wpOp
      simp only [ho]
      exact this
theorem drawn_any (hcx : CxOK P cx) (F : Facts P cx ops b n TM OB V PS W pr) {W0 : Base} (hat : CxAt cx W0) {Q : Exit → Act → World → Prop}
    (tl : ∀ (listed : Array Bool) (ρ : Rho) (a : Act) (w : World), listed.size = ops.size → (∀ j, j < n → listed.getD j false = true) → (∀ j, n ≤ j → listed.getD j false = false) → Holds W0 ρ (TM n) (OB n) a w → wpAny P .any ops Q (ops.size - n) listed a w) :
    ∀ (fuel : Nat) (listed : Array Bool) (L : List Nat) (ρ : Rho) (a : Act) (w : World), listed.size = ops.size → L.length + (ops.size - n) = fuel → L.Nodup → (∀ j, j ∈ L → j < n ∧ listed.getD j false = false) → (∀ j, j < n → listed.getD j false = false → j ∈ L) → (∀ j, n ≤ j → listed.getD j false = false) → Closed ops (fun j => listed.getD j false) →
      Holds W0 ρ (tmAt ops n TM V fun j => listed.getD j false) (obAt n OB W fun j => listed.getD j false) a w → wpAny P .any ops Q fuel listed a w := by
  have hle := F.le
  have tailed : ∀ (fuel : Nat) (listed : Array Bool) (L : List Nat) (ρ : Rho) (a : Act) (w : World), listed.size = ops.size → L.length + (ops.size - n) = fuel → (∀ j, j ∈ L → j < n ∧ listed.getD j false = false) → (∀ j, j < n → listed.getD j false = true) → (∀ j, n ≤ j → listed.getD j false = false) →
      Holds W0 ρ (tmAt ops n TM V fun j => listed.getD j false) (obAt n OB W fun j => listed.getD j false) a w → wpAny P .any ops Q fuel listed a w := by
    intro fuel listed L ρ a w hs hf hL all hhi H
    have e1 : tmAt ops n TM V (fun j => listed.getD j false) = TM n := by
      refine WD_all _ rfl (fun j hj => ?_) all
      have hoj : ops[j]? = some ops[j] := Array.getElem?_eq_getElem (by omega)
      rw [(F.one j _ hj hoj).2.1, put_wr, tmW, hoj]; rfl
    have e2 : obAt n OB W (fun j => listed.getD j false) = OB n :=
      WD_all _ rfl (fun j hj => (F.one j _ hj (Array.getElem?_eq_getElem (by omega))).2.2.1) all
    rw [e1, e2] at H
    have e3 : L = [] := by
      cases L with
      | nil => rfl
      | cons x r =>
        obtain ⟨h1, h2⟩ := hL x (List.mem_cons_self ..)
        rw [all x h1] at h2; cases h2
    subst e3
    have e4 : fuel = ops.size - n := by simpa using hf.symm
    rw [e4]
    exact tl listed ρ a w hs all hhi H
  intro fuel
  induction fuel with
  | zero =>
    intro listed L ρ a w hs hL hnd hun hmem hhi hc H
    refine tailed 0 listed L ρ a w hs hL hun (fun j hj => ?_) hhi H
    cases hl : listed.getD j false with
    | true => rfl
    | false =>
      have : 0 < L.length := List.length_pos_of_mem (hmem j hj hl)
      omega
  | succ fuel ih =>
    intro listed L ρ a w hs hL hnd hun hmem hhi hc H
    by_cases hall : ∀ j, j < n → listed.getD j false = true
    · exact tailed _ listed L ρ a w hs hL hun hall hhi H
    refine ⟨fun hr => ?_, fun i hi => ?_⟩
    · refine absurd ?_ hall
      intro j
      induction j using Nat.strongRecOn with
      | _ j ih =>
        intro hj
        cases hl : listed.getD j false with
        | true => rfl
        | false =>
          have hoj : ops[j]? = some ops[j] := Array.getElem?_eq_getElem (by omega)
          have : j ∈ Region.ready .any ops listed := by
            refine mem_ready.2 ⟨?_, _, hoj, fun e he hb => ?_⟩
            · have : j < listed.size := by omega
              simp only [Array.getD_eq_getD_getElem?, Array.getElem?_eq_getElem this, Option.getD_some] at hl ⊢; exact hl
            · have := F.back j _ hj hoj e (by simpa using he) hb
              exact ih e.on this (by omega)
          rw [hr] at this; cases this
    obtain ⟨h1, o, ho, hall1⟩ := mem_ready.1 hi
    have hlt := (Array.getElem?_eq_some_iff.1 ho).1
    have hls : i < listed.size := by omega
    have hDi : listed.getD i false = false := by
      simp only [Array.getD_eq_getD_getElem?, Array.getElem?_eq_getElem hls, Option.getD_some] at h1 ⊢; exact h1
    have hall' : ∀ e ∈ o.after.toList, Region.binds .any e = true → listed.getD e.on false = true := fun e he hb => hall1 e (by simpa using he) hb
    have hin' : i < n := by
      rcases Nat.lt_or_ge i n with g | g
      · exact g
      · exact absurd (fun j hj => closed_pr F hc i j o ho hall' (F.chain i j g hlt hj)) hall
    obtain ⟨hs1, hs2⟩ := one_more F hc hin' ho hDi hall' (D' := fun j => (listed.setIfInBounds i true).getD j false)
      (by simp [hls]) (fun j hj => getD_set_ne false (fun h => hj h.symm))
    have hiL := hmem i hin' hDi
    have := semG_sound hcx hat.1 H hs1 (F.one i o hin' ho).1 (Q := Q) (K := wpAny P .any ops Q fuel (listed.setIfInBounds i true)) fun ρ' a' w' H' => by
      refine ih (listed.setIfInBounds i true) (L.erase i) ρ' a' w' (by simpa using hs) ?_ (hnd.erase i) (fun j hj => ?_) ?_ ?_ ?_ ?_
      · have := List.length_pos_of_mem hiL
        rw [List.length_erase_of_mem hiL]; omega
      · have e : i ≠ j := fun e => by subst e; exact (List.Nodup.not_mem_erase hnd) hj
        rw [getD_set_ne false e]
        exact hun j (List.mem_of_mem_erase hj)
      · intro j hj hlj
        by_cases e : i = j
        · subst e; simp [hls] at hlj
        · rw [getD_set_ne false e] at hlj
          exact (List.mem_erase_of_ne (fun h => e h.symm)).2 (hmem j hj hlj)
      · intro j hj
        rw [getD_set_ne false (by omega)]
        exact hhi j hj
      · intro j p hj hp e he hb
        by_cases e' : i = j
        · subst e'
          rw [ho] at hp
          obtain rfl := Option.some.inj hp
          exact getD_set_true (hall' e he hb)
        · simp only [getD_set_ne false e'] at hj
          exact getD_set_true (hc j p hj hp e he hb)
      · rw [hs2]; exact H'
    unfold wpOp
    simp only [ho]
    split
    · rename_i hw; rw [if_pos hw] at this; exact .inl this
    · rename_i hw; rw [if_neg hw] at this; exact this
end
theorem drawn_go {P : Program} {cx : Cx} (hcx : CxOK P cx) {ops : Array Oper} {tm : List SV} {ob : List SO} {n : Nat} {W0 : Base} {ρ : Rho} {a : Act} {w : World} {Q : Exit → Act → World → Prop} {id : Nat} (hat : CxAt cx W0) (H : Holds W0 ρ tm ob a w)
    (hm : P.follows .mixedOrders = true) (hn : n ≤ ops.size) (hback : ∀ i o, i < n → ops[i]? = some o → ∀ e ∈ o.after.toList, Region.binds .any e = true → e.on < i)
    (hchain : ∀ i j, n ≤ i → i < ops.size → j < n → prB (clos ops.toList []) i j = true)
    (hpairs : allFrom (fun i I => allFrom (fun j J => okPair (clos ops.toList []) i I j J) 0 (infos P cx ops ob.length (ops.toList.take n) tm (kept ops ob))) 0 (infos P cx ops ob.length (ops.toList.take n) tm (kept ops ob)) = true)
    {K2 : List SV → List SO → Prop} (hr : runs P cx noInl ops true ob.length (ops.toList.take n) tm (kept ops ob) K2)
    (tl : ∀ {TM : Nat → List SV} {OB : Nat → List SO} {V : Nat → SV} {PS : Nat → List Prop} {W : Nat → Option (Nat × SO)}, Facts P cx ops ob.length n TM OB V PS W (prB (clos ops.toList [])) → K2 (TM n) (OB n) →
      ∀ (listed : Array Bool) (ρ : Rho) (a : Act) (w : World), listed.size = ops.size → (∀ j, j < n → listed.getD j false = true) → (∀ j, n ≤ j → listed.getD j false = false) → Holds W0 ρ (TM n) (OB n) a w → wpAny P .any ops Q (ops.size - n) listed a w) :
    (Code.region id ops true).wp P Q a w := by
  have hlen : (ops.toList.take n).length = n := by simp; omega
  obtain ⟨TM, OB, V, PS, W, h0, h0', hone, hfin⟩ := runs_seq hr (by
    rintro ⟨o, ho, hn⟩
    have : ops.toList.any (fun o => isNew o.op) = true := List.any_eq_true.2 ⟨o, List.mem_of_mem_take ho, hn⟩
    simp [kept, this, gones_length]
    omega)
  have get : ∀ {i : Nat} {o : Oper}, ops[i]? = some o → ops.toList[i]? = some o := fun h => by simpa using h
  have getn : ∀ {i : Nat} {o : Oper}, i < n → ops[i]? = some o → (ops.toList.take n)[i]? = some o := fun hi h => by rw [List.getElem?_take, if_pos hi]; exact get h
  have pair : ∀ i j o p, i < n → j < n → i ≠ j → ops[i]? = some o → ops[j]? = some p → okPair (clos ops.toList []) i (infoOf cx ops (ob.length + i) (TM i) o) j (infoOf cx ops (ob.length + j) (TM j) p) = true := by
    intro i j o p hi hj _ ho hp
    have h1 := allFrom_spec hpairs i _ (hone i o (getn hi ho)).2.2.2.1
    have h2 := allFrom_spec h1 j _ (hone j p (getn hj hp)).2.2.2.1
    simpa using h2
  have ord : ∀ i j, ordB (clos ops.toList []) i j = true → Ordered (prB (clos ops.toList [])) i j := by
    intro i j h
    simp only [ordB, Bool.or_eq_true, Bool.and_eq_true, Nat.blt_eq] at h
    exact h
  have rest : ∀ i j o p, i < n → j < n → i ≠ j → ops[i]? = some o → ops[j]? = some p → Ordered (prB (clos ops.toList [])) i j ∨
      ((match p.dst with
       | some t => !((names ops o).contains t || o.dst == some t)
       | none => true) = true ∧
      (match looksG cx (ob.length + i) (TM i) o with
       | some k => !(effG cx (TM j) p && looksG cx (ob.length + j) (TM j) p == some k)
       | none => true) = true) := by
    intro i j o p hi hj hij ho hp
    have := pair i j o p hi hj hij ho hp
    simp only [okPair, infoOf, Bool.or_eq_true, Bool.and_eq_true] at this
    rcases this with h | h | ⟨k1, k3⟩
    · exact absurd (Nat.eq_of_beq_eq_true h) hij
    · exact .inl (ord i j h)
    · exact .inr ⟨k1, k3⟩
  have F : Facts P cx ops ob.length n TM OB V PS W (prB (clos ops.toList [])) := by
    refine ⟨hn, fun i j hi his hji => ?_, fun i o hi ho => ?_, fun i o hi ho e he hbd => ?_, fun i j o ho hp => prB_spec (get ho) hp, ?_, ?_⟩
    · exact hchain i j hi his hji
    · obtain ⟨_, k2, k3, _, k5, k6, k7⟩ := hone i o (getn hi ho); exact ⟨k2, k3, k5, k6, k7⟩
    · exact hback i o hi ho e he hbd
    · intro i j o p t hi hj hij ho hp hpd ht
      rcases rest i j o p hi hj hij ho hp with h | ⟨k1, _⟩
      · exact h
      · rw [hpd] at k1
        simp only [Bool.not_eq_true', Bool.or_eq_false_iff] at k1
        obtain ⟨k1, k2⟩ := k1
        rcases ht with ht | ht
        · simp at k1; exact absurd ht k1
        · simp [ht] at k2
    · intro i j o p k hi hj hij ho hp hl he ht
      rcases rest i j o p hi hj hij ho hp with h | ⟨_, k3⟩
      · exact h
      · simp [hl, he, ht] at k3
  refine wp_region_any hm ?_
  rw [hlen] at hfin
  have none_listed : ∀ j, (Array.replicate ops.size false).getD j false = false := by
    intro j
    simp only [Array.getD_eq_getD_getElem?, Array.getElem?_replicate]
    split <;> rfl
  refine drawn_any hcx F hat (tl F hfin) ops.size _ (List.range n) ρ a _ (by simp) (by simp; omega) List.nodup_range (fun j hj => ⟨List.mem_range.1 hj, none_listed j⟩) (fun j hj _ => List.mem_range.2 hj) (fun j _ => none_listed j) (fun i o hi => by simp only [none_listed] at hi; cases hi) ?_
  have none_done : ∀ {α : Type} (l : List α) (W : Nat → Option (Nat × α)) (m : Nat), WD l W (fun j => (Array.replicate ops.size false).getD j false) m = l := by
    intro α l W m
    induction m with
    | zero => rfl
    | succ m ih => rw [WD, if_neg (by rw [none_listed]; simp), ih]
  rw [tmAt, obAt, none_done, none_done, h0, h0']
  exact (H.withGones ops).drew
theorem headL_eq {n size : Nat} {listed : Array Bool} (hs : listed.size = size) (hn : n ≤ size) (all : ∀ j, j < n → listed.getD j false = true) (hhi : ∀ j, n ≤ j → listed.getD j false = false) : listed = headL n size := by
  unfold headL
  refine Array.ext (by simp [hs]) fun j h1 h2 => ?_
  simp only [List.getElem_toArray, List.getElem_map, List.getElem_range]
  have e : listed.getD j false = listed[j] := by simp [Array.getD_eq_getD_getElem?, Array.getElem?_eq_getElem h1]
  rcases Nat.lt_or_ge j n with k | k
  · rw [← e, all j k, show Nat.blt j n = true by rw [Nat.blt_eq]; exact k]
  · rw [← e, hhi j k]
    cases q : Nat.blt j n with
    | false => rfl
    | true => rw [Nat.blt_eq] at q; omega
theorem drawOK_ok {P : Program} {cx : Cx} (hcx : CxOK P cx) : DrawnOK P cx drawOK := by
  intro kn ops tm ob n hd0 inl hin W0 ρ a w Q K id hat H hr hK
  have hcx : CxOK P { cx with kn := kn } := hcx
  have hin : InlOK P ({ cx with kn := kn } : Cx).gl inl := hin
  generalize ({ cx with kn := kn } : Cx) = cx at *
  have get : ∀ {i : Nat} {o : Oper}, ops[i]? = some o → ops.toList[i]? = some o := fun h => by simpa using h
  unfold drawOK at hd0
  split at hd0
  · rename_i hd
    simp only [Option.some.injEq] at hd0
    rw [hd0] at hd
    rw [Bool.and_eq_true] at hd
    obtain ⟨hlt, hd⟩ := hd
    unfold drawAt at hd
    simp only [Bool.and_eq_true] at hd
    obtain ⟨⟨⟨hm, hb⟩, hn, hchain⟩, hpairs⟩ := hd
    have hn : n ≤ ops.size := Nat.le_of_ble_eq_true hn
    unfold drawnRun at hr
    rw [hlt] at hr
    have back : ∀ i o, ops[i]? = some o → ∀ e ∈ o.after.toList, Region.binds .any e = true → e.on < i := fun i o ho e he hbd => by
      have := allFrom_spec hb i o (get ho)
      rw [List.all_eq_true] at this
      have := this e he
      simp only [hbd, Bool.not_true, Bool.false_or, Nat.zero_add, Nat.blt_eq] at this
      exact this
    have chain : ∀ i j, n ≤ i → i < ops.size → j < i → prB (clos ops.toList []) i j = true := fun i j hi his hji => by
      unfold chainB at hchain
      have h1 := List.all_eq_true.1 hchain (i - n) (List.mem_range.2 (by omega))
      rw [show n + (i - n) = i by omega] at h1
      exact List.all_eq_true.1 h1 j (List.mem_range.2 hji)
    exact drawn_go hcx hat H hm hn (fun i o _ => back i o) (fun i j hi his hj => chain i j hi his (by omega)) hpairs hr fun F hk listed ρ a w hs all hhi H =>
      tail_any hcx hin F chain back hat hK (ops.size - n) listed n ρ _ _ a w hs (Nat.le_refl _) hn (Nat.le_refl _) all hhi H hk
  · split at hd0
    case h_2 => cases hd0
    rename_i hd
    simp only [Option.some.injEq] at hd0
    generalize tailFrom cx tm 0 ops.toList = m at *
    subst hd0
    unfold drawMx at hd
    simp only [Bool.and_eq_true] at hd
    obtain ⟨⟨⟨⟨_, hm⟩, hb⟩, hn, hchain⟩, hpairs⟩ := hd
    have hn : m ≤ ops.size := Nat.le_of_ble_eq_true hn
    unfold drawnRun at hr
    have hlt : Nat.blt (m + 1000) 1000 = false := by
      cases q : Nat.blt (m + 1000) 1000 with
      | false => rfl
      | true => rw [Nat.blt_eq] at q; omega
    rw [hlt, Nat.add_sub_cancel] at hr
    have back : ∀ i o, i < m → ops[i]? = some o → ∀ e ∈ o.after.toList, Region.binds .any e = true → e.on < i := fun i o hi ho e he hbd => by
      have := allFrom_spec hb i o (by rw [List.getElem?_take, if_pos hi]; exact get ho)
      rw [List.all_eq_true] at this
      have := this e he
      simp only [hbd, Bool.not_true, Bool.false_or, Nat.zero_add, Nat.blt_eq] at this
      exact this
    have chain : ∀ i j, m ≤ i → i < ops.size → j < m → prB (clos ops.toList []) i j = true := fun i j hi his hj => by
      unfold headB at hchain
      have h1 := List.all_eq_true.1 hchain (i - m) (List.mem_range.2 (by omega))
      rw [show m + (i - m) = i by omega] at h1
      exact List.all_eq_true.1 h1 j (List.mem_range.2 hj)
    refine Code.wp_mono (fun _ _ _ k => k.2) (drawn_go (Q := fun e a w => e = .normal ∧ Q e a w) hcx hat H hm hn back chain hpairs hr fun F hk listed ρ a w hs all hhi H => ?_)
    rw [headL_eq hs hn all hhi]
    exact anyRuns_sound hcx hat hin hK _ _ ρ _ _ a w H hk
end Go.Sx
end

section
namespace Go.Sx
open Go.RowKit
abbrev sI (k : IntKind) (n : Int) : SA := .sc (.val (.int k n))
abbrev sB (b : Bool) : SA := .sc (.val (.bool b))
theorem FnOK_of {P : Program} {gl : Globs} {f : Nat} {fn : Func} (hf : P.funcs[f]? = some fn) (hb : fn.body.isSome = true) (hn : (fn.name == "runtime.NumGoroutine") = false) {s : FSpec}
    (h : ∀ args ps sv, s args = some (ps, sv) → Ok ps → sv.bnd none0 ∧ ∀ (ρ : Rho) (w : World), FzOK ρ.fz w → GlobsOK gl ρ.fz → (∀ x ∈ args, x.bnd ⟨fun _ => True, ρ.fz⟩) → Calls P f (args.map (SA.conc ρ)).toArray w fun e w' => ∃ v, e = .returned v ∧ sv.rep ρ v ∧ Below w.heap.size w w') : FnOKg P gl f s :=
  fun args ps sv hs hp => ⟨(h args ps sv hs hp).1, fun ρ w hz hg ha => .inl ⟨run_callFunc_enter hf hb hn _ w, (h args ps sv hs hp).2 ρ w hz hg ha⟩⟩
def Owes (P : Program) (cx : Cx) (iv : List (Nat × Hint)) (N : Nat) (fn : Func) (args : List SA) (out : SV) : Prop :=
  sx P cx (inlD P cx drawOK iv N 8) drawOK iv N 0 0 (fn.body.getD .skip) (slots0 args fn.ntmps) [] (ret P fn.results.toList fun sv _ => same sv out)
theorem Mem.start {B : Nat} {ρ : Rho} {w : World} (hz : FzOK ρ.fz w) : Mem B ρ [] w :=
  ⟨fun i x hi => by simp at hi, fun i j ⟨x, hi, _⟩ => by simp at hi, fun b o v hv => ⟨hz b o v hv, fun i ⟨x, hi, _⟩ => by simp at hi⟩⟩
theorem calls_of_owesG {P : Program} {cx : Cx} (hcx : CxOK P cx) {iv : List (Nat × Hint)} {N : Nat} {f : FuncId} {fn : Func} (hf : P.funcs[f]? = some fn) (hb : fn.body.isSome = true) {args : List SA} {out : SV}
    (h : Owes P cx iv N fn args out) (ρ : Rho) (w : World) (hz : FzOK ρ.fz w) (hg : GlobsOK cx.gl ρ.fz) (hargs : ∀ x ∈ args, x.bnd ⟨fun _ => False, ρ.fz⟩) : Calls P f (args.map (SA.conc ρ)).toArray w fun e w' => ∃ v, e = .returned v ∧ (∃ ρ', out.rep ρ' v) ∧ Below w.heap.size w w' := by
  obtain ⟨c, hc⟩ := Option.isSome_iff_exists.1 hb
  unfold Owes at h
  rw [hc] at h
  exact calls_of_sx hcx (inlD_ok hcx (drawOK_ok hcx) iv N 8) (drawOK_ok hcx) iv N 0 hf hc (Z := w) (ob := []) args ρ (fun x hx => SA.bnd_mono (n := ⟨fun _ => False, ρ.fz⟩) (m := lv ρ []) ⟨fun _ k => k.elim, fun _ _ _ k => k⟩ (hargs x hx)) w (Below.refl _ _) (Mem.start hz) hg (Nat.zero_le _) (Keeps.none _ _ _) _ (fun sv ob' ρ' v w' hp hr _ hb _ _ _ _ => ⟨v, rfl, ⟨ρ', same_sound hp ρ' v hr⟩, hb⟩) h
theorem calls_of_owes0 {P : Program} {cx : Cx} (hcx : CxOK P cx) {iv : List (Nat × Hint)} {N : Nat} {f : FuncId} {fn : Func} (hf : P.funcs[f]? = some fn) (hb : fn.body.isSome = true) {args : List SA} (hargs : ∀ x ∈ args, x.bnd none0) {out : SV}
    (h : Owes P cx iv N fn args out) (ρ : Rho) (w : World) (hz : FzOK ρ.fz w) (hg : GlobsOK cx.gl ρ.fz) : Calls P f (args.map (SA.conc ρ)).toArray w fun e w' => ∃ v, e = .returned v ∧ (∃ ρ', out.rep ρ' v) ∧ Below w.heap.size w w' :=
  calls_of_owesG hcx hf hb h ρ w hz hg (fun x hx => SA.bnd_mono none0_le (hargs x hx))
theorem rep_none0 {s : SV} (h : s.bnd none0) {ρ ρ' : Rho} {v : Value} (hr : s.rep ρ v) : s.rep ρ' v := Agree.sv (n := none0) (fun _ hi => hi.elim) h hr
theorem FnOK_owes {P : Program} {cx : Cx} (hcx : CxOK P cx) {iv : List (Nat × Hint)} {N : Nat} {f : Nat} {fn : Func} (hf : P.funcs[f]? = some fn) (hb : fn.body.isSome = true) (hn : (fn.name == "runtime.NumGoroutine") = false) {s : FSpec}
    (h : ∀ args ps sv, s args = some (ps, sv) → Ok ps → ∃ args', (∀ ρ, args.map (SA.conc ρ) = args'.map (SA.conc ρ)) ∧ (∀ x ∈ args', x.bnd none0) ∧ sv.bnd none0 ∧ Owes P cx iv N fn args' sv) : FnOKg P cx.gl f s :=
  FnOK_of hf hb hn fun args ps sv hs hp => by
    obtain ⟨args', h1, h2, h3, h4⟩ := h args ps sv hs hp
    refine ⟨h3, fun ρ w hz hg _ => ?_⟩
    rw [h1]
    refine (calls_of_owesG hcx hf hb h4 ρ w hz hg (fun x hx => SA.bnd_mono none0_le (h2 x hx))).mono ?_
    rintro e w' ⟨v, rfl, ⟨ρ', hr⟩, hbl⟩
    exact ⟨v, rfl, rep_none0 h3 hr, hbl⟩
attribute [irreducible] Owes
end Go.Sx
end
