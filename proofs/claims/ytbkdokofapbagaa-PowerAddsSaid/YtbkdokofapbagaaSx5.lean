/-
  A calculus of symbolic states for walks over translated Go code, part 5: what each operation gives that leaves memory alone.
-/
import Derived.Test.YtbkdokofapbagaaSx4
namespace Go.Sx
open Go.RowKit

def eqAns : Option (List Bool) → BinOp → VR
  | some bs, .eql => some ([], .sc (.val (.bool (conj bs))))
  | some bs, .neq => some ([], .sc (.val (.bool (!conj bs))))
  | _, _ => none
def semBin (P : Program) (op : BinOp) (t : TypeId) (xo yo : Operand) (x y : SA) : VR :=
  match x, y with
  | .agg ks, .agg ks' =>
    if P.eqGuardType P.depth t then none else
    match P.underlying t with
    | some (.struct _) | some (.array _ _) =>
      match leafs P 10000 t with
      | some ls => eqAns (eqAgg ls ks ks') op
      | none => none
    | _ => none
  | _, _ =>
    match asV x, asV y with
    | some v, some w =>
      match op, v, w, isLit y with
      | .quo, .int k a, .int k' b, false => if k = k' then some ([b ≠ 0], .sc (.val (.int k (k.wrap (a.tdiv b))))) else none
      | .rem, .int k a, .int k' b, false => if k = k' then some ([b ≠ 0], .sc (.val (.int k (a.tmod b)))) else none
      | .shl, .int k a, .int _ b, false => some ([0 ≤ b], .sc (.val (.int k (k.wrap (a * 2 ^ min b.toNat k.bits)))))
      | .shr, .int k a, .int _ b, false => some ([0 ≤ b], .sc (.val (.int k (a.fdiv (2 ^ min b.toNat k.bits)))))
      | .add, .string a, .string b, false => some ([a.size + b.size ≤ 9223372036854775807], .sc (.val (.string (a ++ b))))
      | _, _, _, _ => (evalS P (eqGuard op t xo yo v w >>= fun _ => binOp op t v w)).map fun r => ([], ofV (isLit x && isLit y) r)
    | _, _ => none

theorem run_eqGuard_ints (P : Program) (w : World) (op : BinOp) (t : TypeId) (xo yo : Operand) (k k' : IntKind) (a b : Int) : (eqGuard op t xo yo (.int k a) (.int k' b)).run P w = .ok () w := by
  cases op <;> simp [eqGuard]

theorem eqAns_sound {P : Program} {op : BinOp} {t : TypeId} {xo yo : Operand} {ks ks' : List SK} {r : Option (List Bool)} {z : SA} {ps : List Prop} (h : eqAns r op = some (ps, z)) {ρ : Nat → Nat} {w : World}
    (hg : P.eqGuardType P.depth t = false) (hr : ∀ bs, r = some bs → (Op.equalIn 10000 t (.agg (concs ρ ks).toArray) (.agg (concs ρ ks').toArray)).run P w = .ok (conj bs) w) (n : Nat → Prop) :
    (eqGuard op t xo yo (SA.conc ρ (.agg ks)) (SA.conc ρ (.agg ks')) >>= fun _ => binOp op t (SA.conc ρ (.agg ks)) (SA.conc ρ (.agg ks'))).run P w = .ok (z.conc ρ) w ∧ z.bnd n := by
  unfold eqAns at h
  split at h
  · simp only [Option.some.injEq, Prod.mk.injEq] at h
    obtain ⟨rfl, rfl⟩ := h
    refine ⟨?_, trivial⟩
    simp only [SA.conc, Sem.run_bind, run_eqGuard_agg w _ _ _ _ _ _ hg, Result.andThen_ok, run_eql_struct, hr _ rfl, SC.conc]
  · simp only [Option.some.injEq, Prod.mk.injEq] at h
    obtain ⟨rfl, rfl⟩ := h
    refine ⟨?_, trivial⟩
    simp only [SA.conc, Sem.run_bind, run_eqGuard_agg w _ _ _ _ _ _ hg, Result.andThen_ok, run_neq_struct, hr _ rfl, SC.conc]
  · cases h

theorem semBin_sound {P : Program} {op : BinOp} {t : TypeId} {xo yo : Operand} {x y z : SA} {ps : List Prop} (h : semBin P op t xo yo x y = some (ps, z)) (hp : Ok ps) (ρ : Nat → Nat) (n : Nat → Prop) (w : World) :
    (eqGuard op t xo yo (x.conc ρ) (y.conc ρ) >>= fun _ => binOp op t (x.conc ρ) (y.conc ρ)).run P w = .ok (z.conc ρ) w ∧ z.bnd n := by
  unfold semBin at h
  split at h
  · rename_i ks ks'
    split at h
    · cases h
    rename_i hg
    have hg : P.eqGuardType P.depth t = false := by simpa using hg
    have main : ∀ ls, leafs P 10000 t = some ls → (∀ l : List Value, whole P t l = .agg l.toArray) → ∀ bs, eqAgg ls ks ks' = some bs →
        (Op.equalIn 10000 t (.agg (concs ρ ks).toArray) (.agg (concs ρ ks').toArray)).run P w = .ok (conj bs) w := by
      intro ls hl hw bs hb
      obtain ⟨b0, e0, e1⟩ := eqAgg_sound ρ hb
      have := equalIn_leafs w 10000 t ls hl _ _ _ e0
      rw [hw, hw] at this
      rw [this, e1, conj_all]
    have fin : ∀ ls, leafs P 10000 t = some ls → (∀ l : List Value, whole P t l = .agg l.toArray) → eqAns (eqAgg ls ks ks') op = some (ps, z) →
        (eqGuard op t xo yo (SA.conc ρ (.agg ks)) (SA.conc ρ (.agg ks')) >>= fun _ => binOp op t (SA.conc ρ (.agg ks)) (SA.conc ρ (.agg ks'))).run P w = .ok (z.conc ρ) w ∧ z.bnd n :=
      fun ls hl hw h => eqAns_sound h hg (main ls hl hw) n
    split at h
    · rename_i fs hu
      split at h
      · rename_i ls hl; exact fin ls hl (fun l => by simp [whole, hu]) h
      · cases h
    · rename_i m e hu
      split at h
      · rename_i ls hl; exact fin ls hl (fun l => by simp [whole, hu]) h
      · cases h
    · cases h
  · split at h
    case h_2 => cases h
    rename_i v v' hv hv'
    rw [asV_sound hv ρ, asV_sound hv' ρ]
    split at h
    · split at h
      · rename_i k a k' b _ hk
        subst hk
        simp only [Option.some.injEq, Prod.mk.injEq] at h
        obtain ⟨rfl, rfl⟩ := h
        refine ⟨?_, trivial⟩
        simp only [Sem.run_bind, run_eqGuard_ints, Result.andThen_ok]
        simp [binOp, Op.intDiv, hp.1, SA.conc, SC.conc]
      · cases h
    · split at h
      · rename_i k a k' b _ hk
        subst hk
        simp only [Option.some.injEq, Prod.mk.injEq] at h
        obtain ⟨rfl, rfl⟩ := h
        refine ⟨?_, trivial⟩
        simp only [Sem.run_bind, run_eqGuard_ints, Result.andThen_ok]
        simp [binOp, Op.intDiv, hp.1, SA.conc, SC.conc]
      · cases h
    · rename_i k a k' b _
      simp only [Option.some.injEq, Prod.mk.injEq] at h
      obtain ⟨rfl, rfl⟩ := h
      refine ⟨?_, trivial⟩
      have hb : ¬ b < 0 := by have := hp.1; omega
      simp only [Sem.run_bind, run_eqGuard_ints, Result.andThen_ok]
      simp [binOp, Op.shift, hb, SA.conc, SC.conc]
    · rename_i k a k' b _
      simp only [Option.some.injEq, Prod.mk.injEq] at h
      obtain ⟨rfl, rfl⟩ := h
      refine ⟨?_, trivial⟩
      have hb : ¬ b < 0 := by have := hp.1; omega
      simp only [Sem.run_bind, run_eqGuard_ints, Result.andThen_ok]
      simp [binOp, Op.shift, hb, SA.conc, SC.conc]
    · rename_i a b _
      simp only [Option.some.injEq, Prod.mk.injEq] at h
      obtain ⟨rfl, rfl⟩ := h
      refine ⟨?_, trivial⟩
      have hm : IntKind.i64.max = 9223372036854775807 := by decide
      have hb : ¬ ((a.size + b.size : Nat) : Int) > IntKind.i64.max := by have := hp.1; rw [hm]; omega
      have hq : (eqGuard .add t xo yo (.string a) (.string b)).run P w = .ok () w := by simp [eqGuard]
      simp only [Sem.run_bind, hq, Result.andThen_ok]
      simp only [binOp, Op.stringOp, if_neg hb, Sem.run_pure, SA.conc, SC.conc]
    · simp only [Option.map_eq_some_iff, Prod.mk.injEq] at h
      obtain ⟨r, hr, rfl, rfl⟩ := h
      exact ⟨by rw [evalS_sound w hr, ofV_conc], ofV_bnd _ _ _⟩

def semUn (P : Program) (op : UnOp) (x : SA) : VR :=
  match asV x with
  | some v => (evalS P (Op.unary op v)).map fun r => ([], ofV (isLit x) r)
  | none => none
theorem semUn_sound {P : Program} {op : UnOp} {x z : SA} {ps : List Prop} (h : semUn P op x = some (ps, z)) (ρ : Nat → Nat) (n : Nat → Prop) (w : World) :
    (Op.unary op (x.conc ρ)).run P w = .ok (z.conc ρ) w ∧ z.bnd n := by
  unfold semUn at h
  split at h
  · rename_i v hv
    simp only [Option.map_eq_some_iff, Prod.mk.injEq] at h
    obtain ⟨r, hr, rfl, rfl⟩ := h
    exact ⟨by rw [asV_sound hv, evalS_sound w hr, ofV_conc], ofV_bnd _ _ _⟩
  · cases h

def semConv (P : Program) (src dst : TypeId) (x : SA) : VR :=
  match asV x with
  | some v => (evalS P (convert src dst v)).map fun r => ([], ofV (isLit x) r)
  | none => none
theorem semConv_sound {P : Program} {src dst : TypeId} {x z : SA} {ps : List Prop} (h : semConv P src dst x = some (ps, z)) (ρ : Nat → Nat) (n : Nat → Prop) (w : World) :
    (convert src dst (x.conc ρ)).run P w = .ok (z.conc ρ) w ∧ z.bnd n := by
  unfold semConv at h
  split at h
  · rename_i v hv
    simp only [Option.map_eq_some_iff, Prod.mk.injEq] at h
    obtain ⟨r, hr, rfl, rfl⟩ := h
    exact ⟨by rw [asV_sound hv, evalS_sound w hr, ofV_conc], ofV_bnd _ _ _⟩
  · cases h

/-- A type's part of a row of cells. -/
def piece (P : Program) (t : TypeId) (ks : List SK) (off : Nat) : Option SA :=
  match P.underlying t with
  | some (.struct _) | some (.array _ _) => (sub ks off (P.cellsOf t)).map .agg
  | some _ =>
    match sub ks off 1 with
    | some [.c s] => some (.sc s)
    | some [.f k 1 g] => some (.sc (.val (.int k (g 0))))
    | _ => none
  | none => none
theorem piece_bnd {P : Program} {t : TypeId} {ks : List SK} {off : Nat} {n : Nat → Prop} {z : SA} (h : piece P t ks off = some z) (hb : ∀ k ∈ ks, k.bnd n) : z.bnd n := by
  rw [bnd_flat] at hb
  unfold piece at h
  split at h
  · obtain ⟨r, hr, rfl⟩ := Option.map_eq_some_iff.1 h; exact bnd_flat.2 (mem_sub hr hb)
  · obtain ⟨r, hr, rfl⟩ := Option.map_eq_some_iff.1 h; exact bnd_flat.2 (mem_sub hr hb)
  · split at h
    · rename_i s hs
      simp only [Option.some.injEq] at h; subst h
      exact mem_sub hs hb s (by simp [flat, SK.cells])
    · simp only [Option.some.injEq] at h; subst h; trivial
    · cases h
  · cases h
theorem info_of_underlying' {P : Program} {t : TypeId} {u : TypeDesc} (h : P.underlying t = some u) (w : World) : (sizeOf t).run P w = .ok (P.cellsOf t) w := by
  obtain ⟨i, hi⟩ := info_of_underlying h
  exact run_sizeOf w hi
theorem concs_sub {ks r : List SK} {off n : Nat} (h : sub ks off n = some r) (ρ : Nat → Nat) : off + n ≤ (concs ρ ks).length ∧ concs ρ r = ((concs ρ ks).drop off).take n := by
  obtain ⟨h1, h2⟩ := sub_flat h
  refine ⟨by simpa [concs] using h1, ?_⟩
  simp only [concs, h2, List.map_take, List.map_drop]
theorem piece_sound {P : Program} {t : TypeId} {ks : List SK} {off : Nat} {z : SA} (h : piece P t ks off = some z) (ρ : Nat → Nat) (w : World) :
    (part t (concs ρ ks).toArray off).run P w = .ok (z.conc ρ) w := by
  unfold piece at h
  have agg : ∀ u, P.underlying t = some u → isAggD u = true → (sub ks off (P.cellsOf t)).map SA.agg = some z →
      (part t (concs ρ ks).toArray off).run P w = .ok (z.conc ρ) w := by
    intro u hu hm h
    obtain ⟨r, hr, rfl⟩ := Option.map_eq_some_iff.1 h
    obtain ⟨h1, h2⟩ := concs_sub hr ρ
    simp only [part, Sem.run_bind, run_isAgg w t hu, hm, Result.andThen_ok, if_true, info_of_underlying' hu w, Sem.run_pure, SA.conc, h2]
    simp [List.take_drop]
  split at h
  · rename_i fs hu; exact agg _ hu rfl h
  · rename_i n e hu; exact agg _ hu rfl h
  · rename_i u hn1 hn2 hu
    split at h
    · rename_i s hs
      simp only [Option.some.injEq] at h; subst h
      obtain ⟨h1, h2⟩ := concs_sub hs ρ
      have hx : (concs ρ ks)[off]? = some (s.conc ρ) := by
        have : (concs ρ [SK.c s])[0]? = some (s.conc ρ) := rfl
        rw [h2] at this
        simpa using this
      have hm : isAggD u = false := by
        cases u <;> first | rfl | exact (hn1 _ rfl).elim | exact (hn2 _ _ rfl).elim
      simp only [part, Sem.run_bind, run_isAgg w t hu, hm, Result.andThen_ok, Bool.false_eq_true, if_false]
      simp [hx, SA.conc]
    · rename_i k g hs
      simp only [Option.some.injEq] at h; subst h
      obtain ⟨h1, h2⟩ := concs_sub hs ρ
      have hx : (concs ρ ks)[off]? = some (.int k (g 0)) := by
        have : (concs ρ [SK.f k 1 g])[0]? = some (.int k (g 0)) := rfl
        rw [h2] at this
        simpa using this
      have hm : isAggD u = false := by
        cases u <;> first | rfl | exact (hn1 _ rfl).elim | exact (hn2 _ _ rfl).elim
      simp only [part, Sem.run_bind, run_isAgg w t hu, hm, Result.andThen_ok, Bool.false_eq_true, if_false]
      simp [hx, SA.conc, SC.conc]
    · cases h
  · cases h

/-! ## One of a row of whole numbers -/

def kindOf : SK → Option IntKind
  | .c s => (asI (.sc s)).map (·.1)
  | .u _ => some .u64
  | .f k _ _ => some k
def kindAll (k : IntKind) : List SK → Bool
  | [] => true
  | x :: r => (kindOf x == some k) && kindAll k r
def intsC (s : SC) : Int := match asI (.sc s) with
  | some (_, n) => n
  | none => 0
def intsL : List SK → List Int
  | [] => []
  | .c s :: r => intsC s :: intsL r
  | .u n :: r => limb n 0 :: limb n 1 :: limb n 2 :: limb n 3 :: intsL r
  | .f _ n g :: r => (List.range n).map g ++ intsL r
theorem ints_conc (ρ : Nat → Nat) (k : IntKind) : ∀ {ks : List SK}, kindAll k ks = true → concs ρ ks = (intsL ks).map (Value.int k)
  | [], _ => rfl
  | x :: r, h => by
    simp only [kindAll, Bool.and_eq_true, beq_iff_eq] at h
    obtain ⟨h1, h2⟩ := h
    have ih := ints_conc ρ k h2
    simp only [concs] at ih
    cases x with
    | c s =>
      simp only [kindOf, Option.map_eq_some_iff] at h1
      obtain ⟨⟨k', n⟩, ha, rfl⟩ := h1
      have := asI_sound ha ρ
      simp only [SA.conc] at this
      simp [concs, flat, SK.cells, intsL, intsC, ha, this, ih]
    | u n =>
      simp only [kindOf, Option.some.injEq] at h1
      subst h1
      simp [concs, flat, SK.cells, intsL, SC.conc, ih]
    | f k' n g =>
      simp only [kindOf, Option.some.injEq] at h1
      subst h1
      simp [concs, flat, SK.cells, intsL, ih, Function.comp_def, SC.conc]
/-- All cells the same literal. -/
def sameLit : List SK → Option Int
  | [] => none
  | [.c (.num _ n)] => some n
  | .c (.num _ n) :: r => match sameLit r with
    | some m => if n = m then some n else none
    | none => none
  | _ => none
theorem sameLit_ints : ∀ {ks : List SK} {n : Int}, sameLit ks = some n → ∀ j, j < (intsL ks).length → (intsL ks).getD j 0 = n
  | [], n, h => by simp [sameLit] at h
  | [.c (.num k m)], n, h => by
    simp only [sameLit, Option.some.injEq] at h
    subst h
    intro j hj
    simp only [intsL, List.length_singleton] at hj
    have : j = 0 := by omega
    subst this
    rfl
  | .c (.num k m) :: y :: r, n, h => by
    simp only [sameLit] at h
    split at h
    · rename_i m' hm
      split at h
      · rename_i e
        subst e
        simp only [Option.some.injEq] at h
        subst h
        intro j hj
        cases j with
        | zero => rfl
        | succ j =>
          have := sameLit_ints hm j (by simp only [intsL, List.length_cons] at hj ⊢; omega)
          simpa [intsL] using this
      · cases h
    · cases h
  | .c (.bit _) :: r, n, h | .c (.val _) :: r, n, h | .c (.ptr _ _) :: r, n, h | .c (.pti ..) :: r, n, h | .c (.sl ..) :: r, n, h | .c (.sls ..) :: r, n, h | .c (.fn ..) :: r, n, h | .u _ :: r, n, h | .f .. :: r, n, h => by
    simp [sameLit] at h
def selG (ks : List SK) : Nat → Int :=
  match ks with
  | [.u n] => fun j => limb n j
  | [.f _ _ g] => g
  | ks => match sameLit ks with
    | some n => fun _ => n
    | none => fun j => (intsL ks).getD j 0
theorem selG_eq {ks : List SK} {j : Nat} (h : j < (intsL ks).length) : selG ks j = (intsL ks).getD j 0 := by
  unfold selG
  split
  · rename_i n
    simp only [intsL, List.length_cons, List.length_nil] at h
    match j, h with
    | 0, _ | 1, _ | 2, _ | 3, _ => rfl
  · rename_i k m g
    simp only [intsL, List.append_nil, List.length_map, List.length_range] at h
    simp [intsL, h]
  · cases hn : sameLit ks with
    | some n => exact (sameLit_ints hn j h).symm
    | none => rfl
theorem intsL_length (ks : List SK) (ρ : Nat → Nat) (k : IntKind) (h : kindAll k ks = true) : (intsL ks).length = (flat ks).length := by
  have := congrArg List.length (ints_conc ρ k h)
  simpa [concs] using this.symm
theorem selG_conc {ks : List SK} {k : IntKind} (h : kindAll k ks = true) (ρ : Nat → Nat) {j : Nat} (hj : j < (flat ks).length) : (concs ρ ks)[j]? = some (.int k (selG ks j)) := by
  have hl := intsL_length ks ρ k h
  have hj' : j < (intsL ks).length := by omega
  rw [ints_conc ρ k h, selG_eq hj', List.getElem?_map, List.getD_eq_getElem?_getD, List.getElem?_eq_getElem hj']
  rfl
def kindHead : List SK → Option IntKind
  | [] => none
  | x :: _ => kindOf x
/-- One of some cells, by a number that is told. -/
def semSel (ks : List SK) (base len : Nat) (i : Int) : VR :=
  match sub ks base len with
  | some cs => match kindHead cs with
    | some k => if kindAll k cs then some ([0 ≤ i ∧ i < (len : Int)], .sc (.val (.int k (selG cs i.toNat)))) else none
    | none => none
  | none => none
theorem semSel_sound {ks : List SK} {base len : Nat} {i : Int} {ps : List Prop} {z : SA} (h : semSel ks base len i = some (ps, z)) (hp : Ok ps) (ρ : Nat → Nat) :
    0 ≤ i ∧ i < len ∧ base + len ≤ (concs ρ ks).length ∧ (∃ k n, z = .sc (.val (.int k n))) ∧ (concs ρ ks)[base + i.toNat]? = some (z.conc ρ) := by
  unfold semSel at h
  split at h
  case h_2 => cases h
  rename_i cs hs
  split at h
  case h_2 => cases h
  rename_i k hk
  split at h
  case isFalse => cases h
  rename_i ha
  simp only [Option.some.injEq, Prod.mk.injEq] at h
  obtain ⟨rfl, rfl⟩ := h
  obtain ⟨⟨h0, h1⟩, _⟩ := hp
  obtain ⟨l1, l2⟩ := concs_sub hs ρ
  have hlen : (flat cs).length = len := by
    obtain ⟨a, b⟩ := sub_flat hs
    rw [b]; simp; omega
  have := selG_conc ha ρ (j := i.toNat) (by omega)
  rw [l2, List.getElem?_take, if_pos (by omega), List.getElem?_drop] at this
  exact ⟨h0, h1, l1, ⟨_, _, rfl⟩, this⟩

def isIntT (P : Program) (e : TypeId) : Bool :=
  match P.underlying e with
  | some (.int _) => true
  | _ => false
theorem isIntT_spec {P : Program} {e : TypeId} (h : isIntT P e = true) : ∃ u, P.underlying e = some u ∧ isAggD u = false := by
  unfold isIntT at h
  split at h
  · rename_i k hk; exact ⟨_, hk, rfl⟩
  · cases h
def semIndex (P : Program) (t : TypeId) (x i : SA) : VR :=
  match x, i with
  | .agg ks, .sc (.num _ n) =>
    match P.underlying t with
    | some (.array len e) => if 0 ≤ n ∧ n < len then (piece P e ks (n.toNat * P.cellsOf e)).map fun r => ([], r) else none
    | _ => none
  | .agg ks, .sc (.val (.int _ n)) =>
    match P.underlying t with
    | some (.array len e) => if P.cellsOf e = 1 ∧ isIntT P e = true then semSel ks 0 len n else none
    | _ => none
  | .sc (.val (.string s)), i =>
    match P.underlying t, asI i with
    | some .string, some (_, n) => some ([0 ≤ n ∧ n.toNat < s.size], .sc (.val (.int .u8 (s.data.getD n.toNat 0).toNat)))
    | _, _ => none
  | _, _ => none
theorem piece_info {P : Program} {t : TypeId} {ks : List SK} {off : Nat} {z : SA} (h : piece P t ks off = some z) : ∃ u, P.underlying t = some u := by
  unfold piece at h
  split at h
  · exact ⟨_, by assumption⟩
  · exact ⟨_, by assumption⟩
  · exact ⟨_, by assumption⟩
  · cases h
theorem semIndex_sound {P : Program} {t : TypeId} {x i z : SA} {ps : List Prop} (h : semIndex P t x i = some (ps, z)) (hp : Ok ps) (ρ : Nat → Nat) (n : Nat → Prop) (hb : x.bnd n) (w : World) :
    (Instr.index t (x.conc ρ) (i.conc ρ)).run P w = .ok (z.conc ρ) w ∧ z.bnd n := by
  unfold semIndex at h
  split at h
  · rename_i ks k m
    split at h
    · rename_i len e hu
      split at h
      · rename_i hm
        simp only [Option.map_eq_some_iff, Prod.mk.injEq] at h
        obtain ⟨r, hr, rfl, rfl⟩ := h
        refine ⟨?_, piece_bnd hr hb⟩
        obtain ⟨u, hue⟩ := piece_info hr
        simp only [Instr.index, SA.conc, SC.conc, asIntOf, Sem.run_bind, Sem.run_pure, Result.andThen_ok, run_underlying hu, Sem.run_ite, hm, and_self, if_true, info_of_underlying' hue w]
        exact piece_sound hr ρ w
      · cases h
    · cases h
  · rename_i ks k m
    split at h
    · rename_i len e hu
      split at h
      · rename_i hm
        obtain ⟨he, hk⟩ := hm
        obtain ⟨h0, h1, hl, ⟨k', n', rfl⟩, hc⟩ := semSel_sound h hp ρ
        refine ⟨?_, trivial⟩
        obtain ⟨u, hue, hagg⟩ := isIntT_spec hk
        rw [Nat.zero_add] at hc
        simp only [Instr.index, SA.conc, SC.conc, asIntOf, Sem.run_bind, Sem.run_pure, Result.andThen_ok, run_underlying hu, Sem.run_ite, h0, h1, and_self, if_true, info_of_underlying' hue w, he, Nat.mul_one]
        simp only [part, Sem.run_bind, run_isAgg w e hue, hagg, Result.andThen_ok, Bool.false_eq_true, if_false]
        simp [hc, SA.conc, SC.conc]
      · cases h
    · cases h
  · rename_i s
    split at h
    · rename_i k m hu hi
      simp only [Option.some.injEq, Prod.mk.injEq] at h
      obtain ⟨rfl, rfl⟩ := h
      refine ⟨?_, trivial⟩
      obtain ⟨⟨h0, h1⟩, _⟩ := hp
      have hs : s[m.toNat]? = some (s.data.getD m.toNat 0) := by
        have h2 : m.toNat < s.data.size := h1
        rw [getElem?_pos s m.toNat h1, Array.getD_eq_getD_getElem?, Array.getElem?_eq_getElem h2]
        rfl
      rw [asI_sound hi]
      simp only [Instr.index, SA.conc, SC.conc, asIntOf, Sem.run_bind, Sem.run_pure, Result.andThen_ok, run_underlying hu, h0, if_true, hs]
    · cases h
  · cases h

def semField (P : Program) (t : TypeId) (f : Nat) (x : SA) : VR :=
  match x, P.underlying t with
  | .agg ks, some (.struct fs) =>
    match fs[f]? with
    | some fd => (piece P fd.type ks fd.offset).map fun r => ([], r)
    | none => none
  | _, _ => none
theorem semField_sound {P : Program} {t : TypeId} {f : Nat} {x z : SA} {ps : List Prop} (h : semField P t f x = some (ps, z)) (ρ : Nat → Nat) (n : Nat → Prop) (hb : x.bnd n) (w : World) :
    (Instr.field t (x.conc ρ) f).run P w = .ok (z.conc ρ) w ∧ z.bnd n := by
  unfold semField at h
  split at h
  · rename_i ks fs hu
    split at h
    · rename_i fd hf
      simp only [Option.map_eq_some_iff, Prod.mk.injEq] at h
      obtain ⟨r, hr, rfl, rfl⟩ := h
      refine ⟨?_, piece_bnd hr hb⟩
      simp only [Instr.field, SA.conc, Sem.run_bind, run_underlying hu, Result.andThen_ok, hf, asAgg, Sem.run_pure]
      exact piece_sound hr ρ w
    · cases h
  · cases h

theorem add_addr (b off n : Nat) : (⟨b, off, none⟩ : Addr).add n = ⟨b, off + n, none⟩ := by
  unfold Addr.add; split <;> simp_all
def semIdxAddr (P : Program) (t : TypeId) (x i : SA) : VR :=
  match x, i, P.underlying t with
  | .sc (.ptr o off), .sc (.num _ n), some (.array len e) => if (0 ≤ n ∧ n < len) ∧ (P.info? e).isSome then some ([], .sc (.ptr o (off + n.toNat * P.cellsOf e))) else none
  | .sc (.ptr o off), .sc (.val (.int _ n)), some (.array len e) => if P.cellsOf e = 1 then some ([0 ≤ n ∧ n < (len : Int)], .sc (.pti o off len n)) else none
  | .sc (.sl o off len _), .sc (.num _ n), some (.slice e) => if (0 ≤ n ∧ n < len) ∧ (P.info? e).isSome then some ([], .sc (.ptr o (off + n.toNat * P.cellsOf e))) else none
  | .sc (.sl o off len _), .sc (.val (.int _ n)), some (.slice e) => if P.cellsOf e = 1 then some ([0 ≤ n ∧ n < (len : Int)], .sc (.pti o off len n)) else none
  | _, _, _ => none
theorem info_of_cells {P : Program} {e : TypeId} {n : Nat} (h : P.cellsOf e = n + 1) : ∃ i, P.info? e = some i := by
  unfold Program.cellsOf at h
  cases hi : P.info? e with
  | none => simp [hi] at h
  | some i => exact ⟨i, rfl⟩
theorem semIdxAddr_sound {P : Program} {t : TypeId} {x i z : SA} {ps : List Prop} (h : semIdxAddr P t x i = some (ps, z)) (hp : Ok ps) (ρ : Nat → Nat) (n : Nat → Prop) (hb : x.bnd n) (w : World) :
    (Instr.indexAt t (x.conc ρ) (i.conc ρ)).run P w = .ok (z.conc ρ) w ∧ z.bnd n := by
  unfold semIdxAddr at h
  split at h
  · rename_i o off k m len e hu
    split at h
    · rename_i hm
      obtain ⟨hm, hi⟩ := hm
      obtain ⟨i, hi⟩ := Option.isSome_iff_exists.1 hi
      simp only [Option.some.injEq, Prod.mk.injEq] at h
      obtain ⟨rfl, rfl⟩ := h
      refine ⟨?_, hb⟩
      simp only [Instr.indexAt, SA.conc, SC.conc, asIntOf, Sem.run_bind, Sem.run_pure, Result.andThen_ok, run_underlying hu, Instr.sureAddr, Sem.run_ite, hm, and_self, if_true, run_sizeOf w hi, add_addr]
    · cases h
  · rename_i o off k m len e hu
    split at h
    · rename_i he
      simp only [Option.some.injEq, Prod.mk.injEq] at h
      obtain ⟨rfl, rfl⟩ := h
      obtain ⟨hm, _⟩ := hp
      obtain ⟨i, hi⟩ := info_of_cells he
      refine ⟨?_, hb⟩
      simp only [Instr.indexAt, SA.conc, SC.conc, asIntOf, Sem.run_bind, Sem.run_pure, Result.andThen_ok, run_underlying hu, Instr.sureAddr, Sem.run_ite, hm, and_self, if_true, run_sizeOf w hi, add_addr, he, Nat.mul_one]
    · cases h
  · rename_i o off len cap k m e hu
    split at h
    · rename_i hm
      obtain ⟨hm, hi⟩ := hm
      obtain ⟨i, hi⟩ := Option.isSome_iff_exists.1 hi
      simp only [Option.some.injEq, Prod.mk.injEq] at h
      obtain ⟨rfl, rfl⟩ := h
      refine ⟨?_, hb⟩
      simp only [Instr.indexAt, SA.conc, SC.conc, asIntOf, Sem.run_bind, Sem.run_pure, Result.andThen_ok, run_underlying hu, Instr.sureAddr, Sem.run_ite, hm, and_self, if_true, run_sizeOf w hi, add_addr]
    · cases h
  · rename_i o off len cap k m e hu
    split at h
    · rename_i he
      simp only [Option.some.injEq, Prod.mk.injEq] at h
      obtain ⟨rfl, rfl⟩ := h
      obtain ⟨hm, _⟩ := hp
      obtain ⟨i, hi⟩ := info_of_cells he
      refine ⟨?_, hb⟩
      simp only [Instr.indexAt, SA.conc, SC.conc, asIntOf, Sem.run_bind, Sem.run_pure, Result.andThen_ok, run_underlying hu, Instr.sureAddr, Sem.run_ite, hm, and_self, if_true, run_sizeOf w hi, add_addr, he, Nat.mul_one]
    · cases h
  · cases h

def semFldAddr (P : Program) (t : TypeId) (f : Nat) (x : SA) : VR :=
  match x, P.underlying t with
  | .sc (.ptr o off), some (.struct fs) =>
    match fs[f]? with
    | some fd => if P.cellsOf fd.type ≠ 0 then some ([], .sc (.ptr o (off + fd.offset))) else none
    | none => none
  | _, _ => none
theorem semFldAddr_sound {P : Program} {t : TypeId} {f : Nat} {x z : SA} {ps : List Prop} (h : semFldAddr P t f x = some (ps, z)) (ρ : Nat → Nat) (n : Nat → Prop) (hb : x.bnd n) (w : World) :
    (Instr.fieldAt t (x.conc ρ) f).run P w = .ok (z.conc ρ) w ∧ z.bnd n := by
  unfold semFldAddr at h
  split at h
  · rename_i o off fs hu
    split at h
    · rename_i fd hf
      split at h
      · rename_i hs
        have hi : ∃ i, P.info? fd.type = some i := by
          unfold Program.cellsOf at hs
          cases hi : P.info? fd.type with
          | none => simp [hi] at hs
          | some i => exact ⟨i, rfl⟩
        obtain ⟨i, hi⟩ := hi
        simp only [Option.some.injEq, Prod.mk.injEq] at h
        obtain ⟨rfl, rfl⟩ := h
        refine ⟨?_, hb⟩
        simp only [Instr.fieldAt, SA.conc, SC.conc, Sem.run_bind, Sem.run_pure, Result.andThen_ok, run_underlying hu, hf, Instr.sureAddr, fieldPlace, run_sizeOf w hi, Sem.run_ite, hs, if_false, add_addr]
      · cases h
    · cases h
  · cases h

end Go.Sx
