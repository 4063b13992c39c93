/-
  Texts: Sx1, Sx2, Sx3, Sx4, Sx5, Sx6.
-/
import Derived.WalkKit
import Derived.ChangeKeysEq
import Derived.Laws.CopyOwn
section
/-
  A calculus of symbolic states for walks over translated Go code, part 1: what a symbolic value and a symbolic state stand for.
-/
namespace Go.Sx
open Go.RowKit

/-- What 2^256 is. -/
def M256 : Nat := 2 ^ 256
/-- Part i of a number, of 64 bits. -/
def limb (n i : Nat) : Int := ((n / 2 ^ (64 * i) % 2 ^ 64 : Nat) : Int)
/-- A number of 256 bits as the model holds it. -/
def U (n : Nat) : Value := .agg #[.int .u64 (limb n 0), .int .u64 (limb n 1), .int .u64 (limb n 2), .int .u64 (limb n 3)]

/-- What a function value has caught: a value, or an address in memory of the call's own. -/
inductive PV where
  | v (v : Value)
  | p (o off : Nat)

/-- One cell: a literal, a value of no known shape, an address in memory of the call's own; there, too: one of a row of cells, by a number; a slice, one with ends that numbers tell; a function value. -/
inductive SC where
  | num (k : IntKind) (n : Int)
  | bit (b : Bool)
  | val (v : Value)
  | ptr (o off : Nat)
  | pti (o base len : Nat) (i : Int)
  | sl (o off len cap : Nat)
  | sls (o base lo hi cap : Nat)
  | fn (f : Nat) (caps : List PV)

/-- Some cells in a row: one, the four of a number, some that a function tells. -/
inductive SK where
  | c (s : SC)
  | u (n : Nat)
  | f (k : IntKind) (n : Nat) (g : Nat → Int)

/-- A value that is one cell or a row of them. -/
inductive SA where
  | sc (c : SC)
  | agg (ks : List SK)

/-- What a slot holds. -/
inductive SV where
  | any
  | one (x : SA)
  | tup (xs : List SA)
  | gd (g : Bool) (x : SA)

/-- A block of memory of the call's own. -/
inductive SO where
  | cells (e : TypeId) (ks : List SK) (sp : Nat)
  | gone
  | dead

def SK.cells : SK → List SC
  | .c s => [s]
  | .u n => [.val (.int .u64 (limb n 0)), .val (.int .u64 (limb n 1)), .val (.int .u64 (limb n 2)), .val (.int .u64 (limb n 3))]
  | .f k n g => (List.range n).map fun j => .val (.int k (g j))

def flat : List SK → List SC
  | [] => []
  | k :: r => k.cells ++ flat r

def PV.conc (ρ : Nat → Nat) : PV → Value
  | .v x => x
  | .p o off => .pointer (some ⟨ρ o, off, none⟩)
def SC.conc (ρ : Nat → Nat) : SC → Value
  | .num k n => .int k n
  | .bit b => .bool b
  | .val v => v
  | .ptr o off => .pointer (some ⟨ρ o, off, none⟩)
  | .pti o base _ i => .pointer (some ⟨ρ o, base + i.toNat, none⟩)
  | .sl o off len cap => .slice (some ⟨ρ o, off, none⟩) len cap
  | .sls o base lo hi cap => .slice (some ⟨ρ o, base + lo, none⟩) (hi - lo) cap
  | .fn f caps => .func (.func f) #[] (caps.map (PV.conc ρ)).toArray

def concs (ρ : Nat → Nat) (ks : List SK) : List Value := (flat ks).map (SC.conc ρ)

def SA.conc (ρ : Nat → Nat) : SA → Value
  | .sc c => c.conc ρ
  | .agg ks => .agg (concs ρ ks).toArray

def SV.rep (ρ : Nat → Nat) : SV → Value → Prop
  | .any, _ => True
  | .one x, v => v = x.conc ρ
  | .tup xs, v => v = .tuple (xs.map (SA.conc ρ)).toArray
  | .gd g x, v => v = if g then x.conc ρ else undef

def PV.bnd (n : Nat → Prop) : PV → Prop
  | .v _ => True
  | .p o _ => n o
def SC.bnd (n : Nat → Prop) : SC → Prop
  | .ptr o _ | .pti o _ _ _ | .sl o _ _ _ | .sls o _ _ _ _ => n o
  | .fn _ caps => ∀ c ∈ caps, c.bnd n
  | .num _ _ | .bit _ | .val _ => True
def SK.bnd (n : Nat → Prop) : SK → Prop
  | .c s => s.bnd n
  | .u _ | .f _ _ _ => True
def SA.bnd (n : Nat → Prop) : SA → Prop
  | .sc c => c.bnd n
  | .agg ks => ∀ k ∈ ks, k.bnd n
def SV.bnd (n : Nat → Prop) : SV → Prop
  | .any => True
  | .one x => x.bnd n
  | .tup xs => ∀ x ∈ xs, x.bnd n
  | .gd g x => g = true → x.bnd n

/-- May it lie in a cell? -/
def oneCell : Value → Bool
  | .agg _ | .tuple _ => false
  | _ => true
def SC.fit : SC → Bool
  | .val v => oneCell v
  | _ => true
def SK.fit : SK → Bool
  | .c s => s.fit
  | .u _ | .f _ _ _ => true

theorem PV.bnd_mono {n m : Nat → Prop} (h : ∀ i, n i → m i) : ∀ {c : PV}, c.bnd n → c.bnd m
  | .v _, _ => trivial
  | .p o _, k => h o k
theorem SC.bnd_mono {n m : Nat → Prop} (h : ∀ i, n i → m i) : ∀ {c : SC}, c.bnd n → c.bnd m
  | .ptr o _, k | .pti o _ _ _, k | .sl o _ _ _, k | .sls o _ _ _ _, k => h o k
  | .fn _ _, k => fun c hc => PV.bnd_mono h (k c hc)
  | .num _ _, _ | .bit _, _ | .val _, _ => trivial
theorem SK.bnd_mono {n m : Nat → Prop} (h : ∀ i, n i → m i) : ∀ {c : SK}, c.bnd n → c.bnd m
  | .c _, k => SC.bnd_mono h k
  | .u _, _ | .f _ _ _, _ => trivial
theorem SA.bnd_mono {n m : Nat → Prop} (h : ∀ i, n i → m i) : ∀ {c : SA}, c.bnd n → c.bnd m
  | .sc _, k => SC.bnd_mono h k
  | .agg _, k => fun x hx => SK.bnd_mono h (k x hx)
theorem SV.bnd_mono {n m : Nat → Prop} (h : ∀ i, n i → m i) : ∀ {c : SV}, c.bnd n → c.bnd m
  | .any, _ => trivial
  | .one _, k => SA.bnd_mono h k
  | .tup _, k => fun x hx => SA.bnd_mono h (k x hx)
  | .gd _ _, k => fun hg => SA.bnd_mono h (k hg)

theorem cells_bnd {n : Nat → Prop} {k : SK} (h : k.bnd n) : ∀ c ∈ k.cells, c.bnd n := by
  cases k with
  | c s => simp only [SK.cells, List.mem_singleton]; rintro _ rfl; exact h
  | u m => simp only [SK.cells, List.mem_cons, List.not_mem_nil, or_false]; rintro _ (rfl | rfl | rfl | rfl) <;> trivial
  | f k m g => simp only [SK.cells, List.mem_map]; rintro _ ⟨j, _, rfl⟩; trivial
theorem flat_bnd {n : Nat → Prop} : ∀ {ks : List SK}, (∀ k ∈ ks, k.bnd n) → ∀ c ∈ flat ks, c.bnd n
  | [], _ => by simp [flat]
  | k :: r, h => by
    intro c hc
    simp only [flat, List.mem_append] at hc
    rcases hc with hc | hc
    · exact cells_bnd (h k (by simp)) c hc
    · exact flat_bnd (fun x hx => h x (by simp [hx])) c hc
theorem cells_fit {k : SK} (h : k.fit = true) : ∀ c ∈ k.cells, c.fit = true := by
  cases k with
  | c s => simp only [SK.cells, List.mem_singleton]; rintro _ rfl; exact h
  | u m => simp only [SK.cells, List.mem_cons, List.not_mem_nil, or_false]; rintro _ (rfl | rfl | rfl | rfl) <;> rfl
  | f k m g => simp only [SK.cells, List.mem_map]; rintro _ ⟨j, _, rfl⟩; rfl
theorem flat_fit : ∀ {ks : List SK}, (∀ k ∈ ks, k.fit = true) → ∀ c ∈ flat ks, c.fit = true
  | [], _ => by simp [flat]
  | k :: r, h => by
    intro c hc
    simp only [flat, List.mem_append] at hc
    rcases hc with hc | hc
    · exact cells_fit (h k (by simp)) c hc
    · exact flat_fit (fun x hx => h x (by simp [hx])) c hc

/-- Two ways of laying blocks that say the same of the first n. -/
def Agree (n : Nat → Prop) (ρ ρ' : Nat → Nat) : Prop := ∀ i, n i → ρ' i = ρ i
theorem Agree.refl (n : Nat → Prop) (ρ : Nat → Nat) : Agree n ρ ρ := fun _ _ => rfl
theorem Agree.pv {n : Nat → Prop} {ρ ρ' : Nat → Nat} (h : Agree n ρ ρ') : ∀ {c : PV}, c.bnd n → c.conc ρ' = c.conc ρ
  | .v _, _ => rfl
  | .p o _, k => by simp only [PV.conc, h o k]
theorem Agree.sc {n : Nat → Prop} {ρ ρ' : Nat → Nat} (h : Agree n ρ ρ') : ∀ {c : SC}, c.bnd n → c.conc ρ' = c.conc ρ
  | .ptr o _, k | .pti o _ _ _, k | .sl o _ _ _, k | .sls o _ _ _ _, k => by simp only [SC.conc, h o k]
  | .fn f caps, k => by
    simp only [SC.conc]
    rw [List.map_congr_left fun c hc => h.pv (k c hc)]
  | .num _ _, _ | .bit _, _ | .val _, _ => rfl
theorem Agree.scs {n : Nat → Prop} {ρ ρ' : Nat → Nat} (h : Agree n ρ ρ') {l : List SC} (hl : ∀ c ∈ l, c.bnd n) : l.map (SC.conc ρ') = l.map (SC.conc ρ) :=
  List.map_congr_left fun c hc => h.sc (hl c hc)
theorem Agree.sks {n : Nat → Prop} {ρ ρ' : Nat → Nat} (h : Agree n ρ ρ') {l : List SK} (hl : ∀ c ∈ l, c.bnd n) : concs ρ' l = concs ρ l := h.scs (flat_bnd hl)
theorem Agree.sa {n : Nat → Prop} {ρ ρ' : Nat → Nat} (h : Agree n ρ ρ') : ∀ {c : SA}, c.bnd n → c.conc ρ' = c.conc ρ
  | .sc _, k => h.sc k
  | .agg _, k => by simp only [SA.conc, h.sks k]
theorem Agree.sas {n : Nat → Prop} {ρ ρ' : Nat → Nat} (h : Agree n ρ ρ') {l : List SA} (hl : ∀ c ∈ l, c.bnd n) : l.map (SA.conc ρ') = l.map (SA.conc ρ) :=
  List.map_congr_left fun c hc => h.sa (hl c hc)
theorem Agree.sv {n : Nat → Prop} {ρ ρ' : Nat → Nat} (h : Agree n ρ ρ') : ∀ {c : SV} {v : Value}, c.bnd n → c.rep ρ v → c.rep ρ' v
  | .any, _, _, _ => trivial
  | .one _, _, k, r => by simp only [SV.rep, h.sa k]; exact r
  | .tup _, _, k, r => by simp only [SV.rep, h.sas k]; exact r
  | .gd g x, _, k, r => by
    simp only [SV.rep] at r ⊢
    rw [r]
    split
    · rename_i hg; rw [h.sa (c := x) (k hg)]
    · rfl

/-- Which blocks there are. -/
def live (ob : List SO) (i : Nat) : Prop := ∃ e ks sp, ob[i]? = some (.cells e ks sp)
def none0 (_ : Nat) : Prop := False
theorem none0_le {n : Nat → Prop} (i : Nat) (h : none0 i) : n i := h.elim

/-- The blocks of a symbolic state as they lie in a world. B: the heap's size when the call began. -/
structure Mem (B : Nat) (ρ : Nat → Nat) (ob : List SO) (w : World) : Prop where
  obj : ∀ i e ks sp, ob[i]? = some (.cells e ks sp) → B ≤ ρ i ∧ (∃ rest : List Value, rest.length = sp ∧ w.heap[ρ i]? = some (.cells (concs ρ ks ++ rest).toArray e (0, 0))) ∧ (∀ k ∈ ks, k.bnd (live ob)) ∧ (∀ k ∈ ks, k.fit = true)
  inj : ∀ i j e ks sp e' ks' sp', ob[i]? = some (.cells e ks sp) → ob[j]? = some (.cells e' ks' sp') → ρ i = ρ j → i = j

/-- Where a run began: the world, the blocks that were there already, and where they lay. -/
structure Base where
  w : World
  ob : List SO
  ρ : Nat → Nat
/-- What was there is there, or has died. -/
def Kept (Z : Base) (ρ : Nat → Nat) (ob : List SO) : Prop := (∀ i, live Z.ob i → (live ob i ∧ ρ i = Z.ρ i) ∨ ob[i]? = some .dead) ∧ (∀ i : Nat, Z.ob[i]? = some .dead → ob[i]? = some .dead) ∧ Z.ob.length ≤ ob.length

/-- What a symbolic state says of a frame's slots and a world. -/
structure Holds (W0 : Base) (ρ : Nat → Nat) (tm : List SV) (ob : List SO) (a : Act) (w : World) : Prop where
  size : a.tmps.size = tm.length
  rep : ∀ t : Nat, (tm.getD t .any).rep ρ (a.tmps.getD t undef)
  bnd : ∀ t : Nat, (tm.getD t .any).bnd (live ob)
  defers : a.defers = []
  below : Below W0.w.heap.size W0.w w
  mem : Mem W0.w.heap.size ρ ob w
  kept : Kept W0 ρ ob

def put (tm : List SV) (dst : Option Tmp) (v : SV) : List SV :=
  match dst with
  | some d => tm.set d v
  | none => tm

theorem length_put (tm : List SV) (dst : Option Tmp) (v : SV) : (put tm dst v).length = tm.length := by
  cases dst <;> simp [put]

theorem Holds.put {W0 : Base} {ρ : Nat → Nat} {tm : List SV} {ob : List SO} {a : Act} {w : World} (h : Holds W0 ρ tm ob a w) (dst : Option Tmp) {sv : SV} {v : Value}
    (hr : sv.rep ρ v) (hb : sv.bnd (live ob)) : Holds W0 ρ (put tm dst sv) ob (a.put dst v) w := by
  cases dst with
  | none => exact h
  | some d =>
    refine ⟨?_, fun t => ?_, fun t => ?_, h.defers, h.below, h.mem, h.kept⟩
    · simp [Sx.put, Act.put, h.size]
    · have h1 := h.rep t
      simp only [Sx.put, Act.put, List.getD_eq_getElem?_getD, List.getElem?_set, Array.getD_eq_getD_getElem?, Array.getElem?_setIfInBounds] at h1 ⊢
      by_cases e : d = t
      · subst e
        by_cases hd : d < tm.length
        · simp only [hd, h.size, if_true, Option.getD_some]; exact hr
        · simp only [hd, h.size, if_true, if_false, Option.getD_none]; exact trivial
      · simp only [e, if_false]; exact h1
    · have h1 := h.bnd t
      simp only [Sx.put, List.getD_eq_getElem?_getD, List.getElem?_set] at h1 ⊢
      by_cases e : d = t
      · subst e
        by_cases hd : d < tm.length
        · simp only [hd, if_true, Option.getD_some]; exact hb
        · simp only [hd, if_true, if_false, Option.getD_none]; exact trivial
      · simp only [e, if_false]; exact h1

/-- A state holds still where blocks have come to be, and nothing that was there has turned. -/
theorem Mem.grow {B : Nat} {ρ ρ' : Nat → Nat} {ob : List SO} {w w' : World} (h : Mem B ρ ob w) (hb : Below w.heap.size w w') (ha : Agree (live ob) ρ ρ') : Mem B ρ' ob w' := by
  refine ⟨fun i e ks sp hi => ?_, fun i j e ks sp e' ks' sp' hi hj hij => ?_⟩
  · obtain ⟨h1, ⟨rest, hr, h2⟩, h3, h4⟩ := h.obj i e ks sp hi
    rw [ha i ⟨_, _, _, hi⟩, ha.sks h3]
    refine ⟨h1, ⟨rest, hr, ?_⟩, h3, h4⟩
    rw [hb.block _ (by rcases Nat.lt_or_ge (ρ i) w.heap.size with k | k; exact k; rw [Array.getElem?_eq_none k] at h2; cases h2)]
    exact h2
  · rw [ha i ⟨_, _, _, hi⟩, ha j ⟨_, _, _, hj⟩] at hij
    exact h.inj i j e ks sp e' ks' sp' hi hj hij

end Go.Sx
end

section
/-
  A calculus of symbolic states for walks over translated Go code, part 2: operations that make a value and leave memory alone.
-/
namespace Go.Sx
open Go.RowKit

def Ok : List Prop → Prop
  | [] => True
  | p :: r => p ∧ Ok r
theorem Ok.append {l r : List Prop} : Ok (l ++ r) ↔ Ok l ∧ Ok r := by
  induction l with
  | nil => simp [Ok]
  | cons p l ih => simp [Ok, ih, and_assoc]

/-! ## Rows of cells -/

/-- Behind the first cells. -/
def seek : List SK → Nat → Option (List SK)
  | ks, 0 => some ks
  | [], _ + 1 => none
  | .c _ :: r, n + 1 => seek r n
  | .u m :: r, n + 1 => if 4 ≤ n + 1 then seek r (n - 3) else some (((SK.u m).cells.drop (n + 1)).map .c ++ r)
  | .f k m g :: r, n + 1 => if m ≤ n + 1 then seek r (n + 1 - m) else some (.f k (m - (n + 1)) (fun j => g (n + 1 + j)) :: r)
/-- The first cells. -/
def grab : List SK → Nat → Option (List SK)
  | _, 0 => some []
  | [], _ + 1 => none
  | .c s :: r, n + 1 => (grab r n).map (.c s :: ·)
  | .u m :: r, n + 1 => if 4 ≤ n + 1 then (grab r (n - 3)).map (.u m :: ·) else some (((SK.u m).cells.take (n + 1)).map .c)
  | .f k m g :: r, n + 1 => if m ≤ n + 1 then (grab r (n + 1 - m)).map (.f k m g :: ·) else some [.f k (n + 1) g]

theorem flat_map_c (l : List SC) : flat (l.map .c) = l := by
  induction l with
  | nil => rfl
  | cons c l ih => simp [flat, SK.cells, ih]
theorem flat_append (l r : List SK) : flat (l ++ r) = flat l ++ flat r := by
  induction l with
  | nil => rfl
  | cons c l ih => simp [flat, ih]
theorem cells_u_length (m : Nat) : (SK.u m).cells.length = 4 := rfl
theorem cells_f_length (k : IntKind) (m : Nat) (g : Nat → Int) : (SK.f k m g).cells.length = m := by simp [SK.cells]
theorem cells_f_drop (k : IntKind) (m n : Nat) (g : Nat → Int) : (SK.f k (m - n) (fun j => g (n + j))).cells = (SK.f k m g).cells.drop n := by
  simp only [SK.cells]
  apply List.ext_getElem?
  intro i
  simp only [List.getElem?_map, List.getElem?_drop]
  rcases Nat.lt_or_ge i (m - n) with h | h
  · rw [List.getElem?_range h, List.getElem?_range (by omega)]; rfl
  · rw [List.getElem?_eq_none (by simpa using h), List.getElem?_eq_none (by simp; omega)]; rfl
theorem cells_f_take (k : IntKind) (m n : Nat) (g : Nat → Int) (h : n ≤ m) : (SK.f k n g).cells = (SK.f k m g).cells.take n := by
  simp only [SK.cells, ← List.map_take, List.take_range, Nat.min_eq_left h]

theorem seek_flat : ∀ (ks : List SK) (n : Nat) {r : List SK}, seek ks n = some r → n ≤ (flat ks).length ∧ flat r = (flat ks).drop n
  | ks, 0, r, h => by simp only [seek, Option.some.injEq] at h; subst h; simp
  | [], n + 1, r, h => by simp [seek] at h
  | .c s :: t, n + 1, r, h => by
    simp only [seek] at h
    obtain ⟨h1, h2⟩ := seek_flat t n h
    simp only [flat, SK.cells, List.cons_append, List.nil_append, List.length_cons, List.drop_succ_cons]
    exact ⟨by omega, h2⟩
  | .u m :: t, n + 1, r, h => by
    simp only [seek] at h
    split at h
    · obtain ⟨h1, h2⟩ := seek_flat t (n - 3) h
      have e : n + 1 = (n - 3) + (SK.u m).cells.length := by rw [cells_u_length]; omega
      refine ⟨by simp only [flat, List.length_append, cells_u_length]; omega, ?_⟩
      rw [e, flat, h2, Nat.add_comm, List.drop_append, List.drop_of_length_le (Nat.le_add_right _ _), List.nil_append, Nat.add_sub_cancel_left]
    · simp only [Option.some.injEq] at h
      subst h
      refine ⟨by simp only [flat, List.length_append, cells_u_length]; omega, ?_⟩
      rw [flat_append, flat_map_c, flat, List.drop_append_of_le_length (by rw [cells_u_length]; omega)]
  | .f k m g :: t, n + 1, r, h => by
    simp only [seek] at h
    split at h
    · rename_i hm
      obtain ⟨h1, h2⟩ := seek_flat t (n + 1 - m) h
      refine ⟨by simp only [flat, List.length_append, cells_f_length]; omega, ?_⟩
      have e : (SK.f k m g).cells.drop (n + 1) = [] := List.drop_of_length_le (by rw [cells_f_length]; exact hm)
      rw [flat, h2, List.drop_append, e, List.nil_append, cells_f_length]
    · rename_i hm
      simp only [Option.some.injEq] at h
      subst h
      refine ⟨by simp only [flat, List.length_append, cells_f_length]; omega, ?_⟩
      rw [flat, flat, cells_f_drop, List.drop_append_of_le_length (by rw [cells_f_length]; omega)]
theorem grab_flat : ∀ (ks : List SK) (n : Nat) {r : List SK}, grab ks n = some r → n ≤ (flat ks).length ∧ flat r = (flat ks).take n
  | ks, 0, r, h => by simp only [grab, Option.some.injEq] at h; subst h; simp [flat]
  | [], n + 1, r, h => by simp [grab] at h
  | .c s :: t, n + 1, r, h => by
    simp only [grab, Option.map_eq_some_iff] at h
    obtain ⟨r', h, rfl⟩ := h
    obtain ⟨h1, h2⟩ := grab_flat t n h
    simp only [flat, SK.cells, List.cons_append, List.nil_append, List.length_cons, List.take_succ_cons, h2, and_true]
    omega
  | .u m :: t, n + 1, r, h => by
    simp only [grab] at h
    split at h
    · simp only [Option.map_eq_some_iff] at h
      obtain ⟨r', h, rfl⟩ := h
      obtain ⟨h1, h2⟩ := grab_flat t (n - 3) h
      refine ⟨by simp only [flat, List.length_append, cells_u_length]; omega, ?_⟩
      rw [flat, flat, h2, show n + 1 = (SK.u m).cells.length + (n - 3) by rw [cells_u_length]; omega, List.take_length_add_append]
    · simp only [Option.some.injEq] at h
      subst h
      refine ⟨by simp only [flat, List.length_append, cells_u_length]; omega, ?_⟩
      rw [flat_map_c, flat, List.take_append_of_le_length (by rw [cells_u_length]; omega)]
  | .f k m g :: t, n + 1, r, h => by
    simp only [grab] at h
    split at h
    · rename_i hm
      simp only [Option.map_eq_some_iff] at h
      obtain ⟨r', h, rfl⟩ := h
      obtain ⟨h1, h2⟩ := grab_flat t (n + 1 - m) h
      refine ⟨by simp only [flat, List.length_append, cells_f_length]; omega, ?_⟩
      have e : (SK.f k m g).cells.take (n + 1) = (SK.f k m g).cells := List.take_of_length_le (by rw [cells_f_length]; exact hm)
      rw [flat, flat, h2, List.take_append, cells_f_length, e]
    · rename_i hm
      simp only [Option.some.injEq] at h
      subst h
      refine ⟨by simp only [flat, List.length_append, cells_f_length]; omega, ?_⟩
      have e : flat (SK.f k m g :: t) = (SK.f k m g).cells ++ flat t := rfl
      rw [e, List.take_append_of_le_length (by rw [cells_f_length]; omega), ← cells_f_take k m (n + 1) g (by omega)]
      simp [flat]

theorem mem_seek {Q : SC → Prop} {ks r : List SK} {n : Nat} (h : seek ks n = some r) (hq : ∀ c ∈ flat ks, Q c) : ∀ c ∈ flat r, Q c := by
  rw [(seek_flat ks n h).2]; exact fun c hc => hq c (List.mem_of_mem_drop hc)
theorem mem_grab {Q : SC → Prop} {ks r : List SK} {n : Nat} (h : grab ks n = some r) (hq : ∀ c ∈ flat ks, Q c) : ∀ c ∈ flat r, Q c := by
  rw [(grab_flat ks n h).2]; exact fun c hc => hq c (List.mem_of_mem_take hc)

theorem SK.bnd_cells {n : Nat → Prop} : ∀ {k : SK}, k.bnd n ↔ ∀ c ∈ k.cells, c.bnd n
  | .c s => by simp [SK.bnd, SK.cells]
  | .u m => by simp [SK.bnd, SK.cells, SC.bnd]
  | .f k m g => by simp [SK.bnd, SK.cells, SC.bnd]
theorem bnd_flat {n : Nat → Prop} {ks : List SK} : (∀ k ∈ ks, k.bnd n) ↔ ∀ c ∈ flat ks, c.bnd n := by
  induction ks with
  | nil => simp [flat]
  | cons k r ih => rw [List.forall_mem_cons, ih, SK.bnd_cells, flat, List.forall_mem_append]
theorem SK.fit_cells : ∀ {k : SK}, k.fit = true ↔ ∀ c ∈ k.cells, c.fit = true
  | .c s => by simp [SK.fit, SK.cells]
  | .u m => by simp [SK.fit, SK.cells, SC.fit, oneCell]
  | .f k m g => by simp [SK.fit, SK.cells, SC.fit, oneCell]
theorem fit_flat {ks : List SK} : (∀ k ∈ ks, k.fit = true) ↔ ∀ c ∈ flat ks, c.fit = true := by
  induction ks with
  | nil => simp [flat]
  | cons k r ih => rw [List.forall_mem_cons, ih, SK.fit_cells, flat, List.forall_mem_append]

/-- Some cells in the middle. -/
def sub (ks : List SK) (off n : Nat) : Option (List SK) := (seek ks off).bind (grab · n)
theorem sub_flat {ks r : List SK} {off n : Nat} (h : sub ks off n = some r) : off + n ≤ (flat ks).length ∧ flat r = ((flat ks).drop off).take n := by
  unfold sub at h
  obtain ⟨m, h1, h2⟩ := Option.bind_eq_some_iff.1 h
  obtain ⟨a1, a2⟩ := seek_flat _ _ h1
  obtain ⟨b1, b2⟩ := grab_flat _ _ h2
  rw [a2, List.length_drop] at b1
  exact ⟨by omega, by rw [b2, a2]⟩
theorem mem_sub {Q : SC → Prop} {ks r : List SK} {off n : Nat} (h : sub ks off n = some r) (hq : ∀ c ∈ flat ks, Q c) : ∀ c ∈ flat r, Q c := by
  rw [(sub_flat h).2]; exact fun c hc => hq c (List.mem_of_mem_drop (List.mem_of_mem_take hc))

/-- Some cells in the middle, written anew. -/
def lay (ks : List SK) (off : Nat) (new : List SK) : Option (List SK) :=
  match grab ks off, seek ks (off + (flat new).length) with
  | some a, some b => some (a ++ new ++ b)
  | _, _ => none
theorem lay_flat {ks r new : List SK} {off : Nat} (h : lay ks off new = some r) :
    off + (flat new).length ≤ (flat ks).length ∧ flat r = (flat ks).take off ++ flat new ++ (flat ks).drop (off + (flat new).length) := by
  unfold lay at h
  split at h
  · rename_i a b ha hb
    simp only [Option.some.injEq] at h
    subst h
    obtain ⟨a1, a2⟩ := grab_flat _ _ ha
    obtain ⟨b1, b2⟩ := seek_flat _ _ hb
    exact ⟨b1, by rw [flat_append, flat_append, a2, b2]⟩
  · cases h

/-! ## Reading operands -/

def litC : Value → SK
  | .int k n => .c (.num k n)
  | .bool b => .c (.bit b)
  | v => .c (.val v)
def lit : Value → SA
  | .int k n => .sc (.num k n)
  | .bool b => .sc (.bit b)
  | .agg cs => .agg (cs.toList.map litC)
  | v => .sc (.val v)
theorem litC_conc (ρ : Nat → Nat) (v : Value) : (flat [litC v]).map (SC.conc ρ) = [v] := by cases v <;> rfl
theorem litCs_conc (ρ : Nat → Nat) (l : List Value) : concs ρ (l.map litC) = l := by
  unfold concs
  induction l with
  | nil => rfl
  | cons v l ih =>
    have := litC_conc ρ v
    simp only [flat, List.append_nil] at this
    simp only [List.map_cons, flat, List.map_append, this, ih, List.singleton_append]
theorem litC_bnd (n : Nat → Prop) (v : Value) : (litC v).bnd n := by cases v <;> trivial
theorem lit_conc (ρ : Nat → Nat) (v : Value) : (lit v).conc ρ = v := by
  cases v <;> first | rfl | simp [lit, SA.conc, litCs_conc]
theorem lit_bnd (n : Nat → Prop) (v : Value) : (lit v).bnd n := by
  cases v <;> first | trivial | (intro k hk; simp only [List.mem_map] at hk; obtain ⟨x, _, rfl⟩ := hk; exact litC_bnd n x)

def ev (tm : List SV) : Operand → SV
  | .tmp t => tm.getD t .any
  | .const v => .one (lit v)
  | .global g => .one (.sc (.val (.pointer (some ⟨g, 0, none⟩))))
  | .func f => .one (.sc (.fn f []))

theorem Holds.ev {W0 : Base} {ρ : Nat → Nat} {tm : List SV} {ob : List SO} {a : Act} {w : World} (h : Holds W0 ρ tm ob a w) (x : Operand) :
    (ev tm x).rep ρ (a.eval x) ∧ (ev tm x).bnd (live ob) := by
  cases x with
  | tmp t => exact ⟨h.rep t, h.bnd t⟩
  | const v => exact ⟨(lit_conc ρ v).symm, lit_bnd _ v⟩
  | global g => exact ⟨rfl, trivial⟩
  | func f => exact ⟨rfl, fun c hc => by cases hc⟩

/-- The value in a slot, read by an operation. -/
def rdV : SV → Option (List Prop × SA)
  | .one x => some ([], x)
  | .gd b x => some ([b = true], x)
  | _ => none
def rd (tm : List SV) (x : Operand) : Option (List Prop × SA) := rdV (ev tm x)

theorem rdV_sound {ρ : Nat → Nat} {sv : SV} {v : Value} {ps : List Prop} {x : SA} {n : Nat → Prop} (h : rdV sv = some (ps, x)) (hp : Ok ps) (hr : sv.rep ρ v) (hb : sv.bnd n) :
    v = x.conc ρ ∧ x.bnd n := by
  cases sv with
  | any => simp [rdV] at h
  | tup xs => simp [rdV] at h
  | one y => simp only [rdV, Option.some.injEq, Prod.mk.injEq] at h; obtain ⟨rfl, rfl⟩ := h; exact ⟨hr, hb⟩
  | gd b y => simp only [rdV, Option.some.injEq, Prod.mk.injEq] at h; obtain ⟨rfl, rfl⟩ := h; simp only [Ok, and_true] at hp; simp only [SV.rep, hp, if_true] at hr; exact ⟨hr, hb hp⟩
theorem rd_sound {W0 : Base} {ρ : Nat → Nat} {tm : List SV} {ob : List SO} {a : Act} {w : World} {x : Operand} {ps : List Prop} {y : SA}
    (h : rd tm x = some (ps, y)) (hp : Ok ps) (H : Holds W0 ρ tm ob a w) : a.eval x = y.conc ρ ∧ y.bnd (live ob) :=
  rdV_sound h hp (H.ev x).1 (H.ev x).2

/-! ## Runs that touch nothing -/

def evalS {α : Type} (P : Program) : Sem α → Option α
  | .pure a => some a
  | .program k => evalS P (k P)
  | _ => none
theorem evalS_sound {α : Type} {P : Program} (w : World) : ∀ {s : Sem α} {v : α}, evalS P s = some v → s.run P w = .ok v w
  | .pure a, v, h => by simp only [evalS, Option.some.injEq] at h; subst h; rfl
  | .program k, v, h => by simp only [evalS] at h; exact evalS_sound (s := k P) w h
  | .load .., _, h | .store .., _, h | .new .., _, h | .shape .., _, h | .freeze .., _, h | .frozen .., _, h | .getObj .., _, h | .setObj .., _, h | .choose .., _, h | .sys .., _, h | .mark .., _, h | .halt _, _, h => by simp [evalS] at h

/-- A scalar that holds no address of the call's own. -/
def asV : SA → Option Value
  | .sc (.num k n) => some (.int k n)
  | .sc (.bit b) => some (.bool b)
  | .sc (.val v) => some v
  | _ => none
theorem asV_sound {x : SA} {v : Value} (h : asV x = some v) (ρ : Nat → Nat) : x.conc ρ = v := by
  cases x with
  | agg ks => simp [asV] at h
  | sc c => cases c <;> simp [asV] at h <;> simp [SA.conc, SC.conc, h]
def isLit : SA → Bool
  | .sc (.num _ _) | .sc (.bit _) => true
  | _ => false
def ofV (l : Bool) (v : Value) : SA := if l then lit v else .sc (.val v)
theorem ofV_conc (ρ : Nat → Nat) (l : Bool) (v : Value) : (ofV l v).conc ρ = v := by cases l; rfl; exact lit_conc ρ v
theorem ofV_bnd (n : Nat → Prop) (l : Bool) (v : Value) : (ofV l v).bnd n := by cases l; trivial; exact lit_bnd n v

/-- What an operation gives that touches nothing. -/
abbrev VR := Option (List Prop × SA)

/-- An integer, read. -/
def asI : SA → Option (IntKind × Int)
  | .sc (.num k n) => some (k, n)
  | .sc (.val (.int k n)) => some (k, n)
  | _ => none
theorem asI_sound {x : SA} {k : IntKind} {n : Int} (h : asI x = some (k, n)) (ρ : Nat → Nat) : x.conc ρ = .int k n := by
  unfold asI at h
  split at h <;> simp at h <;> obtain ⟨rfl, rfl⟩ := h <;> rfl
def asB : SA → Option Bool
  | .sc (.bit b) => some b
  | .sc (.val (.bool b)) => some b
  | _ => none
theorem asB_sound {x : SA} {b : Bool} (h : asB x = some b) (ρ : Nat → Nat) : x.conc ρ = .bool b := by
  unfold asB at h
  split at h <;> simp at h <;> subst h <;> rfl

end Go.Sx
end

section
/-
  A calculus of symbolic states for walks over translated Go code, part 3: each operation that makes a value and leaves memory alone.
-/
namespace Go.Sx
open Go.RowKit

/-! ## Two aggregates held against each other -/

def leafsF (lf : TypeId → Option (List Nat)) (sz : TypeId → Nat) : List Field → Nat → Option (List Nat)
  | [], _ => some []
  | f :: r, off =>
    if f.name == "_" || f.offset != off then none else
    match lf f.type with
    | some l => if sz f.type == l.length && l.length != 0 then (leafsF lf sz r (off + l.length)).map (l ++ ·) else none
    | none => none
def rep (l : List Nat) : Nat → List Nat
  | 0 => []
  | n + 1 => l ++ rep l n
/-- The kinds of a type's cells: 0 bool, 1 a whole number, 2 a text. -/
def leafs (P : Program) : Nat → TypeId → Option (List Nat)
  | 0, _ => none
  | d + 1, t =>
    match P.underlying t with
    | some .bool => some [0]
    | some (.int _) => some [1]
    | some .string => some [2]
    | some (.array n e) =>
      match leafs P d e with
      | some l => if P.cellsOf e == l.length && l.length != 0 && (P.info? e).isSome then some (rep l n) else none
      | none => none
    | some (.struct fs) => if P.stoodInHeld t then none else leafsF (leafs P d) P.cellsOf fs.toList 0
    | _ => none

def eqC : Nat → Value → Value → Option Bool
  | 0, .bool a, .bool b => some (a == b)
  | 1, .int k a, .int k' b => if k = k' then some (a == b) else none
  | 2, .string a, .string b => some (a == b)
  | _, _, _ => none
def eqL : List Nat → List Value → List Value → Option (List Bool)
  | [], [], [] => some []
  | l :: ls, x :: xs, y :: ys =>
    match eqC l x y, eqL ls xs ys with
    | some b, some bs => some (b :: bs)
    | _, _ => none
  | _, _, _ => none
def whole (P : Program) (t : TypeId) (xs : List Value) : Value :=
  match P.underlying t with
  | some (.struct _) | some (.array _ _) => .agg xs.toArray
  | _ => xs.headD undef

theorem eqL_length : ∀ {ls : List Nat} {xs ys : List Value} {bs : List Bool}, eqL ls xs ys = some bs → xs.length = ls.length ∧ ys.length = ls.length
  | [], [], [], _, _ => by simp
  | l :: ls, x :: xs, y :: ys, bs, h => by
    simp only [eqL] at h
    split at h
    · rename_i b bs' h1 h2
      obtain ⟨a, c⟩ := eqL_length h2
      simp [a, c]
    · cases h
  | [], x :: xs, ys, _, h | [], [], y :: ys, _, h | l :: ls, [], ys, _, h | l :: ls, x :: xs, [], _, h => by simp [eqL] at h
theorem eqL_one {l : Nat} {xs ys : List Value} {bs : List Bool} (h : eqL [l] xs ys = some bs) : ∃ x y b, xs = [x] ∧ ys = [y] ∧ eqC l x y = some b ∧ bs = [b] := by
  obtain ⟨h1, h2⟩ := eqL_length h
  obtain ⟨x, rfl⟩ := List.length_eq_one_iff.1 h1
  obtain ⟨y, rfl⟩ := List.length_eq_one_iff.1 h2
  simp only [eqL] at h
  cases e : eqC l x y with
  | none => simp [e] at h
  | some b => simp [e] at h; exact ⟨x, y, b, rfl, rfl, e, h.symm⟩
theorem eqC_bool {x y : Value} {b : Bool} (h : eqC 0 x y = some b) : ∃ p q, x = .bool p ∧ y = .bool q ∧ b = (p == q) := by
  cases x <;> cases y <;> simp [eqC] at h
  exact ⟨_, _, rfl, rfl, h.symm⟩
theorem eqC_int {x y : Value} {b : Bool} (h : eqC 1 x y = some b) : ∃ k p q, x = .int k p ∧ y = .int k q ∧ b = (p == q) := by
  cases x <;> cases y <;> simp [eqC] at h
  obtain ⟨rfl, h⟩ := h
  exact ⟨_, _, _, rfl, rfl, h.symm⟩
theorem eqC_string {x y : Value} {b : Bool} (h : eqC 2 x y = some b) : ∃ p q, x = .string p ∧ y = .string q ∧ b = (p == q) := by
  cases x <;> cases y <;> simp [eqC] at h
  exact ⟨_, _, rfl, rfl, h.symm⟩
theorem eqL_append : ∀ {l1 l2 : List Nat} {xs ys : List Value} {bs : List Bool}, eqL (l1 ++ l2) xs ys = some bs →
    ∃ b1 b2, eqL l1 (xs.take l1.length) (ys.take l1.length) = some b1 ∧ eqL l2 (xs.drop l1.length) (ys.drop l1.length) = some b2 ∧ bs = b1 ++ b2
  | [], l2, xs, ys, bs, h => ⟨[], bs, by simp [eqL], by simpa using h, rfl⟩
  | l :: l1, l2, x :: xs, y :: ys, bs, h => by
    simp only [List.cons_append, eqL] at h
    split at h
    · rename_i b bs' h1 h2
      obtain ⟨b1, b2, e1, e2, rfl⟩ := eqL_append h2
      simp only [Option.some.injEq] at h
      exact ⟨b :: b1, b2, by simp [eqL, h1, e1], by simpa using e2, by simp [← h]⟩
    · cases h
  | l :: l1, l2, [], ys, bs, h | l :: l1, l2, x :: xs, [], bs, h => by simp [eqL] at h

def isAggD : TypeDesc → Bool
  | .struct _ | .array _ _ => true
  | _ => false

section
variable {P : Program} (w : World)

theorem run_isAgg (t : TypeId) {d : TypeDesc} (h : P.underlying t = some d) : (isAgg t).run P w = .ok (isAggD d) w := by
  simp only [isAgg, Sem.run_bind, run_underlying h, Result.andThen_ok]
  cases d <;> rfl

theorem leafs_pos {d : Nat} {t : TypeId} {ls : List Nat} (h : leafs P d t = some ls) : ∃ u, P.underlying t = some u ∧ (∃ d', d = d' + 1) := by
  cases d with
  | zero => simp [leafs] at h
  | succ d =>
    cases hu : P.underlying t with
    | none => simp [leafs, hu] at h
    | some u => exact ⟨u, rfl, d, rfl⟩

theorem info_of_underlying {t : TypeId} {u : TypeDesc} (h : P.underlying t = some u) : ∃ i, P.info? t = some i := by
  unfold Program.underlying at h
  split at h
  · rename_i hi; exact ⟨_, hi⟩
  · rename_i i _ hi; exact ⟨i, hi⟩
  · cases h

theorem run_part_leafs {d : Nat} {t : TypeId} {ls : List Nat} (h : leafs P d t = some ls) (hs : P.cellsOf t = ls.length) (xs : List Value) (off : Nat) (hx : off + ls.length ≤ xs.length) :
    (part t xs.toArray off).run P w = .ok (whole P t ((xs.drop off).take ls.length)) w := by
  obtain ⟨u, hu, d', rfl⟩ := leafs_pos h
  obtain ⟨i, hi⟩ := info_of_underlying hu
  have hone : (∀ n e, u ≠ .array n e) → (∀ fs, u ≠ .struct fs) → ls.length = 1 := by
    intro h1 h2
    simp only [leafs, hu] at h
    cases u <;> simp at h <;> first | (subst h; rfl) | (exact absurd rfl (h1 _ _)) | (exact absurd rfl (h2 _))
  simp only [part, Sem.run_bind, run_isAgg w t hu, Result.andThen_ok]
  cases u
  case array n e => simp [whole, hu, isAggD, run_sizeOf w hi, hs, List.take_drop]
  case struct fs => simp [whole, hu, isAggD, run_sizeOf w hi, hs, List.take_drop]
  all_goals
    have h1 := hone (by intro n e; simp) (by intro fs; simp)
    rw [h1] at hx ⊢
    have hlt : off < xs.length := by omega
    rw [show (xs.drop off).take 1 = [xs[off]] by rw [List.drop_eq_getElem_cons hlt]; rfl]
    simp [whole, hu, isAggD, hlt]

theorem eqItems_leafs {d : Nat} {e : TypeId} {l : List Nat} (hl : leafs P d e = some l) (hs : P.cellsOf e = l.length) (h0 : l.length ≠ 0)
    (ih : ∀ xs ys bs, eqL l xs ys = some bs → (Op.equalIn d e (whole P e xs) (whole P e ys)).run P w = .ok (bs.all id) w) (xs ys : List Value) :
    ∀ (m j : Nat) (bs : List Bool), eqL (rep l m) (xs.drop (j * l.length)) (ys.drop (j * l.length)) = some bs →
      (Op.eqItems d e (P.cellsOf e) xs.toArray ys.toArray (List.range' j m)).run P w = .ok (bs.all id) w
  | 0, j, bs, h => by
    simp only [rep] at h
    cases h1 : List.drop (j * l.length) xs <;> cases h2 : List.drop (j * l.length) ys <;> rw [h1, h2] at h <;> simp [eqL] at h
    subst h
    simp [Op.eqItems]
  | m + 1, j, bs, h => by
    simp only [rep] at h
    obtain ⟨b1, b2, e1, e2, rfl⟩ := eqL_append h
    obtain ⟨k1, k2⟩ := eqL_length e1
    have k1' : j * l.length + l.length ≤ xs.length := by
      rcases Nat.lt_or_ge (j * l.length + l.length) (xs.length + 1) with k | k
      · omega
      · simp at k1; omega
    have k2' : j * l.length + l.length ≤ ys.length := by
      rcases Nat.lt_or_ge (j * l.length + l.length) (ys.length + 1) with k | k
      · omega
      · simp at k2; omega
    simp only [List.range'_succ, Op.eqItems, Sem.run_bind, hs]
    rw [run_part_leafs w hl hs xs _ k1']
    simp only [Result.andThen_ok]
    rw [run_part_leafs w hl hs ys _ k2']
    simp only [Result.andThen_ok]
    rw [ih _ _ _ e1]
    simp only [Result.andThen_ok]
    rw [List.drop_drop, List.drop_drop, show j * l.length + l.length = (j + 1) * l.length by rw [Nat.succ_mul]] at e2
    have := eqItems_leafs hl hs h0 ih xs ys m (j + 1) b2 e2
    rw [hs] at this
    cases hb : b1.all id
    · simp [hb]
    · simp [hb, this]

theorem eqFields_leafs {d : Nat} (ih : ∀ e l, leafs P d e = some l → ∀ xs ys bs, eqL l xs ys = some bs → (Op.equalIn d e (whole P e xs) (whole P e ys)).run P w = .ok (bs.all id) w) (xs ys : List Value) :
    ∀ (fs : List Field) (off : Nat) (ls : List Nat) (bs : List Bool), leafsF (leafs P d) P.cellsOf fs off = some ls → eqL ls (xs.drop off) (ys.drop off) = some bs →
      (Op.eqFields d xs.toArray ys.toArray fs).run P w = .ok (bs.all id) w
  | [], off, ls, bs, hl, h => by
    simp only [leafsF, Option.some.injEq] at hl
    subst hl
    cases h1 : List.drop off xs <;> cases h2 : List.drop off ys <;> rw [h1, h2] at h <;> simp [eqL] at h
    subst h
    simp [Op.eqFields]
  | f :: fs, off, ls, bs, hl, h => by
    simp only [leafsF] at hl
    split at hl
    · cases hl
    rename_i hn
    simp only [Bool.or_eq_true, beq_iff_eq, bne_iff_ne, not_or, ne_eq, Decidable.not_not] at hn
    split at hl
    case h_2 => cases hl
    rename_i l hlf
    split at hl
    case isFalse => cases hl
    rename_i hsz
    simp only [Bool.and_eq_true, beq_iff_eq, bne_iff_ne, ne_eq] at hsz
    obtain ⟨hsz, h0⟩ := hsz
    simp only [Option.map_eq_some_iff] at hl
    obtain ⟨ls', hl', rfl⟩ := hl
    obtain ⟨b1, b2, e1, e2, rfl⟩ := eqL_append h
    obtain ⟨k1, k2⟩ := eqL_length e1
    have k1' : off + l.length ≤ xs.length := by
      rcases Nat.lt_or_ge (off + l.length) (xs.length + 1) with k | k
      · omega
      · simp at k1; omega
    have k2' : off + l.length ≤ ys.length := by
      rcases Nat.lt_or_ge (off + l.length) (ys.length + 1) with k | k
      · omega
      · simp at k2; omega
    simp only [Op.eqFields, ne_eq, hn.1, not_false_eq_true, if_true, Sem.run_bind, hn.2]
    rw [run_part_leafs w hlf hsz xs _ k1']
    simp only [Result.andThen_ok]
    rw [run_part_leafs w hlf hsz ys _ k2']
    simp only [Result.andThen_ok]
    rw [ih _ _ hlf _ _ _ e1]
    simp only [Result.andThen_ok]
    rw [List.drop_drop, List.drop_drop] at e2
    have := eqFields_leafs ih xs ys fs _ ls' b2 hl' e2
    cases hb : b1.all id
    · simp [hb]
    · simp [hb, this]

theorem equalIn_leafs : ∀ (d : Nat) (t : TypeId) (ls : List Nat), leafs P d t = some ls → ∀ (xs ys : List Value) (bs : List Bool), eqL ls xs ys = some bs →
    (Op.equalIn d t (whole P t xs) (whole P t ys)).run P w = .ok (bs.all id) w
  | 0, _, _, h => by simp [leafs] at h
  | d + 1, t, ls, h => by
    intro xs ys bs hb
    have hlf := h
    simp only [leafs] at h
    split at h
    case h_1 hu =>
      simp only [Option.some.injEq] at h; subst h
      obtain ⟨x, y, b, rfl, rfl, h1, rfl⟩ := eqL_one hb
      obtain ⟨p, q, rfl, rfl, rfl⟩ := eqC_bool h1
      simp [whole, hu, run_equalIn_bool' w d t _ _ hu]
    case h_2 k hu =>
      simp only [Option.some.injEq] at h; subst h
      obtain ⟨x, y, b, rfl, rfl, h1, rfl⟩ := eqL_one hb
      obtain ⟨k', p, q, rfl, rfl, rfl⟩ := eqC_int h1
      simp [whole, hu, run_equalIn_int w d t _ k _ _ hu]
    case h_3 hu =>
      simp only [Option.some.injEq] at h; subst h
      obtain ⟨x, y, b, rfl, rfl, h1, rfl⟩ := eqL_one hb
      obtain ⟨p, q, rfl, rfl, rfl⟩ := eqC_string h1
      simp [whole, hu, Op.equalIn, run_underlying hu]
    case h_4 n e hu =>
      split at h
      case h_2 => cases h
      rename_i l hl
      split at h
      case isFalse => cases h
      rename_i hc
      simp only [Bool.and_eq_true, beq_iff_eq, bne_iff_ne, ne_eq, Option.isSome_iff_exists] at hc
      obtain ⟨⟨hs, h0⟩, i, hi⟩ := hc
      simp only [Option.some.injEq] at h
      subst h
      simp only [whole, hu]
      rw [run_equalIn_array w d _ _ hu hi, List.range_eq_range']
      exact eqItems_leafs w hl hs h0 (fun xs ys bs hb => equalIn_leafs d e l hl xs ys bs hb) xs ys n 0 bs (by simpa using hb)
    case h_5 fs hu =>
      split at h
      · cases h
      rename_i hst
      simp only [whole, hu]
      have hf : P.fieldsOf t = fs := by simp [Program.fieldsOf, hu]
      rw [run_equalIn_struct w d t _ _ (by rw [hf]; exact hu) (by simpa using hst), hf]
      exact eqFields_leafs w (fun e l hl xs ys bs hb => equalIn_leafs d e l hl xs ys bs hb) xs ys fs.toList 0 ls bs h (by simpa using hb)
    case h_6 => cases h
end

end Go.Sx
end

section
/-
  A calculus of symbolic states for walks over translated Go code, part 4: operations that make a value, one by one.
-/
namespace Go.Sx
open Go.RowKit

/-! ## Numbers by their parts -/

theorem limbs_sum (n : Nat) : n % M256 = n % 2 ^ 64 + 2 ^ 64 * (n / 2 ^ 64 % 2 ^ 64) + 2 ^ 128 * (n / 2 ^ 128 % 2 ^ 64) + 2 ^ 192 * (n / 2 ^ 192 % 2 ^ 64) := by
  have h1 : M256 = 2 ^ 192 * 2 ^ 64 := by decide
  have h2 : (2 : Nat) ^ 192 = 2 ^ 128 * 2 ^ 64 := by decide
  have h3 : (2 : Nat) ^ 128 = 2 ^ 64 * 2 ^ 64 := by decide
  rw [h1, Nat.mod_mul, h2, Nat.mod_mul, h3, Nat.mod_mul]
theorem limb_nonneg (n i : Nat) : 0 ≤ limb n i := Int.natCast_nonneg _
theorem limb_lt (n i : Nat) : limb n i < 18446744073709551616 := by
  unfold limb
  have : n / 2 ^ (64 * i) % 2 ^ 64 < 2 ^ 64 := Nat.mod_lt _ (by decide)
  omega
theorem limb_toNat (n i : Nat) : (limb n i).toNat = n / 2 ^ (64 * i) % 2 ^ 64 := by unfold limb; exact Int.toNat_natCast _
theorem limbs_eq {a b : Nat} : (a % M256 = b % M256) ↔ (limb a 0 = limb b 0 ∧ limb a 1 = limb b 1 ∧ limb a 2 = limb b 2 ∧ limb a 3 = limb b 3) := by
  constructor
  · intro h
    have key : ∀ i, i < 4 → limb a i = limb b i := by
      intro i hi
      unfold limb
      have e : ∀ n : Nat, n / 2 ^ (64 * i) % 2 ^ 64 = n % M256 / 2 ^ (64 * i) % 2 ^ 64 := by
        intro n
        have hM : M256 = 2 ^ (64 * i) * (2 ^ 64 * 2 ^ (192 - 64 * i)) := by
          have : 64 * i + (64 + (192 - 64 * i)) = 256 := by omega
          rw [← Nat.pow_add, ← Nat.pow_add, this]; rfl
        rw [hM, Nat.mod_mul_right_div_self, Nat.mod_mul_right_mod]
      rw [e a, e b, h]
    exact ⟨key 0 (by omega), key 1 (by omega), key 2 (by omega), key 3 (by omega)⟩
  · rintro ⟨h0, h1, h2, h3⟩
    unfold limb at h0 h1 h2 h3
    simp only [Nat.mul_zero, Nat.pow_zero, Nat.div_one, Nat.mul_one, Nat.reduceMul] at h0 h1 h2 h3
    rw [limbs_sum a, limbs_sum b]
    omega
theorem U_congr {a b : Nat} (h : a % M256 = b % M256) : U a = U b := by
  obtain ⟨h0, h1, h2, h3⟩ := limbs_eq.1 h
  simp only [U, h0, h1, h2, h3]

/-- Four parts put together. -/
def join (a b c d : Int) : Nat := a.toNat + 2 ^ 64 * b.toNat + 2 ^ 128 * c.toNat + 2 ^ 192 * d.toNat
theorem join_lt {a b c d : Int} (ha : a < 2 ^ 64) (hb : b < 2 ^ 64) (hc : c < 2 ^ 64) (hd : d < 2 ^ 64) : join a b c d < M256 := by
  unfold join M256
  have h1 : a.toNat ≤ 2 ^ 64 - 1 := by omega
  have h2 : b.toNat ≤ 2 ^ 64 - 1 := by omega
  have h3 : c.toNat ≤ 2 ^ 64 - 1 := by omega
  have h4 : d.toNat ≤ 2 ^ 64 - 1 := by omega
  omega
theorem limb_join {a b c d : Int} (ha : 0 ≤ a ∧ a < 2 ^ 64) (hb : 0 ≤ b ∧ b < 2 ^ 64) (hc : 0 ≤ c ∧ c < 2 ^ 64) (hd : 0 ≤ d ∧ d < 2 ^ 64) :
    limb (join a b c d) 0 = a ∧ limb (join a b c d) 1 = b ∧ limb (join a b c d) 2 = c ∧ limb (join a b c d) 3 = d := by
  unfold limb join
  simp only [Nat.mul_zero, Nat.pow_zero, Nat.div_one, Nat.mul_one, Nat.reduceMul]
  refine ⟨?_, ?_, ?_, ?_⟩ <;> omega
theorem U_join {a b c d : Int} (ha : 0 ≤ a ∧ a < 2 ^ 64) (hb : 0 ≤ b ∧ b < 2 ^ 64) (hc : 0 ≤ c ∧ c < 2 ^ 64) (hd : 0 ≤ d ∧ d < 2 ^ 64) :
    U (join a b c d) = .agg #[.int .u64 a, .int .u64 b, .int .u64 c, .int .u64 d] := by
  obtain ⟨h0, h1, h2, h3⟩ := limb_join ha hb hc hd
  simp only [U, h0, h1, h2, h3]
theorem join_limbs (n : Nat) : join (limb n 0) (limb n 1) (limb n 2) (limb n 3) = n % M256 := by
  rw [limbs_sum]
  simp only [join, limb_toNat, Nat.mul_zero, Nat.pow_zero, Nat.div_one, Nat.mul_one, Nat.reduceMul]

/-! ## Equality of rows -/

def okLit (n : Int) : Bool := decide (0 ≤ n) && decide (n < 18446744073709551616)
def cmpC (l : Nat) (x y : SC) : Option Bool :=
  match asV (.sc x), asV (.sc y) with
  | some v, some w => eqC l v w
  | _, _ => none
def eqKs : List Nat → List SK → List SK → Option (List Bool)
  | [], [], [] => some []
  | 1 :: 1 :: 1 :: 1 :: ls, .u a :: r, .u b :: r' => (eqKs ls r r').map ((a % M256 == b % M256) :: ·)
  | 1 :: 1 :: 1 :: 1 :: ls, .u a :: r, .c (.num .u64 p) :: .c (.num .u64 q) :: .c (.num .u64 s) :: .c (.num .u64 t) :: r' =>
    if okLit p && okLit q && okLit s && okLit t then (eqKs ls r r').map ((a % M256 == join p q s t) :: ·) else none
  | 1 :: 1 :: 1 :: 1 :: ls, .c (.num .u64 p) :: .c (.num .u64 q) :: .c (.num .u64 s) :: .c (.num .u64 t) :: r', .u a :: r =>
    if okLit p && okLit q && okLit s && okLit t then (eqKs ls r' r).map ((join p q s t == a % M256) :: ·) else none
  | l :: ls, .c x :: r, .c y :: r' =>
    match cmpC l x y, eqKs ls r r' with
    | some b, some bs => some (b :: bs)
    | _, _ => none
  | _, _, _ => none
def eqFl : List Nat → List SC → List SC → Option (List Bool)
  | [], [], [] => some []
  | l :: ls, x :: r, y :: r' =>
    match cmpC l x y, eqFl ls r r' with
    | some b, some bs => some (b :: bs)
    | _, _ => none
  | _, _, _ => none
def conj : List Bool → Bool
  | [] => true
  | [b] => b
  | b :: r => b && conj r
theorem conj_all : ∀ bs : List Bool, conj bs = bs.all id
  | [] => rfl
  | [b] => by simp [conj]
  | b :: c :: r => by rw [conj, conj_all (c :: r)]; rfl; intro h; cases h

theorem cmpC_sound {l : Nat} {x y : SC} {b : Bool} (h : cmpC l x y = some b) (ρ : Nat → Nat) : eqC l (x.conc ρ) (y.conc ρ) = some b := by
  unfold cmpC at h
  split at h
  · rename_i v w hv hw
    have h1 := asV_sound hv ρ
    have h2 := asV_sound hw ρ
    simp only [SA.conc] at h1 h2
    rw [h1, h2]; exact h
  · cases h
theorem eqFl_sound (ρ : Nat → Nat) : ∀ {ls : List Nat} {xs ys : List SC} {bs : List Bool}, eqFl ls xs ys = some bs → eqL ls (xs.map (SC.conc ρ)) (ys.map (SC.conc ρ)) = some bs
  | [], [], [], bs, h => by simpa [eqFl, eqL] using h
  | l :: ls, x :: r, y :: r', bs, h => by
    simp only [eqFl] at h
    split at h
    · rename_i b bs' h1 h2
      simp only [List.map_cons, eqL, cmpC_sound h1 ρ, eqFl_sound ρ h2]; exact h
    · cases h
  | [], x :: xs, ys, _, h | [], [], y :: ys, _, h | l :: ls, [], ys, _, h | l :: ls, x :: xs, [], _, h => by simp [eqFl] at h
theorem okLit_iff {n : Int} (h : okLit n = true) : 0 ≤ n ∧ n < 2 ^ 64 := by
  simp only [okLit, Bool.and_eq_true, decide_eq_true_eq] at h; exact ⟨h.1, by have := h.2; omega⟩
theorem eqKs_sound (ρ : Nat → Nat) (ls : List Nat) (xs ys : List SK) : ∀ {bs : List Bool}, eqKs ls xs ys = some bs → ∃ bs0, eqL ls (concs ρ xs) (concs ρ ys) = some bs0 ∧ bs0.all id = bs.all id := by
  induction ls, xs, ys using eqKs.induct with
  | case1 => intro bs h; simp only [eqKs, Option.some.injEq] at h; subst h; exact ⟨[], rfl, rfl⟩
  | case2 ls a r b r' ih =>
    intro bs h
    simp only [eqKs, Option.map_eq_some_iff] at h
    obtain ⟨bs', h, rfl⟩ := h
    obtain ⟨b0, e0, e1⟩ := ih h
    simp only [concs] at e0
    refine ⟨(limb a 0 == limb b 0) :: (limb a 1 == limb b 1) :: (limb a 2 == limb b 2) :: (limb a 3 == limb b 3) :: b0, ?_, ?_⟩
    · simp [concs, flat, SK.cells, SC.conc, eqL, eqC, e0]
    · simp only [List.all_cons, id, e1]
      rw [Bool.eq_iff_iff]
      simp only [Bool.and_eq_true, beq_iff_eq, limbs_eq, and_assoc]
  | case3 ls a r p q s t r' hl ih =>
    intro bs h
    simp only [eqKs, hl, if_true, Option.map_eq_some_iff] at h
    obtain ⟨bs', h, rfl⟩ := h
    obtain ⟨b0, e0, e1⟩ := ih h
    simp only [concs] at e0
    simp only [Bool.and_eq_true] at hl
    obtain ⟨⟨⟨hp, hq⟩, hs⟩, ht⟩ := hl
    have hp := okLit_iff hp; have hq := okLit_iff hq; have hs := okLit_iff hs; have ht := okLit_iff ht
    refine ⟨(limb a 0 == p) :: (limb a 1 == q) :: (limb a 2 == s) :: (limb a 3 == t) :: b0, ?_, ?_⟩
    · simp [concs, flat, SK.cells, SC.conc, eqL, eqC, e0]
    · simp only [List.all_cons, id, e1]
      obtain ⟨j0, j1, j2, j3⟩ := limb_join hp hq hs ht
      rw [Bool.eq_iff_iff]
      have hj : join p q s t = join p q s t % M256 := (Nat.mod_eq_of_lt (join_lt hp.2 hq.2 hs.2 ht.2)).symm
      rw [hj]
      simp only [Bool.and_eq_true, beq_iff_eq, limbs_eq, and_assoc, j0, j1, j2, j3]
  | case4 ls a r p q s t r' hl => intro bs h; simp [eqKs, hl] at h
  | case5 ls p q s t r' a r hl ih =>
    intro bs h
    simp only [eqKs, hl, if_true, Option.map_eq_some_iff] at h
    obtain ⟨bs', h, rfl⟩ := h
    obtain ⟨b0, e0, e1⟩ := ih h
    simp only [concs] at e0
    simp only [Bool.and_eq_true] at hl
    obtain ⟨⟨⟨hp, hq⟩, hs⟩, ht⟩ := hl
    have hp := okLit_iff hp; have hq := okLit_iff hq; have hs := okLit_iff hs; have ht := okLit_iff ht
    refine ⟨(p == limb a 0) :: (q == limb a 1) :: (s == limb a 2) :: (t == limb a 3) :: b0, ?_, ?_⟩
    · simp [concs, flat, SK.cells, SC.conc, eqL, eqC, e0]
    · simp only [List.all_cons, id, e1]
      obtain ⟨j0, j1, j2, j3⟩ := limb_join hp hq hs ht
      rw [Bool.eq_iff_iff]
      have hj : join p q s t = join p q s t % M256 := (Nat.mod_eq_of_lt (join_lt hp.2 hq.2 hs.2 ht.2)).symm
      rw [hj]
      simp only [Bool.and_eq_true, beq_iff_eq, limbs_eq, and_assoc, j0, j1, j2, j3]
  | case6 ls p q s t r' a r hl => intro bs h; simp [eqKs, hl] at h
  | case7 l ls x r y r' b bs' h2 h1 ih =>
    intro bs h
    simp only [eqKs, h1, h2, Option.some.injEq] at h
    subst h
    obtain ⟨b0, e0, e1⟩ := ih h2
    simp only [concs] at e0
    refine ⟨b :: b0, ?_, by simp [e1]⟩
    simp [concs, flat, SK.cells, eqL, cmpC_sound h1 ρ, e0]
  | case8 l ls x r y r' hx ih =>
    intro bs h
    simp only [eqKs] at h
    cases h
  | case9 ls xs ys h1 h2 h3 h4 h5 =>
    intro bs h
    rw [eqKs] at h <;> first | cases h | assumption

def onesB : List Nat → Nat → Bool
  | [], 0 => true
  | 1 :: r, n + 1 => onesB r n
  | _, _ => false
theorem onesB_eq : ∀ {l : List Nat} {n : Nat}, onesB l n = true → l = List.replicate n 1
  | [], 0, _ => rfl
  | 1 :: r, n + 1, h => by simp only [onesB] at h; rw [onesB_eq h]; rfl
  | [], _ + 1, h | 0 :: _, 0, h | (_ + 2) :: _, 0, h | 1 :: _, 0, h | 0 :: _, _ + 1, h | (_ + 2) :: _, _ + 1, h => by simp [onesB] at h
/-- Two rows that functions tell. -/
def eqF (ls : List Nat) (xs ys : List SK) : Option (List Bool) :=
  match xs, ys with
  | [.f k n g], [.f k' n' g'] => if k = k' ∧ n = n' ∧ onesB ls n = true then some [(List.range n).all fun j => g j == g' j] else none
  | _, _ => none
theorem eqL_ints (k : IntKind) : ∀ (xs ys : List Int), xs.length = ys.length → eqL (List.replicate xs.length 1) (xs.map (Value.int k)) (ys.map (Value.int k)) = some (List.zipWith (· == ·) xs ys)
  | [], [], _ => rfl
  | x :: xs, y :: ys, h => by
    have ih := eqL_ints k xs ys (by simpa using h)
    simp only [List.length_cons, List.replicate_succ, List.map_cons, eqL, eqC, ih, if_true, List.zipWith_cons_cons]
  | [], _ :: _, h | _ :: _, [], h => by simp at h
theorem eqF_sound (ρ : Nat → Nat) {ls : List Nat} {xs ys : List SK} {bs : List Bool} (h : eqF ls xs ys = some bs) : ∃ bs0, eqL ls (concs ρ xs) (concs ρ ys) = some bs0 ∧ bs0.all id = bs.all id := by
  unfold eqF at h
  split at h
  · rename_i k n g k' n' g'
    split at h
    · rename_i hc
      obtain ⟨rfl, rfl, ho⟩ := hc
      simp only [Option.some.injEq] at h
      subst h
      have hl := onesB_eq ho
      subst hl
      have e : ∀ f : Nat → Int, concs ρ [SK.f k n f] = ((List.range n).map f).map (Value.int k) := fun f => by simp [concs, flat, SK.cells, Function.comp_def, SC.conc]
      have := eqL_ints k ((List.range n).map g) ((List.range n).map g') (by simp)
      rw [e, e]
      rw [List.length_map, List.length_range] at this
      refine ⟨_, this, ?_⟩
      simp only [List.all_cons, List.all_nil, id, Bool.and_true]
      rw [List.zipWith_map_left, List.zipWith_map_right, List.zipWith_self, List.all_map]
      rfl
    · cases h
  · cases h

def eqAgg (ls : List Nat) (xs ys : List SK) : Option (List Bool) :=
  match eqF ls xs ys with
  | some bs => some bs
  | none => match eqKs ls xs ys with
    | some bs => some bs
    | none => eqFl ls (flat xs) (flat ys)
theorem eqAgg_sound (ρ : Nat → Nat) {ls : List Nat} {xs ys : List SK} {bs : List Bool} (h : eqAgg ls xs ys = some bs) : ∃ bs0, eqL ls (concs ρ xs) (concs ρ ys) = some bs0 ∧ bs0.all id = bs.all id := by
  unfold eqAgg at h
  split at h
  · rename_i bs' h1; simp only [Option.some.injEq] at h; subst h; exact eqF_sound ρ h1
  · split at h
    · rename_i bs' h1; simp only [Option.some.injEq] at h; subst h; exact eqKs_sound ρ _ _ _ h1
    · exact ⟨bs, eqFl_sound ρ h, rfl⟩

end Go.Sx
end

section
/-
  A calculus of symbolic states for walks over translated Go code, part 5: what each operation gives that leaves memory alone.
-/
namespace Go.Sx
open Go.RowKit

def eqAns : Option (List Bool) → BinOp → VR
  | some bs, .eql => some ([], .sc (.val (.bool (conj bs))))
  | some bs, .neq => some ([], .sc (.val (.bool (!conj bs))))
  | _, _ => none
def semBin (P : Program) (op : BinOp) (t : TypeId) (xo yo : Operand) (x y : SA) : VR :=
  match x, y with
  | .agg ks, .agg ks' =>
    if P.eqGuardType P.depth t then none else
    match P.underlying t with
    | some (.struct _) | some (.array _ _) =>
      match leafs P 10000 t with
      | some ls => eqAns (eqAgg ls ks ks') op
      | none => none
    | _ => none
  | _, _ =>
    match asV x, asV y with
    | some v, some w =>
      match op, v, w, isLit y with
      | .quo, .int k a, .int k' b, false => if k = k' then some ([b ≠ 0], .sc (.val (.int k (k.wrap (a.tdiv b))))) else none
      | .rem, .int k a, .int k' b, false => if k = k' then some ([b ≠ 0], .sc (.val (.int k (a.tmod b)))) else none
      | .shl, .int k a, .int _ b, false => some ([0 ≤ b], .sc (.val (.int k (k.wrap (a * 2 ^ min b.toNat k.bits)))))
      | .shr, .int k a, .int _ b, false => some ([0 ≤ b], .sc (.val (.int k (a.fdiv (2 ^ min b.toNat k.bits)))))
      | .add, .string a, .string b, false => some ([a.size + b.size ≤ 9223372036854775807], .sc (.val (.string (a ++ b))))
      | _, _, _, _ => (evalS P (eqGuard op t xo yo v w >>= fun _ => binOp op t v w)).map fun r => ([], ofV (isLit x && isLit y) r)
    | _, _ => none

theorem run_eqGuard_ints (P : Program) (w : World) (op : BinOp) (t : TypeId) (xo yo : Operand) (k k' : IntKind) (a b : Int) : (eqGuard op t xo yo (.int k a) (.int k' b)).run P w = .ok () w := by
  cases op <;> simp [eqGuard]

theorem eqAns_sound {P : Program} {op : BinOp} {t : TypeId} {xo yo : Operand} {ks ks' : List SK} {r : Option (List Bool)} {z : SA} {ps : List Prop} (h : eqAns r op = some (ps, z)) {ρ : Nat → Nat} {w : World}
    (hg : P.eqGuardType P.depth t = false) (hr : ∀ bs, r = some bs → (Op.equalIn 10000 t (.agg (concs ρ ks).toArray) (.agg (concs ρ ks').toArray)).run P w = .ok (conj bs) w) (n : Nat → Prop) :
    (eqGuard op t xo yo (SA.conc ρ (.agg ks)) (SA.conc ρ (.agg ks')) >>= fun _ => binOp op t (SA.conc ρ (.agg ks)) (SA.conc ρ (.agg ks'))).run P w = .ok (z.conc ρ) w ∧ z.bnd n := by
  unfold eqAns at h
  split at h
  · simp only [Option.some.injEq, Prod.mk.injEq] at h
    obtain ⟨rfl, rfl⟩ := h
    refine ⟨?_, trivial⟩
    simp only [SA.conc, Sem.run_bind, run_eqGuard_agg w _ _ _ _ _ _ hg, Result.andThen_ok, run_eql_struct, hr _ rfl, SC.conc]
  · simp only [Option.some.injEq, Prod.mk.injEq] at h
    obtain ⟨rfl, rfl⟩ := h
    refine ⟨?_, trivial⟩
    simp only [SA.conc, Sem.run_bind, run_eqGuard_agg w _ _ _ _ _ _ hg, Result.andThen_ok, run_neq_struct, hr _ rfl, SC.conc]
  · cases h

theorem semBin_sound {P : Program} {op : BinOp} {t : TypeId} {xo yo : Operand} {x y z : SA} {ps : List Prop} (h : semBin P op t xo yo x y = some (ps, z)) (hp : Ok ps) (ρ : Nat → Nat) (n : Nat → Prop) (w : World) :
    (eqGuard op t xo yo (x.conc ρ) (y.conc ρ) >>= fun _ => binOp op t (x.conc ρ) (y.conc ρ)).run P w = .ok (z.conc ρ) w ∧ z.bnd n := by
  unfold semBin at h
  split at h
  · rename_i ks ks'
    split at h
    · cases h
    rename_i hg
    have hg : P.eqGuardType P.depth t = false := by simpa using hg
    have main : ∀ ls, leafs P 10000 t = some ls → (∀ l : List Value, whole P t l = .agg l.toArray) → ∀ bs, eqAgg ls ks ks' = some bs →
        (Op.equalIn 10000 t (.agg (concs ρ ks).toArray) (.agg (concs ρ ks').toArray)).run P w = .ok (conj bs) w := by
      intro ls hl hw bs hb
      obtain ⟨b0, e0, e1⟩ := eqAgg_sound ρ hb
      have := equalIn_leafs w 10000 t ls hl _ _ _ e0
      rw [hw, hw] at this
      rw [this, e1, conj_all]
    have fin : ∀ ls, leafs P 10000 t = some ls → (∀ l : List Value, whole P t l = .agg l.toArray) → eqAns (eqAgg ls ks ks') op = some (ps, z) →
        (eqGuard op t xo yo (SA.conc ρ (.agg ks)) (SA.conc ρ (.agg ks')) >>= fun _ => binOp op t (SA.conc ρ (.agg ks)) (SA.conc ρ (.agg ks'))).run P w = .ok (z.conc ρ) w ∧ z.bnd n :=
      fun ls hl hw h => eqAns_sound h hg (main ls hl hw) n
    split at h
    · rename_i fs hu
      split at h
      · rename_i ls hl; exact fin ls hl (fun l => by simp [whole, hu]) h
      · cases h
    · rename_i m e hu
      split at h
      · rename_i ls hl; exact fin ls hl (fun l => by simp [whole, hu]) h
      · cases h
    · cases h
  · split at h
    case h_2 => cases h
    rename_i v v' hv hv'
    rw [asV_sound hv ρ, asV_sound hv' ρ]
    split at h
    · split at h
      · rename_i k a k' b _ hk
        subst hk
        simp only [Option.some.injEq, Prod.mk.injEq] at h
        obtain ⟨rfl, rfl⟩ := h
        refine ⟨?_, trivial⟩
        simp only [Sem.run_bind, run_eqGuard_ints, Result.andThen_ok]
        simp [binOp, Op.intDiv, hp.1, SA.conc, SC.conc]
      · cases h
    · split at h
      · rename_i k a k' b _ hk
        subst hk
        simp only [Option.some.injEq, Prod.mk.injEq] at h
        obtain ⟨rfl, rfl⟩ := h
        refine ⟨?_, trivial⟩
        simp only [Sem.run_bind, run_eqGuard_ints, Result.andThen_ok]
        simp [binOp, Op.intDiv, hp.1, SA.conc, SC.conc]
      · cases h
    · rename_i k a k' b _
      simp only [Option.some.injEq, Prod.mk.injEq] at h
      obtain ⟨rfl, rfl⟩ := h
      refine ⟨?_, trivial⟩
      have hb : ¬ b < 0 := by have := hp.1; omega
      simp only [Sem.run_bind, run_eqGuard_ints, Result.andThen_ok]
      simp [binOp, Op.shift, hb, SA.conc, SC.conc]
    · rename_i k a k' b _
      simp only [Option.some.injEq, Prod.mk.injEq] at h
      obtain ⟨rfl, rfl⟩ := h
      refine ⟨?_, trivial⟩
      have hb : ¬ b < 0 := by have := hp.1; omega
      simp only [Sem.run_bind, run_eqGuard_ints, Result.andThen_ok]
      simp [binOp, Op.shift, hb, SA.conc, SC.conc]
    · rename_i a b _
      simp only [Option.some.injEq, Prod.mk.injEq] at h
      obtain ⟨rfl, rfl⟩ := h
      refine ⟨?_, trivial⟩
      have hm : IntKind.i64.max = 9223372036854775807 := by decide
      have hb : ¬ ((a.size + b.size : Nat) : Int) > IntKind.i64.max := by have := hp.1; rw [hm]; omega
      have hq : (eqGuard .add t xo yo (.string a) (.string b)).run P w = .ok () w := by simp [eqGuard]
      simp only [Sem.run_bind, hq, Result.andThen_ok]
      simp only [binOp, Op.stringOp, if_neg hb, Sem.run_pure, SA.conc, SC.conc]
    · simp only [Option.map_eq_some_iff, Prod.mk.injEq] at h
      obtain ⟨r, hr, rfl, rfl⟩ := h
      exact ⟨by rw [evalS_sound w hr, ofV_conc], ofV_bnd _ _ _⟩

def semUn (P : Program) (op : UnOp) (x : SA) : VR :=
  match asV x with
  | some v => (evalS P (Op.unary op v)).map fun r => ([], ofV (isLit x) r)
  | none => none
theorem semUn_sound {P : Program} {op : UnOp} {x z : SA} {ps : List Prop} (h : semUn P op x = some (ps, z)) (ρ : Nat → Nat) (n : Nat → Prop) (w : World) :
    (Op.unary op (x.conc ρ)).run P w = .ok (z.conc ρ) w ∧ z.bnd n := by
  unfold semUn at h
  split at h
  · rename_i v hv
    simp only [Option.map_eq_some_iff, Prod.mk.injEq] at h
    obtain ⟨r, hr, rfl, rfl⟩ := h
    exact ⟨by rw [asV_sound hv, evalS_sound w hr, ofV_conc], ofV_bnd _ _ _⟩
  · cases h

def semConv (P : Program) (src dst : TypeId) (x : SA) : VR :=
  match asV x with
  | some v => (evalS P (convert src dst v)).map fun r => ([], ofV (isLit x) r)
  | none => none
theorem semConv_sound {P : Program} {src dst : TypeId} {x z : SA} {ps : List Prop} (h : semConv P src dst x = some (ps, z)) (ρ : Nat → Nat) (n : Nat → Prop) (w : World) :
    (convert src dst (x.conc ρ)).run P w = .ok (z.conc ρ) w ∧ z.bnd n := by
  unfold semConv at h
  split at h
  · rename_i v hv
    simp only [Option.map_eq_some_iff, Prod.mk.injEq] at h
    obtain ⟨r, hr, rfl, rfl⟩ := h
    exact ⟨by rw [asV_sound hv, evalS_sound w hr, ofV_conc], ofV_bnd _ _ _⟩
  · cases h

/-- A type's part of a row of cells. -/
def piece (P : Program) (t : TypeId) (ks : List SK) (off : Nat) : Option SA :=
  match P.underlying t with
  | some (.struct _) | some (.array _ _) => (sub ks off (P.cellsOf t)).map .agg
  | some _ =>
    match sub ks off 1 with
    | some [.c s] => some (.sc s)
    | some [.f k 1 g] => some (.sc (.val (.int k (g 0))))
    | _ => none
  | none => none
theorem piece_bnd {P : Program} {t : TypeId} {ks : List SK} {off : Nat} {n : Nat → Prop} {z : SA} (h : piece P t ks off = some z) (hb : ∀ k ∈ ks, k.bnd n) : z.bnd n := by
  rw [bnd_flat] at hb
  unfold piece at h
  split at h
  · obtain ⟨r, hr, rfl⟩ := Option.map_eq_some_iff.1 h; exact bnd_flat.2 (mem_sub hr hb)
  · obtain ⟨r, hr, rfl⟩ := Option.map_eq_some_iff.1 h; exact bnd_flat.2 (mem_sub hr hb)
  · split at h
    · rename_i s hs
      simp only [Option.some.injEq] at h; subst h
      exact mem_sub hs hb s (by simp [flat, SK.cells])
    · simp only [Option.some.injEq] at h; subst h; trivial
    · cases h
  · cases h
theorem info_of_underlying' {P : Program} {t : TypeId} {u : TypeDesc} (h : P.underlying t = some u) (w : World) : (sizeOf t).run P w = .ok (P.cellsOf t) w := by
  obtain ⟨i, hi⟩ := info_of_underlying h
  exact run_sizeOf w hi
theorem concs_sub {ks r : List SK} {off n : Nat} (h : sub ks off n = some r) (ρ : Nat → Nat) : off + n ≤ (concs ρ ks).length ∧ concs ρ r = ((concs ρ ks).drop off).take n := by
  obtain ⟨h1, h2⟩ := sub_flat h
  refine ⟨by simpa [concs] using h1, ?_⟩
  simp only [concs, h2, List.map_take, List.map_drop]
theorem piece_sound {P : Program} {t : TypeId} {ks : List SK} {off : Nat} {z : SA} (h : piece P t ks off = some z) (ρ : Nat → Nat) (w : World) :
    (part t (concs ρ ks).toArray off).run P w = .ok (z.conc ρ) w := by
  unfold piece at h
  have agg : ∀ u, P.underlying t = some u → isAggD u = true → (sub ks off (P.cellsOf t)).map SA.agg = some z →
      (part t (concs ρ ks).toArray off).run P w = .ok (z.conc ρ) w := by
    intro u hu hm h
    obtain ⟨r, hr, rfl⟩ := Option.map_eq_some_iff.1 h
    obtain ⟨h1, h2⟩ := concs_sub hr ρ
    simp only [part, Sem.run_bind, run_isAgg w t hu, hm, Result.andThen_ok, if_true, info_of_underlying' hu w, Sem.run_pure, SA.conc, h2]
    simp [List.take_drop]
  split at h
  · rename_i fs hu; exact agg _ hu rfl h
  · rename_i n e hu; exact agg _ hu rfl h
  · rename_i u hn1 hn2 hu
    split at h
    · rename_i s hs
      simp only [Option.some.injEq] at h; subst h
      obtain ⟨h1, h2⟩ := concs_sub hs ρ
      have hx : (concs ρ ks)[off]? = some (s.conc ρ) := by
        have : (concs ρ [SK.c s])[0]? = some (s.conc ρ) := rfl
        rw [h2] at this
        simpa using this
      have hm : isAggD u = false := by
        cases u <;> first | rfl | exact (hn1 _ rfl).elim | exact (hn2 _ _ rfl).elim
      simp only [part, Sem.run_bind, run_isAgg w t hu, hm, Result.andThen_ok, Bool.false_eq_true, if_false]
      simp [hx, SA.conc]
    · rename_i k g hs
      simp only [Option.some.injEq] at h; subst h
      obtain ⟨h1, h2⟩ := concs_sub hs ρ
      have hx : (concs ρ ks)[off]? = some (.int k (g 0)) := by
        have : (concs ρ [SK.f k 1 g])[0]? = some (.int k (g 0)) := rfl
        rw [h2] at this
        simpa using this
      have hm : isAggD u = false := by
        cases u <;> first | rfl | exact (hn1 _ rfl).elim | exact (hn2 _ _ rfl).elim
      simp only [part, Sem.run_bind, run_isAgg w t hu, hm, Result.andThen_ok, Bool.false_eq_true, if_false]
      simp [hx, SA.conc, SC.conc]
    · cases h
  · cases h

/-! ## One of a row of whole numbers -/

def kindOf : SK → Option IntKind
  | .c s => (asI (.sc s)).map (·.1)
  | .u _ => some .u64
  | .f k _ _ => some k
def kindAll (k : IntKind) : List SK → Bool
  | [] => true
  | x :: r => (kindOf x == some k) && kindAll k r
def intsC (s : SC) : Int := match asI (.sc s) with
  | some (_, n) => n
  | none => 0
def intsL : List SK → List Int
  | [] => []
  | .c s :: r => intsC s :: intsL r
  | .u n :: r => limb n 0 :: limb n 1 :: limb n 2 :: limb n 3 :: intsL r
  | .f _ n g :: r => (List.range n).map g ++ intsL r
theorem ints_conc (ρ : Nat → Nat) (k : IntKind) : ∀ {ks : List SK}, kindAll k ks = true → concs ρ ks = (intsL ks).map (Value.int k)
  | [], _ => rfl
  | x :: r, h => by
    simp only [kindAll, Bool.and_eq_true, beq_iff_eq] at h
    obtain ⟨h1, h2⟩ := h
    have ih := ints_conc ρ k h2
    simp only [concs] at ih
    cases x with
    | c s =>
      simp only [kindOf, Option.map_eq_some_iff] at h1
      obtain ⟨⟨k', n⟩, ha, rfl⟩ := h1
      have := asI_sound ha ρ
      simp only [SA.conc] at this
      simp [concs, flat, SK.cells, intsL, intsC, ha, this, ih]
    | u n =>
      simp only [kindOf, Option.some.injEq] at h1
      subst h1
      simp [concs, flat, SK.cells, intsL, SC.conc, ih]
    | f k' n g =>
      simp only [kindOf, Option.some.injEq] at h1
      subst h1
      simp [concs, flat, SK.cells, intsL, ih, Function.comp_def, SC.conc]
/-- All cells the same literal. -/
def sameLit : List SK → Option Int
  | [] => none
  | [.c (.num _ n)] => some n
  | .c (.num _ n) :: r => match sameLit r with
    | some m => if n = m then some n else none
    | none => none
  | _ => none
theorem sameLit_ints : ∀ {ks : List SK} {n : Int}, sameLit ks = some n → ∀ j, j < (intsL ks).length → (intsL ks).getD j 0 = n
  | [], n, h => by simp [sameLit] at h
  | [.c (.num k m)], n, h => by
    simp only [sameLit, Option.some.injEq] at h
    subst h
    intro j hj
    simp only [intsL, List.length_singleton] at hj
    have : j = 0 := by omega
    subst this
    rfl
  | .c (.num k m) :: y :: r, n, h => by
    simp only [sameLit] at h
    split at h
    · rename_i m' hm
      split at h
      · rename_i e
        subst e
        simp only [Option.some.injEq] at h
        subst h
        intro j hj
        cases j with
        | zero => rfl
        | succ j =>
          have := sameLit_ints hm j (by simp only [intsL, List.length_cons] at hj ⊢; omega)
          simpa [intsL] using this
      · cases h
    · cases h
  | .c (.bit _) :: r, n, h | .c (.val _) :: r, n, h | .c (.ptr _ _) :: r, n, h | .c (.pti ..) :: r, n, h | .c (.sl ..) :: r, n, h | .c (.sls ..) :: r, n, h | .c (.fn ..) :: r, n, h | .u _ :: r, n, h | .f .. :: r, n, h => by
    simp [sameLit] at h
def selG (ks : List SK) : Nat → Int :=
  match ks with
  | [.u n] => fun j => limb n j
  | [.f _ _ g] => g
  | ks => match sameLit ks with
    | some n => fun _ => n
    | none => fun j => (intsL ks).getD j 0
theorem selG_eq {ks : List SK} {j : Nat} (h : j < (intsL ks).length) : selG ks j = (intsL ks).getD j 0 := by
  unfold selG
  split
  · rename_i n
    simp only [intsL, List.length_cons, List.length_nil] at h
    match j, h with
    | 0, _ | 1, _ | 2, _ | 3, _ => rfl
  · rename_i k m g
    simp only [intsL, List.append_nil, List.length_map, List.length_range] at h
    simp [intsL, h]
  · cases hn : sameLit ks with
    | some n => exact (sameLit_ints hn j h).symm
    | none => rfl
theorem intsL_length (ks : List SK) (ρ : Nat → Nat) (k : IntKind) (h : kindAll k ks = true) : (intsL ks).length = (flat ks).length := by
  have := congrArg List.length (ints_conc ρ k h)
  simpa [concs] using this.symm
theorem selG_conc {ks : List SK} {k : IntKind} (h : kindAll k ks = true) (ρ : Nat → Nat) {j : Nat} (hj : j < (flat ks).length) : (concs ρ ks)[j]? = some (.int k (selG ks j)) := by
  have hl := intsL_length ks ρ k h
  have hj' : j < (intsL ks).length := by omega
  rw [ints_conc ρ k h, selG_eq hj', List.getElem?_map, List.getD_eq_getElem?_getD, List.getElem?_eq_getElem hj']
  rfl
def kindHead : List SK → Option IntKind
  | [] => none
  | x :: _ => kindOf x
/-- One of some cells, by a number that is told. -/
def semSel (ks : List SK) (base len : Nat) (i : Int) : VR :=
  match sub ks base len with
  | some cs => match kindHead cs with
    | some k => if kindAll k cs then some ([0 ≤ i ∧ i < (len : Int)], .sc (.val (.int k (selG cs i.toNat)))) else none
    | none => none
  | none => none
theorem semSel_sound {ks : List SK} {base len : Nat} {i : Int} {ps : List Prop} {z : SA} (h : semSel ks base len i = some (ps, z)) (hp : Ok ps) (ρ : Nat → Nat) :
    0 ≤ i ∧ i < len ∧ base + len ≤ (concs ρ ks).length ∧ (∃ k n, z = .sc (.val (.int k n))) ∧ (concs ρ ks)[base + i.toNat]? = some (z.conc ρ) := by
  unfold semSel at h
  split at h
  case h_2 => cases h
  rename_i cs hs
  split at h
  case h_2 => cases h
  rename_i k hk
  split at h
  case isFalse => cases h
  rename_i ha
  simp only [Option.some.injEq, Prod.mk.injEq] at h
  obtain ⟨rfl, rfl⟩ := h
  obtain ⟨⟨h0, h1⟩, _⟩ := hp
  obtain ⟨l1, l2⟩ := concs_sub hs ρ
  have hlen : (flat cs).length = len := by
    obtain ⟨a, b⟩ := sub_flat hs
    rw [b]; simp; omega
  have := selG_conc ha ρ (j := i.toNat) (by omega)
  rw [l2, List.getElem?_take, if_pos (by omega), List.getElem?_drop] at this
  exact ⟨h0, h1, l1, ⟨_, _, rfl⟩, this⟩

def isIntT (P : Program) (e : TypeId) : Bool :=
  match P.underlying e with
  | some (.int _) => true
  | _ => false
theorem isIntT_spec {P : Program} {e : TypeId} (h : isIntT P e = true) : ∃ u, P.underlying e = some u ∧ isAggD u = false := by
  unfold isIntT at h
  split at h
  · rename_i k hk; exact ⟨_, hk, rfl⟩
  · cases h
def semIndex (P : Program) (t : TypeId) (x i : SA) : VR :=
  match x, i with
  | .agg ks, .sc (.num _ n) =>
    match P.underlying t with
    | some (.array len e) => if 0 ≤ n ∧ n < len then (piece P e ks (n.toNat * P.cellsOf e)).map fun r => ([], r) else none
    | _ => none
  | .agg ks, .sc (.val (.int _ n)) =>
    match P.underlying t with
    | some (.array len e) => if P.cellsOf e = 1 ∧ isIntT P e = true then semSel ks 0 len n else none
    | _ => none
  | .sc (.val (.string s)), i =>
    match P.underlying t, asI i with
    | some .string, some (_, n) => some ([0 ≤ n ∧ n.toNat < s.size], .sc (.val (.int .u8 (s.data.getD n.toNat 0).toNat)))
    | _, _ => none
  | _, _ => none
theorem piece_info {P : Program} {t : TypeId} {ks : List SK} {off : Nat} {z : SA} (h : piece P t ks off = some z) : ∃ u, P.underlying t = some u := by
  unfold piece at h
  split at h
  · exact ⟨_, by assumption⟩
  · exact ⟨_, by assumption⟩
  · exact ⟨_, by assumption⟩
  · cases h
theorem semIndex_sound {P : Program} {t : TypeId} {x i z : SA} {ps : List Prop} (h : semIndex P t x i = some (ps, z)) (hp : Ok ps) (ρ : Nat → Nat) (n : Nat → Prop) (hb : x.bnd n) (w : World) :
    (Instr.index t (x.conc ρ) (i.conc ρ)).run P w = .ok (z.conc ρ) w ∧ z.bnd n := by
  unfold semIndex at h
  split at h
  · rename_i ks k m
    split at h
    · rename_i len e hu
      split at h
      · rename_i hm
        simp only [Option.map_eq_some_iff, Prod.mk.injEq] at h
        obtain ⟨r, hr, rfl, rfl⟩ := h
        refine ⟨?_, piece_bnd hr hb⟩
        obtain ⟨u, hue⟩ := piece_info hr
        simp only [Instr.index, SA.conc, SC.conc, asIntOf, Sem.run_bind, Sem.run_pure, Result.andThen_ok, run_underlying hu, Sem.run_ite, hm, and_self, if_true, info_of_underlying' hue w]
        exact piece_sound hr ρ w
      · cases h
    · cases h
  · rename_i ks k m
    split at h
    · rename_i len e hu
      split at h
      · rename_i hm
        obtain ⟨he, hk⟩ := hm
        obtain ⟨h0, h1, hl, ⟨k', n', rfl⟩, hc⟩ := semSel_sound h hp ρ
        refine ⟨?_, trivial⟩
        obtain ⟨u, hue, hagg⟩ := isIntT_spec hk
        rw [Nat.zero_add] at hc
        simp only [Instr.index, SA.conc, SC.conc, asIntOf, Sem.run_bind, Sem.run_pure, Result.andThen_ok, run_underlying hu, Sem.run_ite, h0, h1, and_self, if_true, info_of_underlying' hue w, he, Nat.mul_one]
        simp only [part, Sem.run_bind, run_isAgg w e hue, hagg, Result.andThen_ok, Bool.false_eq_true, if_false]
        simp [hc, SA.conc, SC.conc]
      · cases h
    · cases h
  · rename_i s
    split at h
    · rename_i k m hu hi
      simp only [Option.some.injEq, Prod.mk.injEq] at h
      obtain ⟨rfl, rfl⟩ := h
      refine ⟨?_, trivial⟩
      obtain ⟨⟨h0, h1⟩, _⟩ := hp
      have hs : s[m.toNat]? = some (s.data.getD m.toNat 0) := by
        have h2 : m.toNat < s.data.size := h1
        rw [getElem?_pos s m.toNat h1, Array.getD_eq_getD_getElem?, Array.getElem?_eq_getElem h2]
        rfl
      rw [asI_sound hi]
      simp only [Instr.index, SA.conc, SC.conc, asIntOf, Sem.run_bind, Sem.run_pure, Result.andThen_ok, run_underlying hu, h0, if_true, hs]
    · cases h
  · cases h

def semField (P : Program) (t : TypeId) (f : Nat) (x : SA) : VR :=
  match x, P.underlying t with
  | .agg ks, some (.struct fs) =>
    match fs[f]? with
    | some fd => (piece P fd.type ks fd.offset).map fun r => ([], r)
    | none => none
  | _, _ => none
theorem semField_sound {P : Program} {t : TypeId} {f : Nat} {x z : SA} {ps : List Prop} (h : semField P t f x = some (ps, z)) (ρ : Nat → Nat) (n : Nat → Prop) (hb : x.bnd n) (w : World) :
    (Instr.field t (x.conc ρ) f).run P w = .ok (z.conc ρ) w ∧ z.bnd n := by
  unfold semField at h
  split at h
  · rename_i ks fs hu
    split at h
    · rename_i fd hf
      simp only [Option.map_eq_some_iff, Prod.mk.injEq] at h
      obtain ⟨r, hr, rfl, rfl⟩ := h
      refine ⟨?_, piece_bnd hr hb⟩
      simp only [Instr.field, SA.conc, Sem.run_bind, run_underlying hu, Result.andThen_ok, hf, asAgg, Sem.run_pure]
      exact piece_sound hr ρ w
    · cases h
  · cases h

theorem add_addr (b off n : Nat) : (⟨b, off, none⟩ : Addr).add n = ⟨b, off + n, none⟩ := by
  unfold Addr.add; split <;> simp_all
def semIdxAddr (P : Program) (t : TypeId) (x i : SA) : VR :=
  match x, i, P.underlying t with
  | .sc (.ptr o off), .sc (.num _ n), some (.array len e) => if (0 ≤ n ∧ n < len) ∧ (P.info? e).isSome then some ([], .sc (.ptr o (off + n.toNat * P.cellsOf e))) else none
  | .sc (.ptr o off), .sc (.val (.int _ n)), some (.array len e) => if P.cellsOf e = 1 then some ([0 ≤ n ∧ n < (len : Int)], .sc (.pti o off len n)) else none
  | .sc (.sl o off len _), .sc (.num _ n), some (.slice e) => if (0 ≤ n ∧ n < len) ∧ (P.info? e).isSome then some ([], .sc (.ptr o (off + n.toNat * P.cellsOf e))) else none
  | .sc (.sl o off len _), .sc (.val (.int _ n)), some (.slice e) => if P.cellsOf e = 1 then some ([0 ≤ n ∧ n < (len : Int)], .sc (.pti o off len n)) else none
  | _, _, _ => none
theorem info_of_cells {P : Program} {e : TypeId} {n : Nat} (h : P.cellsOf e = n + 1) : ∃ i, P.info? e = some i := by
  unfold Program.cellsOf at h
  cases hi : P.info? e with
  | none => simp [hi] at h
  | some i => exact ⟨i, rfl⟩
theorem semIdxAddr_sound {P : Program} {t : TypeId} {x i z : SA} {ps : List Prop} (h : semIdxAddr P t x i = some (ps, z)) (hp : Ok ps) (ρ : Nat → Nat) (n : Nat → Prop) (hb : x.bnd n) (w : World) :
    (Instr.indexAt t (x.conc ρ) (i.conc ρ)).run P w = .ok (z.conc ρ) w ∧ z.bnd n := by
  unfold semIdxAddr at h
  split at h
  · rename_i o off k m len e hu
    split at h
    · rename_i hm
      obtain ⟨hm, hi⟩ := hm
      obtain ⟨i, hi⟩ := Option.isSome_iff_exists.1 hi
      simp only [Option.some.injEq, Prod.mk.injEq] at h
      obtain ⟨rfl, rfl⟩ := h
      refine ⟨?_, hb⟩
      simp only [Instr.indexAt, SA.conc, SC.conc, asIntOf, Sem.run_bind, Sem.run_pure, Result.andThen_ok, run_underlying hu, Instr.sureAddr, Sem.run_ite, hm, and_self, if_true, run_sizeOf w hi, add_addr]
    · cases h
  · rename_i o off k m len e hu
    split at h
    · rename_i he
      simp only [Option.some.injEq, Prod.mk.injEq] at h
      obtain ⟨rfl, rfl⟩ := h
      obtain ⟨hm, _⟩ := hp
      obtain ⟨i, hi⟩ := info_of_cells he
      refine ⟨?_, hb⟩
      simp only [Instr.indexAt, SA.conc, SC.conc, asIntOf, Sem.run_bind, Sem.run_pure, Result.andThen_ok, run_underlying hu, Instr.sureAddr, Sem.run_ite, hm, and_self, if_true, run_sizeOf w hi, add_addr, he, Nat.mul_one]
    · cases h
  · rename_i o off len cap k m e hu
    split at h
    · rename_i hm
      obtain ⟨hm, hi⟩ := hm
      obtain ⟨i, hi⟩ := Option.isSome_iff_exists.1 hi
      simp only [Option.some.injEq, Prod.mk.injEq] at h
      obtain ⟨rfl, rfl⟩ := h
      refine ⟨?_, hb⟩
      simp only [Instr.indexAt, SA.conc, SC.conc, asIntOf, Sem.run_bind, Sem.run_pure, Result.andThen_ok, run_underlying hu, Instr.sureAddr, Sem.run_ite, hm, and_self, if_true, run_sizeOf w hi, add_addr]
    · cases h
  · rename_i o off len cap k m e hu
    split at h
    · rename_i he
      simp only [Option.some.injEq, Prod.mk.injEq] at h
      obtain ⟨rfl, rfl⟩ := h
      obtain ⟨hm, _⟩ := hp
      obtain ⟨i, hi⟩ := info_of_cells he
      refine ⟨?_, hb⟩
      simp only [Instr.indexAt, SA.conc, SC.conc, asIntOf, Sem.run_bind, Sem.run_pure, Result.andThen_ok, run_underlying hu, Instr.sureAddr, Sem.run_ite, hm, and_self, if_true, run_sizeOf w hi, add_addr, he, Nat.mul_one]
    · cases h
  · cases h

def semFldAddr (P : Program) (t : TypeId) (f : Nat) (x : SA) : VR :=
  match x, P.underlying t with
  | .sc (.ptr o off), some (.struct fs) =>
    match fs[f]? with
    | some fd => if P.cellsOf fd.type ≠ 0 then some ([], .sc (.ptr o (off + fd.offset))) else none
    | none => none
  | _, _ => none
theorem semFldAddr_sound {P : Program} {t : TypeId} {f : Nat} {x z : SA} {ps : List Prop} (h : semFldAddr P t f x = some (ps, z)) (ρ : Nat → Nat) (n : Nat → Prop) (hb : x.bnd n) (w : World) :
    (Instr.fieldAt t (x.conc ρ) f).run P w = .ok (z.conc ρ) w ∧ z.bnd n := by
  unfold semFldAddr at h
  split at h
  · rename_i o off fs hu
    split at h
    · rename_i fd hf
      split at h
      · rename_i hs
        have hi : ∃ i, P.info? fd.type = some i := by
          unfold Program.cellsOf at hs
          cases hi : P.info? fd.type with
          | none => simp [hi] at hs
          | some i => exact ⟨i, rfl⟩
        obtain ⟨i, hi⟩ := hi
        simp only [Option.some.injEq, Prod.mk.injEq] at h
        obtain ⟨rfl, rfl⟩ := h
        refine ⟨?_, hb⟩
        simp only [Instr.fieldAt, SA.conc, SC.conc, Sem.run_bind, Sem.run_pure, Result.andThen_ok, run_underlying hu, hf, Instr.sureAddr, fieldPlace, run_sizeOf w hi, Sem.run_ite, hs, if_false, add_addr]
      · cases h
    · cases h
  · cases h

end Go.Sx
end

section
/-
  A calculus of symbolic states for walks over translated Go code, part 6: operations on memory, calls, one operation, a region.
-/
namespace Go.Sx
open Go.RowKit

/-! ## Memory -/

theorem ob_lt {ob : List SO} {i : Nat} {x : SO} (h : ob[i]? = some x) : i < ob.length := by
  rcases Nat.lt_or_ge i ob.length with k | k
  · exact k
  · rw [List.getElem?_eq_none k] at h; cases h
theorem heap_lt {w : World} {i : Nat} {x : Obj} (h : w.heap[i]? = some x) : i < w.heap.size := by
  rcases Nat.lt_or_ge i w.heap.size with k | k
  · exact k
  · rw [Array.getElem?_eq_none k] at h; cases h

/-- One more block, at a place where there is none. -/
def place (ob : List SO) (id : Nat) (x : SO) : Option (List SO) :=
  match ob[id]? with
  | none => if Nat.beq id ob.length then some (ob ++ [x]) else none
  | some .gone => some (ob.set id x)
  | some (.cells _ _ _) => none
  | some .dead => none
theorem place_get {ob ob' : List SO} {id : Nat} {x : SO} (h : place ob id x = some ob') : ¬ live ob id ∧ ob[id]? ≠ some .dead ∧ ob'[id]? = some x ∧ ∀ i, i ≠ id → ob'[i]? = ob[i]? := by
  unfold place at h
  split at h
  · rename_i hn
    split at h
    · rename_i he
      have he := Nat.eq_of_beq_eq_true he
      subst he
      simp only [Option.some.injEq] at h
      subst h
      refine ⟨fun ⟨e, ks, sp, hl⟩ => (by rw [hn] at hl; cases hl), by rw [hn]; simp, by simp, fun i hi => ?_⟩
      rcases Nat.lt_or_ge i ob.length with hl | hl
      · rw [List.getElem?_append_left hl]
      · rw [List.getElem?_eq_none hl, List.getElem?_eq_none (by simp; omega)]
    · cases h
  · rename_i hn
    simp only [Option.some.injEq] at h
    subst h
    refine ⟨fun ⟨e, ks, sp, hl⟩ => (by rw [hn] at hl; cases hl), by rw [hn]; simp, by simp [ob_lt hn], fun i hi => by rw [List.getElem?_set_ne (fun e => hi e.symm)]⟩
  · cases h
  · cases h
def grown (ρ : Nat → Nat) (n b : Nat) : Nat → Nat := fun i => if i = n then b else ρ i
theorem grown_agree (ρ : Nat → Nat) (id b : Nat) {ob : List SO} (h : ¬ live ob id) : Agree (live ob) ρ (grown ρ id b) := fun i hi => by
  have : i ≠ id := by rintro rfl; exact h hi
  simp only [grown, if_neg this]
theorem live_place {ob ob' : List SO} {id : Nat} {x : SO} (h : place ob id x = some ob') (i : Nat) (hi : live ob i) : live ob' i := by
  obtain ⟨h1, _, _, h3⟩ := place_get h
  obtain ⟨e, ks, sp, hi⟩ := hi
  have : i ≠ id := by rintro rfl; exact h1 ⟨e, ks, sp, hi⟩
  exact ⟨e, ks, sp, by rw [h3 i this]; exact hi⟩
theorem Mem.place {B : Nat} {ρ : Nat → Nat} {ob ob' : List SO} {w : World} (h : Mem B ρ ob w) (hB : B ≤ w.heap.size) {id : Nat} {e : TypeId} {ks : List SK} {rest : List Value} (hp : place ob id (.cells e ks rest.length) = some ob') (hb : ∀ k ∈ ks, k.bnd (live ob)) (hf : ∀ k ∈ ks, k.fit = true) :
    Mem B (grown ρ id w.heap.size) ob' (w.alloc (.cells (concs ρ ks ++ rest).toArray e)) := by
  obtain ⟨p1, _, p2, p3⟩ := place_get hp
  have hag := grown_agree ρ id w.heap.size p1
  have hnew : grown ρ id w.heap.size id = w.heap.size := by simp [grown]
  have old : ∀ i e' ks' sp', ob'[i]? = some (.cells e' ks' sp') → (i ≠ id ∧ ob[i]? = some (.cells e' ks' sp')) ∨ (i = id ∧ e' = e ∧ ks' = ks ∧ sp' = rest.length) := by
    intro i e' ks' sp' hi
    by_cases k : i = id
    · subst k
      rw [p2] at hi
      simp only [Option.some.injEq, SO.cells.injEq] at hi
      exact .inr ⟨rfl, hi.1.symm, hi.2.1.symm, hi.2.2.symm⟩
    · exact .inl ⟨k, by rw [← p3 i k]; exact hi⟩
  refine ⟨fun i e' ks' sp' hi => ?_, fun i j e1 k1 s1 e2 k2 s2 hi hj hij => ?_⟩
  · rcases old i e' ks' sp' hi with ⟨_, hi⟩ | ⟨rfl, rfl, rfl, rfl⟩
    · obtain ⟨h1, ⟨rs, hr, h2⟩, h3, h4⟩ := h.obj i e' ks' sp' hi
      rw [hag i ⟨_, _, _, hi⟩, hag.sks h3]
      refine ⟨h1, ⟨rs, hr, ?_⟩, fun k hk => SK.bnd_mono (live_place hp) (h3 k hk), h4⟩
      rw [Below.heap_alloc _ _ _ (heap_lt h2)]; exact h2
    · rw [hnew, hag.sks hb]
      refine ⟨hB, ⟨rest, rfl, ?_⟩, fun k hk => SK.bnd_mono (live_place hp) (hb k hk), hf⟩
      show (w.heap.push _)[w.heap.size]? = _
      simp
  · rcases old i e1 k1 s1 hi with ⟨_, hi1⟩ | ⟨hi1, _⟩ <;> rcases old j e2 k2 s2 hj with ⟨_, hj1⟩ | ⟨hj1, _⟩
    · rw [hag i ⟨_, _, _, hi1⟩, hag j ⟨_, _, _, hj1⟩] at hij; exact h.inj i j _ _ _ _ _ _ hi1 hj1 hij
    · subst hj1
      rw [hag i ⟨_, _, _, hi1⟩, hnew] at hij
      obtain ⟨_, ⟨_, _, h2⟩, _⟩ := h.obj i _ _ _ hi1
      have := heap_lt h2; omega
    · subst hi1
      rw [hag j ⟨_, _, _, hj1⟩, hnew] at hij
      obtain ⟨_, ⟨_, _, h2⟩, _⟩ := h.obj j _ _ _ hj1
      have := heap_lt h2; omega
    · rw [hi1, hj1]
theorem place_length {ob ob' : List SO} {id : Nat} {x : SO} (h : Sx.place ob id x = some ob') : ob.length ≤ ob'.length := by
  unfold Sx.place at h
  split at h
  · split at h
    · simp only [Option.some.injEq] at h; subst h; simp
    · cases h
  · simp only [Option.some.injEq] at h; subst h; simp
  · cases h
  · cases h
theorem Kept.place {Z : Base} {ρ : Nat → Nat} {ob ob' : List SO} (h : Kept Z ρ ob) {id b : Nat} {x : SO} (hp : Sx.place ob id x = some ob') : Kept Z (grown ρ id b) ob' := by
  obtain ⟨p1, p2, _, p4⟩ := place_get hp
  have hd : ∀ i : Nat, ob[i]? = some .dead → ob'[i]? = some .dead := fun i k => by
    have : i ≠ id := by rintro rfl; exact p2 k
    rw [p4 i this]; exact k
  refine ⟨fun i hi => ?_, fun i hi => hd i (h.2.1 i hi), Nat.le_trans h.2.2 (place_length hp)⟩
  rcases h.1 i hi with ⟨k1, k2⟩ | k
  · exact .inl ⟨live_place hp i k1, by rw [grown_agree ρ id b p1 i k1, k2]⟩
  · exact .inr (hd i k)

theorem Holds.placed {W0 : Base} {ρ : Nat → Nat} {tm : List SV} {ob ob' : List SO} {a : Act} {w : World} (h : Holds W0 ρ tm ob a w) {id : Nat} {e : TypeId} {ks : List SK} {rest : List Value} (hp : Sx.place ob id (.cells e ks rest.length) = some ob') (hb : ∀ k ∈ ks, k.bnd (live ob)) (hf : ∀ k ∈ ks, k.fit = true) :
    Holds W0 (grown ρ id w.heap.size) tm ob' a (w.alloc (.cells (concs ρ ks ++ rest).toArray e)) ∧ live ob' id ∧ grown ρ id w.heap.size id = w.heap.size := by
  obtain ⟨p1, _, p2, _⟩ := place_get hp
  have hag := grown_agree ρ id w.heap.size p1
  exact ⟨⟨h.size, fun t => hag.sv (h.bnd t) (h.rep t), fun t => SV.bnd_mono (live_place hp) (h.bnd t), h.defers, h.below.alloc h.below.size _, h.mem.place h.below.size hp hb hf, h.kept.place hp⟩, ⟨e, ks, _, p2⟩, by simp [grown]⟩
theorem Holds.place {W0 : Base} {ρ : Nat → Nat} {tm : List SV} {ob ob' : List SO} {a : Act} {w : World} (h : Holds W0 ρ tm ob a w) {id : Nat} {e : TypeId} {ks : List SK} (hp : Sx.place ob id (.cells e ks 0) = some ob') (hb : ∀ k ∈ ks, k.bnd (live ob)) (hf : ∀ k ∈ ks, k.fit = true) (dst : Option Tmp) :
    Holds W0 (grown ρ id w.heap.size) (Sx.put tm dst (.one (.sc (.ptr id 0)))) ob' (a.put dst (.pointer (some ⟨w.heap.size, 0, none⟩))) (w.alloc (.cells (concs ρ ks).toArray e)) := by
  obtain ⟨H, hl, hg⟩ := h.placed (rest := []) hp hb hf
  rw [List.append_nil] at H
  exact H.put dst (by simp [SV.rep, SA.conc, SC.conc, hg]) hl

/-- The type's zero, as cells. -/
def zeroKs (P : Program) (t : TypeId) : Option (List SK) :=
  match (P.info? t).bind (·.zero) with
  | some z => some (z.cells.toList.map litC)
  | none => none
theorem run_zero {P : Program} {t : TypeId} {ks : List SK} (h : zeroKs P t = some ks) (w : World) : ∃ z, (zeroValue t).run P w = .ok z w ∧ ∀ ρ, z.cells = (concs ρ ks).toArray := by
  unfold zeroKs at h
  split at h
  · rename_i z hz
    simp only [Option.some.injEq] at h
    subst h
    obtain ⟨i, hi, hz⟩ := Option.bind_eq_some_iff.1 hz
    refine ⟨z, ?_, fun ρ => by rw [litCs_conc]⟩
    simp [zeroValue, run_typeInfo w hi, hz]
  · cases h

def toKs : SA → List SK
  | .sc (.val (.agg cs)) => cs.toList.map litC
  | .sc c => [.c c]
  | .agg ks => ks
theorem toKs_conc (ρ : Nat → Nat) (x : SA) : (x.conc ρ).cells = (concs ρ (toKs x)).toArray := by
  cases x with
  | agg ks => simp [SA.conc, Value.cells, toKs]
  | sc c =>
    cases c with
    | val v => cases v <;> simp [SA.conc, SC.conc, Value.cells, toKs, concs, flat, SK.cells] ; rename_i cs; have := litCs_conc ρ cs.toList; simp only [concs] at this; rw [this]
    | _ => simp [SA.conc, SC.conc, Value.cells, toKs, concs, flat, SK.cells]
theorem toKs_bnd {n : Nat → Prop} {x : SA} (h : x.bnd n) : ∀ k ∈ toKs x, k.bnd n := by
  cases x with
  | agg ks => exact h
  | sc c =>
    cases c with
    | val v => cases v <;> simp only [toKs, List.mem_singleton, List.mem_map] <;> (try (rintro _ rfl; trivial)); rintro _ ⟨v, _, rfl⟩; exact litC_bnd n v
    | _ => simp only [toKs, List.mem_singleton]; rintro _ rfl; exact h

theorem oneCell_eq (v : Value) : oneCell v = v.oneCell' := by cases v <;> rfl
theorem concs_fit {ks : List SK} (h : ∀ k ∈ ks, k.fit = true) (ρ : Nat → Nat) : ∀ v ∈ concs ρ ks, v.oneCell' = true := by
  intro v hv
  simp only [concs, List.mem_map] at hv
  obtain ⟨c, hc, rfl⟩ := hv
  have := fit_flat.1 h c hc
  cases c with
  | val v => simp only [SC.fit, oneCell_eq] at this; exact this
  | _ => rfl

/-- The part of a row that begins as another one does. -/
theorem part_more {P : Program} {t : TypeId} {cs rest : List Value} {off : Nat} {z : Value} {w : World} (h : (part t cs.toArray off).run P w = .ok z w) (hl : isAggD ((P.underlying t).getD .invalid) = true → off + P.cellsOf t ≤ cs.length) :
    (part t (cs ++ rest).toArray off).run P w = .ok z w := by
  unfold part at *
  simp only [Sem.run_bind] at h ⊢
  cases hu : P.underlying t with
  | none => simp [isAgg, underlying, hu] at h
  | some u =>
    rw [run_isAgg w t hu] at h ⊢
    simp only [Result.andThen_ok] at h ⊢
    cases hagg : isAggD u with
    | true =>
      simp only [hagg, if_true, Sem.run_bind, info_of_underlying' hu w, Result.andThen_ok, Sem.run_pure] at h ⊢
      have hl := hl (by rw [hu]; exact hagg)
      rw [← h]
      congr 2
      apply Array.ext'
      simp only [Array.toList_extract, List.extract_eq_take_drop]
      rw [List.drop_append_of_le_length (by omega), List.take_append_of_le_length (by rw [List.length_drop]; omega)]
    | false =>
      simp only [hagg, Bool.false_eq_true, if_false] at h ⊢
      simp only [List.getElem?_toArray] at h ⊢
      cases hc : cs[off]? with
      | none => rw [hc] at h; simp at h
      | some v =>
        rw [hc] at h
        rw [List.getElem?_append_left (by rcases Nat.lt_or_ge off cs.length with k | k; exact k; rw [List.getElem?_eq_none k] at hc; cases hc), hc]
        exact h
def semLoad (P : Program) (ob : List SO) (t : TypeId) (x : SA) : VR :=
  match x with
  | .sc (.ptr o off) =>
    match ob[o]? with
    | some (.cells _ ks _) => (piece P t ks off).map fun z => ([], z)
    | _ => none
  | .sc (.pti o base len i) =>
    match ob[o]? with
    | some (.cells _ ks _) => if isIntT P t then semSel ks base len i else none
    | _ => none
  | _ => none
theorem run_loadVar_at {P : Program} {w : World} {b off : Nat} {t e : TypeId} {cs : List Value} (hb : w.heap[b]? = some (.cells cs.toArray e (0, 0))) {z : Value} (h : (part t cs.toArray off).run P w = .ok z w) (hl : off + P.cellsOf t ≤ cs.length) :
    (loadVar t ⟨b, off, none⟩).run P w = .ok z w := by
  unfold loadVar part at *
  simp only [Sem.run_bind] at h ⊢
  cases hg : (isAgg t).run P w with
  | halt x w1 => rw [hg] at h; simp at h
  | ok g w1 =>
    have hw : w1 = w := by
      unfold isAgg at hg
      simp only [Sem.run_bind] at hg
      cases hu : P.underlying t with
      | none => simp [underlying, hu] at hg
      | some u => rw [run_underlying hu] at hg; cases u <;> simp at hg <;> exact hg.2.symm
    subst hw
    rw [hg] at h
    simp only [Result.andThen_ok] at h ⊢
    cases g with
    | false =>
      simp only [Bool.false_eq_true, if_false] at h ⊢
      rw [run_load]
      simp only [World.cell?, hb]
      cases hc : cs.toArray[off]? with
      | none => rw [hc] at h; simp at h
      | some v => rw [hc] at h; simp at h; simp [h]
    | true =>
      simp only [if_true, Sem.run_bind] at h ⊢
      cases hs : (sizeOf t).run P w1 with
      | halt x w2 => rw [hs] at h; simp at h
      | ok n w2 =>
        have hn : n = P.cellsOf t ∧ w2 = w1 := by
          unfold sizeOf typeInfo at hs
          simp only [Sem.run_bind, run_program, Result.andThen_ok] at hs
          cases hi : P.info? t with
          | none => simp [hi] at hs
          | some i => simp [hi] at hs; exact ⟨by simp [Program.cellsOf, hi, hs.1], hs.2.symm⟩
        obtain ⟨rfl, rfl⟩ := hn
        rw [hs] at h
        simp only [Result.andThen_ok, Sem.run_pure] at h ⊢
        have hlen : ((cs.drop off).take (P.cellsOf t)).length = P.cellsOf t := by simp; omega
        have := run_loadCells_list (P := P) w2 ⟨b, off, none⟩ ((cs.drop off).take (P.cellsOf t)) (fun j v hj => by
          have hj' := hj
          rw [List.getElem?_take] at hj
          split at hj
          · rw [List.getElem?_drop] at hj
            simp only [add_addr, World.cell?, hb]
            simpa using hj
          · cases hj)
        rw [hlen] at this
        rw [this]
        simp only [Result.andThen_ok]
        rw [← h]
        simp [List.take_drop]
theorem piece_len {P : Program} {t : TypeId} {ks : List SK} {off : Nat} {z : SA} (h : piece P t ks off = some z) (ρ : Nat → Nat) : isAggD ((P.underlying t).getD .invalid) = true → off + P.cellsOf t ≤ (concs ρ ks).length := by
  intro hagg
  unfold piece at h
  split at h
  · obtain ⟨r, hr, rfl⟩ := Option.map_eq_some_iff.1 h; exact (concs_sub hr ρ).1
  · obtain ⟨r, hr, rfl⟩ := Option.map_eq_some_iff.1 h; exact (concs_sub hr ρ).1
  · rename_i u h1 h2 hu
    rw [hu] at hagg
    cases u <;> simp [isAggD] at hagg
    · exact (h2 _ _ rfl).elim
    · exact (h1 _ rfl).elim
  · cases h
theorem run_loadVar_one {P : Program} {w : World} {b off : Nat} {t e : TypeId} {cs : List Value} {u : TypeDesc} (hu : P.underlying t = some u) (hagg : isAggD u = false) (hb : w.heap[b]? = some (.cells cs.toArray e (0, 0))) {z : Value} (h : cs[off]? = some z) :
    (loadVar t ⟨b, off, none⟩).run P w = .ok z w := by
  unfold loadVar
  simp only [Sem.run_bind, run_isAgg w t hu, hagg, Result.andThen_ok, Bool.false_eq_true, if_false]
  rw [run_load]
  simp only [World.cell?, hb]
  have : cs.toArray[off]? = some z := by simpa using h
  simp [this]
theorem semLoad_sound {P : Program} {W0 : Base} {ρ : Nat → Nat} {tm : List SV} {ob : List SO} {a : Act} {w : World} (H : Holds W0 ρ tm ob a w) {t : TypeId} {x z : SA} {ps : List Prop} (h : semLoad P ob t x = some (ps, z)) (hp : Ok ps) :
    (Instr.loadAt t (x.conc ρ)).run P w = .ok (z.conc ρ) w ∧ z.bnd (live ob) := by
  unfold semLoad at h
  split at h
  · rename_i o off
    split at h
    · rename_i e ks sp ho
      obtain ⟨z', h', he⟩ := Option.map_eq_some_iff.1 h
      simp only [Prod.mk.injEq] at he
      obtain ⟨rfl, rfl⟩ := he
      clear h
      have h := h'
      obtain ⟨h1, ⟨rest, _, h2⟩, h3, h4⟩ := H.mem.obj o e ks sp ho
      refine ⟨?_, piece_bnd h h3⟩
      have hp := piece_sound h ρ w
      rw [show SA.conc ρ (.sc (.ptr o off)) = .pointer (some ⟨ρ o, off, none⟩) from rfl]
      simp only [Instr.loadAt, Instr.sureAddr, Sem.run_bind, Sem.run_pure, Result.andThen_ok]
      obtain ⟨u, hu⟩ := piece_info h
      have hp := part_more (rest := rest) hp (piece_len h ρ)
      by_cases hagg : isAggD u = true
      · exact run_loadVar_at h2 hp (by have := piece_len h ρ (by rw [hu]; exact hagg); rw [List.length_append]; omega)
      · have hagg : isAggD u = false := by simpa using hagg
        unfold part at hp
        simp only [Sem.run_bind, run_isAgg w t hu, hagg, Result.andThen_ok, Bool.false_eq_true, if_false, List.getElem?_toArray] at hp
        cases hc : (concs ρ ks ++ rest)[off]? with
        | none => rw [hc] at hp; simp at hp
        | some v =>
          rw [hc] at hp
          simp at hp
          exact run_loadVar_one hu hagg h2 (by rw [hc, hp])
    · cases h
  · rename_i o base len i
    split at h
    · rename_i e ks sp ho
      split at h
      · rename_i hi
        obtain ⟨u, hue, hagg⟩ := isIntT_spec hi
        obtain ⟨h1, ⟨rest, _, h2⟩, h3, h4⟩ := H.mem.obj o e ks sp ho
        obtain ⟨h0, h1', hl, ⟨k', n', rfl⟩, hc⟩ := semSel_sound h hp ρ
        refine ⟨?_, trivial⟩
        rw [show SA.conc ρ (.sc (.pti o base len i)) = .pointer (some ⟨ρ o, base + i.toNat, none⟩) from rfl]
        simp only [Instr.loadAt, Instr.sureAddr, Sem.run_bind, Sem.run_pure, Result.andThen_ok]
        exact run_loadVar_one hue hagg h2 (by rw [List.getElem?_append_left (by omega)]; exact hc)
      · cases h
    · cases h
  · cases h

/-- One of some cells, written anew. -/
def semSet (ks : List SK) (base len : Nat) (i : Int) (k : IntKind) (v : Int) : Option (List SK) :=
  match sub ks base len with
  | some cs => if kindAll k cs then lay ks base [.f k len (fun j => if j = i.toNat then v else selG cs j)] else none
  | none => none
theorem semSet_sound {ks r : List SK} {base len : Nat} {i : Int} {k : IntKind} {v : Int} (h : semSet ks base len i k v = some r) (h0 : 0 ≤ i) (h1 : i < len) (ρ : Nat → Nat) :
    base + len ≤ (concs ρ ks).length ∧ concs ρ r = (concs ρ ks).set (base + i.toNat) (.int k v) := by
  unfold semSet at h
  split at h
  case h_2 => cases h
  rename_i cs hs
  split at h
  case isFalse => cases h
  rename_i ha
  obtain ⟨l1, l2⟩ := lay_flat h
  obtain ⟨s1, s2⟩ := concs_sub hs ρ
  have hlen : (flat cs).length = len := by
    obtain ⟨a, b⟩ := sub_flat hs
    rw [b]; simp; omega
  have hf : ∀ g, flat [SK.f k len g] = (List.range len).map fun j => .val (.int k (g j)) := fun g => by simp [flat, SK.cells]
  have hfl : ∀ g, (flat [SK.f k len g]).length = len := fun g => by rw [hf]; simp
  refine ⟨s1, ?_⟩
  simp only [concs, l2, List.map_append, List.map_take, List.map_drop, hfl]
  have hks : ∀ j, j < len → ((flat ks).map (SC.conc ρ))[base + j]? = some (.int k (selG cs j)) := by
    intro j hj
    have := selG_conc ha ρ (j := j) (by omega)
    rw [s2, List.getElem?_take, if_pos hj, List.getElem?_drop] at this
    exact this
  have hL : base + len ≤ ((flat ks).map (SC.conc ρ)).length := s1
  rw [hf]
  generalize (flat ks).map (SC.conc ρ) = L at hks hL
  apply List.ext_getElem?
  intro m
  simp only [List.getElem?_append, List.length_append, List.length_take, List.getElem?_take, List.getElem?_set, List.getElem?_drop, List.length_map, List.length_range, List.map_map, Nat.min_eq_left (show base ≤ L.length by omega)]
  by_cases c1 : m < base
  · simp [show m < base + len by omega, c1, show base + i.toNat ≠ m by omega]
  · by_cases c2 : m < base + len
    · simp only [c1, c2, if_true, if_false, List.getElem?_map, List.getElem?_range (show m - base < len by omega), Option.map_some, Function.comp_apply, SC.conc]
      by_cases c3 : base + i.toNat = m
      · subst c3
        simp [show base + i.toNat < L.length by omega]
      · rw [if_neg (show ¬ (m - base = i.toNat) by omega), if_neg c3]
        have := hks (m - base) (by omega)
        rw [show base + (m - base) = m by omega] at this
        exact this.symm
    · simp only [c1, c2, if_false, if_neg (show ¬ (base + i.toNat = m) by omega)]
      congr 1
      omega
theorem semSet_bnd {ks r : List SK} {base len : Nat} {i : Int} {k : IntKind} {v : Int} (h : semSet ks base len i k v = some r) {n : Nat → Prop} (hb : ∀ x ∈ ks, x.bnd n) : ∀ x ∈ r, x.bnd n := by
  unfold semSet at h
  split at h
  case h_2 => cases h
  split at h
  case isFalse => cases h
  obtain ⟨l1, l2⟩ := lay_flat h
  rw [bnd_flat, l2]
  rw [bnd_flat] at hb
  intro c hc
  simp only [List.mem_append] at hc
  rcases hc with (hc | hc) | hc
  · exact hb c (List.mem_of_mem_take hc)
  · simp only [flat, SK.cells, List.append_nil, List.mem_map] at hc
    obtain ⟨j, _, rfl⟩ := hc; trivial
  · exact hb c (List.mem_of_mem_drop hc)
theorem semSet_fit {ks r : List SK} {base len : Nat} {i : Int} {k : IntKind} {v : Int} (h : semSet ks base len i k v = some r) (hb : ∀ x ∈ ks, x.fit = true) : ∀ x ∈ r, x.fit = true := by
  unfold semSet at h
  split at h
  case h_2 => cases h
  split at h
  case isFalse => cases h
  obtain ⟨l1, l2⟩ := lay_flat h
  rw [fit_flat, l2]
  rw [fit_flat] at hb
  intro c hc
  simp only [List.mem_append] at hc
  rcases hc with (hc | hc) | hc
  · exact hb c (List.mem_of_mem_take hc)
  · simp only [flat, SK.cells, List.append_nil, List.mem_map] at hc
    obtain ⟨j, _, rfl⟩ := hc; rfl
  · exact hb c (List.mem_of_mem_drop hc)

/-- A block's cells, turned. -/
theorem Holds.turned {W0 : Base} {ρ : Nat → Nat} {tm : List SV} {ob : List SO} {a : Act} {w : World} (H : Holds W0 ρ tm ob a w) {o : Nat} {e : TypeId} {ks r : List SK} {sp : Nat} {rest : List Value} (ho : ob[o]? = some (.cells e ks sp)) (hrest : rest.length = sp)
    (h2 : w.heap[ρ o]? = some (.cells (concs ρ ks ++ rest).toArray e (0, 0))) (hbr : ∀ k ∈ r, k.bnd (live ob)) (hfr : ∀ k ∈ r, k.fit = true) :
    Holds W0 ρ tm (ob.set o (.cells e r sp)) a (w.setRow (ρ o) (concs ρ r ++ rest).toArray) := by
  have olt := ob_lt ho
  have h1 := (H.mem.obj o e ks sp ho).1
  have hlive : ∀ i, live ob i → live (ob.set o (SO.cells e r sp)) i := by
    rintro i ⟨e', ks', sp', hi⟩
    by_cases k : o = i
    · subst k; exact ⟨e, r, sp, by simp [olt]⟩
    · exact ⟨e', ks', sp', by rw [List.getElem?_set_ne k]; exact hi⟩
  have hdead : ∀ i : Nat, ob[i]? = some .dead → (ob.set o (SO.cells e r sp))[i]? = some .dead := fun i k => by
    have : o ≠ i := by rintro rfl; rw [ho] at k; cases k
    rw [List.getElem?_set_ne this]; exact k
  refine ⟨H.size, H.rep, fun t => SV.bnd_mono hlive (H.bnd t), H.defers, below_setRow H.below h1 _, ⟨fun j e' ks' sp' hj => ?_, fun j k e1 k1 s1 e2 k2 s2 hj hk hjk => ?_⟩, fun i hi => ?_, fun i hi => hdead i (H.kept.2.1 i hi), by simpa using H.kept.2.2⟩
  · rw [List.getElem?_set] at hj
    split at hj
    · rename_i hoj
      subst hoj
      simp only [Option.some.injEq, SO.cells.injEq] at hj
      obtain ⟨rfl, rfl, rfl⟩ := hj
      exact ⟨h1, ⟨rest, hrest, setRow_heap w _ _ _ _ _ h2⟩, fun k hk => SK.bnd_mono hlive (hbr k hk), hfr⟩
    · rename_i hne
      obtain ⟨a1, ⟨rs, hr, a2⟩, a3, a4⟩ := H.mem.obj j e' ks' sp' hj
      refine ⟨a1, ⟨rs, hr, ?_⟩, fun k hk => SK.bnd_mono hlive (a3 k hk), a4⟩
      rw [setRow_other _ _ _ _ (fun e => hne (H.mem.inj _ _ _ _ _ _ _ _ ho hj e.symm))]
      exact a2
  · have alive : ∀ (j : Nat) e' ks' sp', (ob.set o (SO.cells e r sp))[j]? = some (SO.cells e' ks' sp') → ∃ e'' ks'' sp'', ob[j]? = some (SO.cells e'' ks'' sp'') := by
      intro j e' ks' sp' hj
      rw [List.getElem?_set] at hj
      split at hj
      · rename_i hoj; subst hoj; exact ⟨_, _, _, ho⟩
      · exact ⟨_, _, _, hj⟩
    obtain ⟨_, _, _, hj'⟩ := alive j _ _ _ hj
    obtain ⟨_, _, _, hk'⟩ := alive k _ _ _ hk
    exact H.mem.inj _ _ _ _ _ _ _ _ hj' hk' hjk
  · rcases H.kept.1 i hi with ⟨k1, k2⟩ | k
    · exact .inl ⟨hlive i k1, k2⟩
    · exact .inr (hdead i k)

def semStore (P : Program) (ob : List SO) (t : TypeId) (x y : SA) : Option (List Prop × List SO) :=
  match x with
  | .sc (.ptr o off) =>
    match ob[o]? with
    | some (.cells e ks sp) =>
      if (P.info? t).map (·.size) = some (flat (toKs y)).length ∧ (toKs y).all SK.fit = true then (lay ks off (toKs y)).map fun r => ([], ob.set o (.cells e r sp)) else none
    | _ => none
  | .sc (.pti o base len i) =>
    match ob[o]?, asI y with
    | some (.cells e ks sp), some (k, v) =>
      if (P.info? t).map (·.size) = some 1 then (semSet ks base len i k v).map fun r => ([0 ≤ i ∧ i < (len : Int)], ob.set o (.cells e r sp)) else none
    | _, _ => none
  | _ => none
theorem run_storeVar_at {P : Program} {w : World} {b off : Nat} {t e : TypeId} {row new : List Value} {i : TypeInfo} (hi : P.info? t = some i) {v : Value} (hv : v.cells = new.toArray) (hsz : i.size = new.length)
    (hb : w.heap[b]? = some (.cells row.toArray e (0, 0))) (hl : off + new.length ≤ row.length) (hf : ∀ x ∈ new, x.oneCell' = true) :
    (storeVar t ⟨b, off, none⟩ v).run P w = .ok () (w.setRow b (row.take off ++ new ++ row.drop (off + new.length)).toArray) := by
  have hst := run_storeCells_at (P := P) b off e new 0 row.toArray w hb (by simpa using hl) hf
  simp only [storeVar, Sem.run_bind, run_sizeOf w hi, Result.andThen_ok]
  have : ¬ new.toArray.size ≠ P.cellsOf t := by simp [Program.cellsOf, hi, hsz]
  simp only [Sem.run_ite, hv]
  rw [if_neg this]
  simpa using hst
theorem semStore_sound {P : Program} {W0 : Base} {ρ : Nat → Nat} {tm : List SV} {ob ob' : List SO} {a : Act} {w : World} (H : Holds W0 ρ tm ob a w) {t : TypeId} {x y : SA} (hb : y.bnd (live ob)) {ps : List Prop} (h : semStore P ob t x y = some (ps, ob')) (hp : Ok ps) :
    ∃ w', (Instr.storeAt t (x.conc ρ) (y.conc ρ)).run P w = .ok () w' ∧ Holds W0 ρ tm ob' a w' := by
  unfold semStore at h
  split at h
  · rename_i o off
    split at h
    · rename_i e ks sp ho
      split at h
      · rename_i hc
        obtain ⟨hs, hf⟩ := hc
        obtain ⟨r, hr, he⟩ := Option.map_eq_some_iff.1 h
        simp only [Prod.mk.injEq] at he
        obtain ⟨rfl, rfl⟩ := he
        obtain ⟨h1, ⟨rest, hrest, h2⟩, h3, h4⟩ := H.mem.obj o e ks sp ho
        obtain ⟨l1, l2⟩ := lay_flat hr
        have hf' : ∀ k ∈ toKs y, k.fit = true := fun k hk => List.all_eq_true.1 hf k hk
        have hlen : (concs ρ (toKs y)).length = (flat (toKs y)).length := by simp [concs]
        have hkl : (concs ρ ks).length = (flat ks).length := by simp [concs]
        obtain ⟨i, hi⟩ : ∃ i, P.info? t = some i := by
          cases hi : P.info? t with
          | none => simp [hi] at hs
          | some i => exact ⟨i, rfl⟩
        have hsz : i.size = (flat (toKs y)).length := by simpa [hi] using hs
        have hst := run_storeVar_at (off := off) hi (toKs_conc ρ y) (by rw [hsz, hlen]) h2 (by rw [List.length_append]; omega) (concs_fit hf' ρ)
        have hnew : (concs ρ ks ++ rest).take off ++ concs ρ (toKs y) ++ (concs ρ ks ++ rest).drop (off + (concs ρ (toKs y)).length) = concs ρ r ++ rest := by
          rw [List.take_append_of_le_length (by omega), List.drop_append_of_le_length (by omega), hlen]
          simp only [concs, l2, List.map_append, List.map_take, List.map_drop, List.append_assoc]
        rw [hnew] at hst
        refine ⟨_, ?_, H.turned ho hrest h2 ?_ ?_⟩
        · rw [show SA.conc ρ (.sc (.ptr o off)) = .pointer (some ⟨ρ o, off, none⟩) from rfl]
          simp only [Instr.storeAt, Instr.sureAddr, Sem.run_bind, Sem.run_pure, Result.andThen_ok]
          exact hst
        · rw [bnd_flat, l2]
          intro c hc
          simp only [List.mem_append] at hc
          rcases hc with (hc | hc) | hc
          · exact bnd_flat.1 h3 c (List.mem_of_mem_take hc)
          · exact bnd_flat.1 (toKs_bnd hb) c hc
          · exact bnd_flat.1 h3 c (List.mem_of_mem_drop hc)
        · rw [fit_flat, l2]
          intro c hc
          simp only [List.mem_append] at hc
          rcases hc with (hc | hc) | hc
          · exact fit_flat.1 h4 c (List.mem_of_mem_take hc)
          · exact fit_flat.1 hf' c hc
          · exact fit_flat.1 h4 c (List.mem_of_mem_drop hc)
      · cases h
    · cases h
  · rename_i o base len i
    split at h
    · rename_i e ks sp k v ho hv
      split at h
      · rename_i hs
        obtain ⟨r, hr, he⟩ := Option.map_eq_some_iff.1 h
        simp only [Prod.mk.injEq] at he
        obtain ⟨rfl, rfl⟩ := he
        obtain ⟨⟨g0, g1⟩, _⟩ := hp
        obtain ⟨h1, ⟨rest, hrest, h2⟩, h3, h4⟩ := H.mem.obj o e ks sp ho
        obtain ⟨r1, r2⟩ := semSet_sound hr g0 g1 ρ
        obtain ⟨i', hi⟩ : ∃ i, P.info? t = some i := by
          cases hi : P.info? t with
          | none => simp [hi] at hs
          | some i => exact ⟨i, rfl⟩
        have hsz : i'.size = 1 := by simpa [hi] using hs
        have hst := run_storeVar_at (off := base + i.toNat) (new := [.int k v]) (v := .int k v) hi rfl hsz h2 (by rw [List.length_append, List.length_singleton]; omega) (by simp [Value.oneCell'])
        have hnew : (concs ρ ks ++ rest).take (base + i.toNat) ++ [.int k v] ++ (concs ρ ks ++ rest).drop (base + i.toNat + [Value.int k v].length) = concs ρ r ++ rest := by
          rw [List.take_append_of_le_length (by omega), List.drop_append_of_le_length (by rw [List.length_singleton]; omega), r2, List.length_singleton, ← List.append_assoc]
          congr 1
          rw [List.set_eq_take_append_cons_drop, if_pos (by omega)]
          simp
        rw [hnew] at hst
        refine ⟨_, ?_, H.turned ho hrest h2 (semSet_bnd hr h3) (semSet_fit hr h4)⟩
        rw [show SA.conc ρ (.sc (.pti o base len i)) = .pointer (some ⟨ρ o, base + i.toNat, none⟩) from rfl, asI_sound hv ρ]
        simp only [Instr.storeAt, Instr.sureAddr, Sem.run_bind, Sem.run_pure, Result.andThen_ok]
        exact hst
      · cases h
    · cases h
  · cases h

end Go.Sx
end
