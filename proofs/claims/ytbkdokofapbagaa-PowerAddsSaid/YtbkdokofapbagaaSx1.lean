/-
  A calculus of symbolic states for walks over translated Go code, part 1: what a symbolic value and a symbolic state stand for.
-/
import Derived.WalkKit
namespace Go.Sx
open Go.RowKit

/-- What 2^256 is. -/
def M256 : Nat := 2 ^ 256
/-- Part i of a number, of 64 bits. -/
def limb (n i : Nat) : Int := ((n / 2 ^ (64 * i) % 2 ^ 64 : Nat) : Int)
/-- A number of 256 bits as the model holds it. -/
def U (n : Nat) : Value := .agg #[.int .u64 (limb n 0), .int .u64 (limb n 1), .int .u64 (limb n 2), .int .u64 (limb n 3)]

/-- What a function value has caught: a value, or an address in memory of the call's own. -/
inductive PV where
  | v (v : Value)
  | p (o off : Nat)

/-- One cell: a literal, a value of no known shape, an address in memory of the call's own; there, too: one of a row of cells, by a number; a slice, one with ends that numbers tell; a function value. -/
inductive SC where
  | num (k : IntKind) (n : Int)
  | bit (b : Bool)
  | val (v : Value)
  | ptr (o off : Nat)
  | pti (o base len : Nat) (i : Int)
  | sl (o off len cap : Nat)
  | sls (o base lo hi cap : Nat)
  | fn (f : Nat) (caps : List PV)

/-- Some cells in a row: one, the four of a number, some that a function tells. -/
inductive SK where
  | c (s : SC)
  | u (n : Nat)
  | f (k : IntKind) (n : Nat) (g : Nat → Int)

/-- A value that is one cell or a row of them. -/
inductive SA where
  | sc (c : SC)
  | agg (ks : List SK)

/-- What a slot holds. -/
inductive SV where
  | any
  | one (x : SA)
  | tup (xs : List SA)
  | gd (g : Bool) (x : SA)

/-- A block of memory of the call's own. -/
inductive SO where
  | cells (e : TypeId) (ks : List SK) (sp : Nat)
  | gone
  | dead

def SK.cells : SK → List SC
  | .c s => [s]
  | .u n => [.val (.int .u64 (limb n 0)), .val (.int .u64 (limb n 1)), .val (.int .u64 (limb n 2)), .val (.int .u64 (limb n 3))]
  | .f k n g => (List.range n).map fun j => .val (.int k (g j))

def flat : List SK → List SC
  | [] => []
  | k :: r => k.cells ++ flat r

def PV.conc (ρ : Nat → Nat) : PV → Value
  | .v x => x
  | .p o off => .pointer (some ⟨ρ o, off, none⟩)
def SC.conc (ρ : Nat → Nat) : SC → Value
  | .num k n => .int k n
  | .bit b => .bool b
  | .val v => v
  | .ptr o off => .pointer (some ⟨ρ o, off, none⟩)
  | .pti o base _ i => .pointer (some ⟨ρ o, base + i.toNat, none⟩)
  | .sl o off len cap => .slice (some ⟨ρ o, off, none⟩) len cap
  | .sls o base lo hi cap => .slice (some ⟨ρ o, base + lo, none⟩) (hi - lo) cap
  | .fn f caps => .func (.func f) #[] (caps.map (PV.conc ρ)).toArray

def concs (ρ : Nat → Nat) (ks : List SK) : List Value := (flat ks).map (SC.conc ρ)

def SA.conc (ρ : Nat → Nat) : SA → Value
  | .sc c => c.conc ρ
  | .agg ks => .agg (concs ρ ks).toArray

def SV.rep (ρ : Nat → Nat) : SV → Value → Prop
  | .any, _ => True
  | .one x, v => v = x.conc ρ
  | .tup xs, v => v = .tuple (xs.map (SA.conc ρ)).toArray
  | .gd g x, v => v = if g then x.conc ρ else undef

def PV.bnd (n : Nat → Prop) : PV → Prop
  | .v _ => True
  | .p o _ => n o
def SC.bnd (n : Nat → Prop) : SC → Prop
  | .ptr o _ | .pti o _ _ _ | .sl o _ _ _ | .sls o _ _ _ _ => n o
  | .fn _ caps => ∀ c ∈ caps, c.bnd n
  | .num _ _ | .bit _ | .val _ => True
def SK.bnd (n : Nat → Prop) : SK → Prop
  | .c s => s.bnd n
  | .u _ | .f _ _ _ => True
def SA.bnd (n : Nat → Prop) : SA → Prop
  | .sc c => c.bnd n
  | .agg ks => ∀ k ∈ ks, k.bnd n
def SV.bnd (n : Nat → Prop) : SV → Prop
  | .any => True
  | .one x => x.bnd n
  | .tup xs => ∀ x ∈ xs, x.bnd n
  | .gd g x => g = true → x.bnd n

/-- May it lie in a cell? -/
def oneCell : Value → Bool
  | .agg _ | .tuple _ => false
  | _ => true
def SC.fit : SC → Bool
  | .val v => oneCell v
  | _ => true
def SK.fit : SK → Bool
  | .c s => s.fit
  | .u _ | .f _ _ _ => true

theorem PV.bnd_mono {n m : Nat → Prop} (h : ∀ i, n i → m i) : ∀ {c : PV}, c.bnd n → c.bnd m
  | .v _, _ => trivial
  | .p o _, k => h o k
theorem SC.bnd_mono {n m : Nat → Prop} (h : ∀ i, n i → m i) : ∀ {c : SC}, c.bnd n → c.bnd m
  | .ptr o _, k | .pti o _ _ _, k | .sl o _ _ _, k | .sls o _ _ _ _, k => h o k
  | .fn _ _, k => fun c hc => PV.bnd_mono h (k c hc)
  | .num _ _, _ | .bit _, _ | .val _, _ => trivial
theorem SK.bnd_mono {n m : Nat → Prop} (h : ∀ i, n i → m i) : ∀ {c : SK}, c.bnd n → c.bnd m
  | .c _, k => SC.bnd_mono h k
  | .u _, _ | .f _ _ _, _ => trivial
theorem SA.bnd_mono {n m : Nat → Prop} (h : ∀ i, n i → m i) : ∀ {c : SA}, c.bnd n → c.bnd m
  | .sc _, k => SC.bnd_mono h k
  | .agg _, k => fun x hx => SK.bnd_mono h (k x hx)
theorem SV.bnd_mono {n m : Nat → Prop} (h : ∀ i, n i → m i) : ∀ {c : SV}, c.bnd n → c.bnd m
  | .any, _ => trivial
  | .one _, k => SA.bnd_mono h k
  | .tup _, k => fun x hx => SA.bnd_mono h (k x hx)
  | .gd _ _, k => fun hg => SA.bnd_mono h (k hg)

theorem cells_bnd {n : Nat → Prop} {k : SK} (h : k.bnd n) : ∀ c ∈ k.cells, c.bnd n := by
  cases k with
  | c s => simp only [SK.cells, List.mem_singleton]; rintro _ rfl; exact h
  | u m => simp only [SK.cells, List.mem_cons, List.not_mem_nil, or_false]; rintro _ (rfl | rfl | rfl | rfl) <;> trivial
  | f k m g => simp only [SK.cells, List.mem_map]; rintro _ ⟨j, _, rfl⟩; trivial
theorem flat_bnd {n : Nat → Prop} : ∀ {ks : List SK}, (∀ k ∈ ks, k.bnd n) → ∀ c ∈ flat ks, c.bnd n
  | [], _ => by simp [flat]
  | k :: r, h => by
    intro c hc
    simp only [flat, List.mem_append] at hc
    rcases hc with hc | hc
    · exact cells_bnd (h k (by simp)) c hc
    · exact flat_bnd (fun x hx => h x (by simp [hx])) c hc
theorem cells_fit {k : SK} (h : k.fit = true) : ∀ c ∈ k.cells, c.fit = true := by
  cases k with
  | c s => simp only [SK.cells, List.mem_singleton]; rintro _ rfl; exact h
  | u m => simp only [SK.cells, List.mem_cons, List.not_mem_nil, or_false]; rintro _ (rfl | rfl | rfl | rfl) <;> rfl
  | f k m g => simp only [SK.cells, List.mem_map]; rintro _ ⟨j, _, rfl⟩; rfl
theorem flat_fit : ∀ {ks : List SK}, (∀ k ∈ ks, k.fit = true) → ∀ c ∈ flat ks, c.fit = true
  | [], _ => by simp [flat]
  | k :: r, h => by
    intro c hc
    simp only [flat, List.mem_append] at hc
    rcases hc with hc | hc
    · exact cells_fit (h k (by simp)) c hc
    · exact flat_fit (fun x hx => h x (by simp [hx])) c hc

/-- Two ways of laying blocks that say the same of the first n. -/
def Agree (n : Nat → Prop) (ρ ρ' : Nat → Nat) : Prop := ∀ i, n i → ρ' i = ρ i
theorem Agree.refl (n : Nat → Prop) (ρ : Nat → Nat) : Agree n ρ ρ := fun _ _ => rfl
theorem Agree.pv {n : Nat → Prop} {ρ ρ' : Nat → Nat} (h : Agree n ρ ρ') : ∀ {c : PV}, c.bnd n → c.conc ρ' = c.conc ρ
  | .v _, _ => rfl
  | .p o _, k => by simp only [PV.conc, h o k]
theorem Agree.sc {n : Nat → Prop} {ρ ρ' : Nat → Nat} (h : Agree n ρ ρ') : ∀ {c : SC}, c.bnd n → c.conc ρ' = c.conc ρ
  | .ptr o _, k | .pti o _ _ _, k | .sl o _ _ _, k | .sls o _ _ _ _, k => by simp only [SC.conc, h o k]
  | .fn f caps, k => by
    simp only [SC.conc]
    rw [List.map_congr_left fun c hc => h.pv (k c hc)]
  | .num _ _, _ | .bit _, _ | .val _, _ => rfl
theorem Agree.scs {n : Nat → Prop} {ρ ρ' : Nat → Nat} (h : Agree n ρ ρ') {l : List SC} (hl : ∀ c ∈ l, c.bnd n) : l.map (SC.conc ρ') = l.map (SC.conc ρ) :=
  List.map_congr_left fun c hc => h.sc (hl c hc)
theorem Agree.sks {n : Nat → Prop} {ρ ρ' : Nat → Nat} (h : Agree n ρ ρ') {l : List SK} (hl : ∀ c ∈ l, c.bnd n) : concs ρ' l = concs ρ l := h.scs (flat_bnd hl)
theorem Agree.sa {n : Nat → Prop} {ρ ρ' : Nat → Nat} (h : Agree n ρ ρ') : ∀ {c : SA}, c.bnd n → c.conc ρ' = c.conc ρ
  | .sc _, k => h.sc k
  | .agg _, k => by simp only [SA.conc, h.sks k]
theorem Agree.sas {n : Nat → Prop} {ρ ρ' : Nat → Nat} (h : Agree n ρ ρ') {l : List SA} (hl : ∀ c ∈ l, c.bnd n) : l.map (SA.conc ρ') = l.map (SA.conc ρ) :=
  List.map_congr_left fun c hc => h.sa (hl c hc)
theorem Agree.sv {n : Nat → Prop} {ρ ρ' : Nat → Nat} (h : Agree n ρ ρ') : ∀ {c : SV} {v : Value}, c.bnd n → c.rep ρ v → c.rep ρ' v
  | .any, _, _, _ => trivial
  | .one _, _, k, r => by simp only [SV.rep, h.sa k]; exact r
  | .tup _, _, k, r => by simp only [SV.rep, h.sas k]; exact r
  | .gd g x, _, k, r => by
    simp only [SV.rep] at r ⊢
    rw [r]
    split
    · rename_i hg; rw [h.sa (c := x) (k hg)]
    · rfl

/-- Which blocks there are. -/
def live (ob : List SO) (i : Nat) : Prop := ∃ e ks sp, ob[i]? = some (.cells e ks sp)
def none0 (_ : Nat) : Prop := False
theorem none0_le {n : Nat → Prop} (i : Nat) (h : none0 i) : n i := h.elim

/-- The blocks of a symbolic state as they lie in a world. B: the heap's size when the call began. -/
structure Mem (B : Nat) (ρ : Nat → Nat) (ob : List SO) (w : World) : Prop where
  obj : ∀ i e ks sp, ob[i]? = some (.cells e ks sp) → B ≤ ρ i ∧ (∃ rest : List Value, rest.length = sp ∧ w.heap[ρ i]? = some (.cells (concs ρ ks ++ rest).toArray e (0, 0))) ∧ (∀ k ∈ ks, k.bnd (live ob)) ∧ (∀ k ∈ ks, k.fit = true)
  inj : ∀ i j e ks sp e' ks' sp', ob[i]? = some (.cells e ks sp) → ob[j]? = some (.cells e' ks' sp') → ρ i = ρ j → i = j

/-- Where a run began: the world, the blocks that were there already, and where they lay. -/
structure Base where
  w : World
  ob : List SO
  ρ : Nat → Nat
/-- What was there is there, or has died. -/
def Kept (Z : Base) (ρ : Nat → Nat) (ob : List SO) : Prop := (∀ i, live Z.ob i → (live ob i ∧ ρ i = Z.ρ i) ∨ ob[i]? = some .dead) ∧ (∀ i : Nat, Z.ob[i]? = some .dead → ob[i]? = some .dead) ∧ Z.ob.length ≤ ob.length

/-- What a symbolic state says of a frame's slots and a world. -/
structure Holds (W0 : Base) (ρ : Nat → Nat) (tm : List SV) (ob : List SO) (a : Act) (w : World) : Prop where
  size : a.tmps.size = tm.length
  rep : ∀ t : Nat, (tm.getD t .any).rep ρ (a.tmps.getD t undef)
  bnd : ∀ t : Nat, (tm.getD t .any).bnd (live ob)
  defers : a.defers = []
  below : Below W0.w.heap.size W0.w w
  mem : Mem W0.w.heap.size ρ ob w
  kept : Kept W0 ρ ob

def put (tm : List SV) (dst : Option Tmp) (v : SV) : List SV :=
  match dst with
  | some d => tm.set d v
  | none => tm

theorem length_put (tm : List SV) (dst : Option Tmp) (v : SV) : (put tm dst v).length = tm.length := by
  cases dst <;> simp [put]

theorem Holds.put {W0 : Base} {ρ : Nat → Nat} {tm : List SV} {ob : List SO} {a : Act} {w : World} (h : Holds W0 ρ tm ob a w) (dst : Option Tmp) {sv : SV} {v : Value}
    (hr : sv.rep ρ v) (hb : sv.bnd (live ob)) : Holds W0 ρ (put tm dst sv) ob (a.put dst v) w := by
  cases dst with
  | none => exact h
  | some d =>
    refine ⟨?_, fun t => ?_, fun t => ?_, h.defers, h.below, h.mem, h.kept⟩
    · simp [Sx.put, Act.put, h.size]
    · have h1 := h.rep t
      simp only [Sx.put, Act.put, List.getD_eq_getElem?_getD, List.getElem?_set, Array.getD_eq_getD_getElem?, Array.getElem?_setIfInBounds] at h1 ⊢
      by_cases e : d = t
      · subst e
        by_cases hd : d < tm.length
        · simp only [hd, h.size, if_true, Option.getD_some]; exact hr
        · simp only [hd, h.size, if_true, if_false, Option.getD_none]; exact trivial
      · simp only [e, if_false]; exact h1
    · have h1 := h.bnd t
      simp only [Sx.put, List.getD_eq_getElem?_getD, List.getElem?_set] at h1 ⊢
      by_cases e : d = t
      · subst e
        by_cases hd : d < tm.length
        · simp only [hd, if_true, Option.getD_some]; exact hb
        · simp only [hd, if_true, if_false, Option.getD_none]; exact trivial
      · simp only [e, if_false]; exact h1

/-- A state holds still where blocks have come to be, and nothing that was there has turned. -/
theorem Mem.grow {B : Nat} {ρ ρ' : Nat → Nat} {ob : List SO} {w w' : World} (h : Mem B ρ ob w) (hb : Below w.heap.size w w') (ha : Agree (live ob) ρ ρ') : Mem B ρ' ob w' := by
  refine ⟨fun i e ks sp hi => ?_, fun i j e ks sp e' ks' sp' hi hj hij => ?_⟩
  · obtain ⟨h1, ⟨rest, hr, h2⟩, h3, h4⟩ := h.obj i e ks sp hi
    rw [ha i ⟨_, _, _, hi⟩, ha.sks h3]
    refine ⟨h1, ⟨rest, hr, ?_⟩, h3, h4⟩
    rw [hb.block _ (by rcases Nat.lt_or_ge (ρ i) w.heap.size with k | k; exact k; rw [Array.getElem?_eq_none k] at h2; cases h2)]
    exact h2
  · rw [ha i ⟨_, _, _, hi⟩, ha j ⟨_, _, _, hj⟩] at hij
    exact h.inj i j e ks sp e' ks' sp' hi hj hij

end Go.Sx
