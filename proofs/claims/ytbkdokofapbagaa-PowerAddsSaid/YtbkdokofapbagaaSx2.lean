/-
  A calculus of symbolic states for walks over translated Go code, part 2: operations that make a value and leave memory alone.
-/
import Derived.Test.YtbkdokofapbagaaSx1
import Derived.ChangeKeysEq
namespace Go.Sx
open Go.RowKit

def Ok : List Prop → Prop
  | [] => True
  | p :: r => p ∧ Ok r
theorem Ok.append {l r : List Prop} : Ok (l ++ r) ↔ Ok l ∧ Ok r := by
  induction l with
  | nil => simp [Ok]
  | cons p l ih => simp [Ok, ih, and_assoc]

/-! ## Rows of cells -/

/-- Behind the first cells. -/
def seek : List SK → Nat → Option (List SK)
  | ks, 0 => some ks
  | [], _ + 1 => none
  | .c _ :: r, n + 1 => seek r n
  | .u m :: r, n + 1 => if 4 ≤ n + 1 then seek r (n - 3) else some (((SK.u m).cells.drop (n + 1)).map .c ++ r)
  | .f k m g :: r, n + 1 => if m ≤ n + 1 then seek r (n + 1 - m) else some (.f k (m - (n + 1)) (fun j => g (n + 1 + j)) :: r)
/-- The first cells. -/
def grab : List SK → Nat → Option (List SK)
  | _, 0 => some []
  | [], _ + 1 => none
  | .c s :: r, n + 1 => (grab r n).map (.c s :: ·)
  | .u m :: r, n + 1 => if 4 ≤ n + 1 then (grab r (n - 3)).map (.u m :: ·) else some (((SK.u m).cells.take (n + 1)).map .c)
  | .f k m g :: r, n + 1 => if m ≤ n + 1 then (grab r (n + 1 - m)).map (.f k m g :: ·) else some [.f k (n + 1) g]

theorem flat_map_c (l : List SC) : flat (l.map .c) = l := by
  induction l with
  | nil => rfl
  | cons c l ih => simp [flat, SK.cells, ih]
theorem flat_append (l r : List SK) : flat (l ++ r) = flat l ++ flat r := by
  induction l with
  | nil => rfl
  | cons c l ih => simp [flat, ih]
theorem cells_u_length (m : Nat) : (SK.u m).cells.length = 4 := rfl
theorem cells_f_length (k : IntKind) (m : Nat) (g : Nat → Int) : (SK.f k m g).cells.length = m := by simp [SK.cells]
theorem cells_f_drop (k : IntKind) (m n : Nat) (g : Nat → Int) : (SK.f k (m - n) (fun j => g (n + j))).cells = (SK.f k m g).cells.drop n := by
  simp only [SK.cells]
  apply List.ext_getElem?
  intro i
  simp only [List.getElem?_map, List.getElem?_drop]
  rcases Nat.lt_or_ge i (m - n) with h | h
  · rw [List.getElem?_range h, List.getElem?_range (by omega)]; rfl
  · rw [List.getElem?_eq_none (by simpa using h), List.getElem?_eq_none (by simp; omega)]; rfl
theorem cells_f_take (k : IntKind) (m n : Nat) (g : Nat → Int) (h : n ≤ m) : (SK.f k n g).cells = (SK.f k m g).cells.take n := by
  simp only [SK.cells, ← List.map_take, List.take_range, Nat.min_eq_left h]

theorem seek_flat : ∀ (ks : List SK) (n : Nat) {r : List SK}, seek ks n = some r → n ≤ (flat ks).length ∧ flat r = (flat ks).drop n
  | ks, 0, r, h => by simp only [seek, Option.some.injEq] at h; subst h; simp
  | [], n + 1, r, h => by simp [seek] at h
  | .c s :: t, n + 1, r, h => by
    simp only [seek] at h
    obtain ⟨h1, h2⟩ := seek_flat t n h
    simp only [flat, SK.cells, List.cons_append, List.nil_append, List.length_cons, List.drop_succ_cons]
    exact ⟨by omega, h2⟩
  | .u m :: t, n + 1, r, h => by
    simp only [seek] at h
    split at h
    · obtain ⟨h1, h2⟩ := seek_flat t (n - 3) h
      have e : n + 1 = (n - 3) + (SK.u m).cells.length := by rw [cells_u_length]; omega
      refine ⟨by simp only [flat, List.length_append, cells_u_length]; omega, ?_⟩
      rw [e, flat, h2, Nat.add_comm, List.drop_append, List.drop_of_length_le (Nat.le_add_right _ _), List.nil_append, Nat.add_sub_cancel_left]
    · simp only [Option.some.injEq] at h
      subst h
      refine ⟨by simp only [flat, List.length_append, cells_u_length]; omega, ?_⟩
      rw [flat_append, flat_map_c, flat, List.drop_append_of_le_length (by rw [cells_u_length]; omega)]
  | .f k m g :: t, n + 1, r, h => by
    simp only [seek] at h
    split at h
    · rename_i hm
      obtain ⟨h1, h2⟩ := seek_flat t (n + 1 - m) h
      refine ⟨by simp only [flat, List.length_append, cells_f_length]; omega, ?_⟩
      have e : (SK.f k m g).cells.drop (n + 1) = [] := List.drop_of_length_le (by rw [cells_f_length]; exact hm)
      rw [flat, h2, List.drop_append, e, List.nil_append, cells_f_length]
    · rename_i hm
      simp only [Option.some.injEq] at h
      subst h
      refine ⟨by simp only [flat, List.length_append, cells_f_length]; omega, ?_⟩
      rw [flat, flat, cells_f_drop, List.drop_append_of_le_length (by rw [cells_f_length]; omega)]
theorem grab_flat : ∀ (ks : List SK) (n : Nat) {r : List SK}, grab ks n = some r → n ≤ (flat ks).length ∧ flat r = (flat ks).take n
  | ks, 0, r, h => by simp only [grab, Option.some.injEq] at h; subst h; simp [flat]
  | [], n + 1, r, h => by simp [grab] at h
  | .c s :: t, n + 1, r, h => by
    simp only [grab, Option.map_eq_some_iff] at h
    obtain ⟨r', h, rfl⟩ := h
    obtain ⟨h1, h2⟩ := grab_flat t n h
    simp only [flat, SK.cells, List.cons_append, List.nil_append, List.length_cons, List.take_succ_cons, h2, and_true]
    omega
  | .u m :: t, n + 1, r, h => by
    simp only [grab] at h
    split at h
    · simp only [Option.map_eq_some_iff] at h
      obtain ⟨r', h, rfl⟩ := h
      obtain ⟨h1, h2⟩ := grab_flat t (n - 3) h
      refine ⟨by simp only [flat, List.length_append, cells_u_length]; omega, ?_⟩
      rw [flat, flat, h2, show n + 1 = (SK.u m).cells.length + (n - 3) by rw [cells_u_length]; omega, List.take_length_add_append]
    · simp only [Option.some.injEq] at h
      subst h
      refine ⟨by simp only [flat, List.length_append, cells_u_length]; omega, ?_⟩
      rw [flat_map_c, flat, List.take_append_of_le_length (by rw [cells_u_length]; omega)]
  | .f k m g :: t, n + 1, r, h => by
    simp only [grab] at h
    split at h
    · rename_i hm
      simp only [Option.map_eq_some_iff] at h
      obtain ⟨r', h, rfl⟩ := h
      obtain ⟨h1, h2⟩ := grab_flat t (n + 1 - m) h
      refine ⟨by simp only [flat, List.length_append, cells_f_length]; omega, ?_⟩
      have e : (SK.f k m g).cells.take (n + 1) = (SK.f k m g).cells := List.take_of_length_le (by rw [cells_f_length]; exact hm)
      rw [flat, flat, h2, List.take_append, cells_f_length, e]
    · rename_i hm
      simp only [Option.some.injEq] at h
      subst h
      refine ⟨by simp only [flat, List.length_append, cells_f_length]; omega, ?_⟩
      have e : flat (SK.f k m g :: t) = (SK.f k m g).cells ++ flat t := rfl
      rw [e, List.take_append_of_le_length (by rw [cells_f_length]; omega), ← cells_f_take k m (n + 1) g (by omega)]
      simp [flat]

theorem mem_seek {Q : SC → Prop} {ks r : List SK} {n : Nat} (h : seek ks n = some r) (hq : ∀ c ∈ flat ks, Q c) : ∀ c ∈ flat r, Q c := by
  rw [(seek_flat ks n h).2]; exact fun c hc => hq c (List.mem_of_mem_drop hc)
theorem mem_grab {Q : SC → Prop} {ks r : List SK} {n : Nat} (h : grab ks n = some r) (hq : ∀ c ∈ flat ks, Q c) : ∀ c ∈ flat r, Q c := by
  rw [(grab_flat ks n h).2]; exact fun c hc => hq c (List.mem_of_mem_take hc)

theorem SK.bnd_cells {n : Nat → Prop} : ∀ {k : SK}, k.bnd n ↔ ∀ c ∈ k.cells, c.bnd n
  | .c s => by simp [SK.bnd, SK.cells]
  | .u m => by simp [SK.bnd, SK.cells, SC.bnd]
  | .f k m g => by simp [SK.bnd, SK.cells, SC.bnd]
theorem bnd_flat {n : Nat → Prop} {ks : List SK} : (∀ k ∈ ks, k.bnd n) ↔ ∀ c ∈ flat ks, c.bnd n := by
  induction ks with
  | nil => simp [flat]
  | cons k r ih => rw [List.forall_mem_cons, ih, SK.bnd_cells, flat, List.forall_mem_append]
theorem SK.fit_cells : ∀ {k : SK}, k.fit = true ↔ ∀ c ∈ k.cells, c.fit = true
  | .c s => by simp [SK.fit, SK.cells]
  | .u m => by simp [SK.fit, SK.cells, SC.fit, oneCell]
  | .f k m g => by simp [SK.fit, SK.cells, SC.fit, oneCell]
theorem fit_flat {ks : List SK} : (∀ k ∈ ks, k.fit = true) ↔ ∀ c ∈ flat ks, c.fit = true := by
  induction ks with
  | nil => simp [flat]
  | cons k r ih => rw [List.forall_mem_cons, ih, SK.fit_cells, flat, List.forall_mem_append]

/-- Some cells in the middle. -/
def sub (ks : List SK) (off n : Nat) : Option (List SK) := (seek ks off).bind (grab · n)
theorem sub_flat {ks r : List SK} {off n : Nat} (h : sub ks off n = some r) : off + n ≤ (flat ks).length ∧ flat r = ((flat ks).drop off).take n := by
  unfold sub at h
  obtain ⟨m, h1, h2⟩ := Option.bind_eq_some_iff.1 h
  obtain ⟨a1, a2⟩ := seek_flat _ _ h1
  obtain ⟨b1, b2⟩ := grab_flat _ _ h2
  rw [a2, List.length_drop] at b1
  exact ⟨by omega, by rw [b2, a2]⟩
theorem mem_sub {Q : SC → Prop} {ks r : List SK} {off n : Nat} (h : sub ks off n = some r) (hq : ∀ c ∈ flat ks, Q c) : ∀ c ∈ flat r, Q c := by
  rw [(sub_flat h).2]; exact fun c hc => hq c (List.mem_of_mem_drop (List.mem_of_mem_take hc))

/-- Some cells in the middle, written anew. -/
def lay (ks : List SK) (off : Nat) (new : List SK) : Option (List SK) :=
  match grab ks off, seek ks (off + (flat new).length) with
  | some a, some b => some (a ++ new ++ b)
  | _, _ => none
theorem lay_flat {ks r new : List SK} {off : Nat} (h : lay ks off new = some r) :
    off + (flat new).length ≤ (flat ks).length ∧ flat r = (flat ks).take off ++ flat new ++ (flat ks).drop (off + (flat new).length) := by
  unfold lay at h
  split at h
  · rename_i a b ha hb
    simp only [Option.some.injEq] at h
    subst h
    obtain ⟨a1, a2⟩ := grab_flat _ _ ha
    obtain ⟨b1, b2⟩ := seek_flat _ _ hb
    exact ⟨b1, by rw [flat_append, flat_append, a2, b2]⟩
  · cases h

/-! ## Reading operands -/

def litC : Value → SK
  | .int k n => .c (.num k n)
  | .bool b => .c (.bit b)
  | v => .c (.val v)
def lit : Value → SA
  | .int k n => .sc (.num k n)
  | .bool b => .sc (.bit b)
  | .agg cs => .agg (cs.toList.map litC)
  | v => .sc (.val v)
theorem litC_conc (ρ : Nat → Nat) (v : Value) : (flat [litC v]).map (SC.conc ρ) = [v] := by cases v <;> rfl
theorem litCs_conc (ρ : Nat → Nat) (l : List Value) : concs ρ (l.map litC) = l := by
  unfold concs
  induction l with
  | nil => rfl
  | cons v l ih =>
    have := litC_conc ρ v
    simp only [flat, List.append_nil] at this
    simp only [List.map_cons, flat, List.map_append, this, ih, List.singleton_append]
theorem litC_bnd (n : Nat → Prop) (v : Value) : (litC v).bnd n := by cases v <;> trivial
theorem lit_conc (ρ : Nat → Nat) (v : Value) : (lit v).conc ρ = v := by
  cases v <;> first | rfl | simp [lit, SA.conc, litCs_conc]
theorem lit_bnd (n : Nat → Prop) (v : Value) : (lit v).bnd n := by
  cases v <;> first | trivial | (intro k hk; simp only [List.mem_map] at hk; obtain ⟨x, _, rfl⟩ := hk; exact litC_bnd n x)

def ev (tm : List SV) : Operand → SV
  | .tmp t => tm.getD t .any
  | .const v => .one (lit v)
  | .global g => .one (.sc (.val (.pointer (some ⟨g, 0, none⟩))))
  | .func f => .one (.sc (.fn f []))

theorem Holds.ev {W0 : Base} {ρ : Nat → Nat} {tm : List SV} {ob : List SO} {a : Act} {w : World} (h : Holds W0 ρ tm ob a w) (x : Operand) :
    (ev tm x).rep ρ (a.eval x) ∧ (ev tm x).bnd (live ob) := by
  cases x with
  | tmp t => exact ⟨h.rep t, h.bnd t⟩
  | const v => exact ⟨(lit_conc ρ v).symm, lit_bnd _ v⟩
  | global g => exact ⟨rfl, trivial⟩
  | func f => exact ⟨rfl, fun c hc => by cases hc⟩

/-- The value in a slot, read by an operation. -/
def rdV : SV → Option (List Prop × SA)
  | .one x => some ([], x)
  | .gd b x => some ([b = true], x)
  | _ => none
def rd (tm : List SV) (x : Operand) : Option (List Prop × SA) := rdV (ev tm x)

theorem rdV_sound {ρ : Nat → Nat} {sv : SV} {v : Value} {ps : List Prop} {x : SA} {n : Nat → Prop} (h : rdV sv = some (ps, x)) (hp : Ok ps) (hr : sv.rep ρ v) (hb : sv.bnd n) :
    v = x.conc ρ ∧ x.bnd n := by
  cases sv with
  | any => simp [rdV] at h
  | tup xs => simp [rdV] at h
  | one y => simp only [rdV, Option.some.injEq, Prod.mk.injEq] at h; obtain ⟨rfl, rfl⟩ := h; exact ⟨hr, hb⟩
  | gd b y => simp only [rdV, Option.some.injEq, Prod.mk.injEq] at h; obtain ⟨rfl, rfl⟩ := h; simp only [Ok, and_true] at hp; simp only [SV.rep, hp, if_true] at hr; exact ⟨hr, hb hp⟩
theorem rd_sound {W0 : Base} {ρ : Nat → Nat} {tm : List SV} {ob : List SO} {a : Act} {w : World} {x : Operand} {ps : List Prop} {y : SA}
    (h : rd tm x = some (ps, y)) (hp : Ok ps) (H : Holds W0 ρ tm ob a w) : a.eval x = y.conc ρ ∧ y.bnd (live ob) :=
  rdV_sound h hp (H.ev x).1 (H.ev x).2

/-! ## Runs that touch nothing -/

def evalS {α : Type} (P : Program) : Sem α → Option α
  | .pure a => some a
  | .program k => evalS P (k P)
  | _ => none
theorem evalS_sound {α : Type} {P : Program} (w : World) : ∀ {s : Sem α} {v : α}, evalS P s = some v → s.run P w = .ok v w
  | .pure a, v, h => by simp only [evalS, Option.some.injEq] at h; subst h; rfl
  | .program k, v, h => by simp only [evalS] at h; exact evalS_sound (s := k P) w h
  | .load .., _, h | .store .., _, h | .new .., _, h | .shape .., _, h | .freeze .., _, h | .frozen .., _, h | .getObj .., _, h | .setObj .., _, h | .choose .., _, h | .sys .., _, h | .mark .., _, h | .halt _, _, h => by simp [evalS] at h

/-- A scalar that holds no address of the call's own. -/
def asV : SA → Option Value
  | .sc (.num k n) => some (.int k n)
  | .sc (.bit b) => some (.bool b)
  | .sc (.val v) => some v
  | _ => none
theorem asV_sound {x : SA} {v : Value} (h : asV x = some v) (ρ : Nat → Nat) : x.conc ρ = v := by
  cases x with
  | agg ks => simp [asV] at h
  | sc c => cases c <;> simp [asV] at h <;> simp [SA.conc, SC.conc, h]
def isLit : SA → Bool
  | .sc (.num _ _) | .sc (.bit _) => true
  | _ => false
def ofV (l : Bool) (v : Value) : SA := if l then lit v else .sc (.val v)
theorem ofV_conc (ρ : Nat → Nat) (l : Bool) (v : Value) : (ofV l v).conc ρ = v := by cases l; rfl; exact lit_conc ρ v
theorem ofV_bnd (n : Nat → Prop) (l : Bool) (v : Value) : (ofV l v).bnd n := by cases l; trivial; exact lit_bnd n v

/-- What an operation gives that touches nothing. -/
abbrev VR := Option (List Prop × SA)

/-- An integer, read. -/
def asI : SA → Option (IntKind × Int)
  | .sc (.num k n) => some (k, n)
  | .sc (.val (.int k n)) => some (k, n)
  | _ => none
theorem asI_sound {x : SA} {k : IntKind} {n : Int} (h : asI x = some (k, n)) (ρ : Nat → Nat) : x.conc ρ = .int k n := by
  unfold asI at h
  split at h <;> simp at h <;> obtain ⟨rfl, rfl⟩ := h <;> rfl
def asB : SA → Option Bool
  | .sc (.bit b) => some b
  | .sc (.val (.bool b)) => some b
  | _ => none
theorem asB_sound {x : SA} {b : Bool} (h : asB x = some b) (ρ : Nat → Nat) : x.conc ρ = .bool b := by
  unfold asB at h
  split at h <;> simp at h <;> subst h <;> rfl

end Go.Sx
