/-
  Texts: Sx1, Sx2, Sx3, Sx4, Sx5.
-/
import Derived.WalkKit
import Derived.ChangeKeysEq
section
namespace Go.Sx
open Go.RowKit
def M256 : Nat := 2 ^ 256
def limb (n i : Nat) : Int := ((n / 2 ^ (64 * i) % 2 ^ 64 : Nat) : Int)
def U (n : Nat) : Value := .agg #[.int .u64 (limb n 0), .int .u64 (limb n 1), .int .u64 (limb n 2), .int .u64 (limb n 3)]
structure Rho where
  pos : Nat → Nat
  fz : Nat → Nat → Value → Prop
instance : CoeFun Rho fun _ => Nat → Nat := ⟨Rho.pos⟩
def Rho.nil : Rho := ⟨fun _ => 0, fun _ _ _ => False⟩
structure Env where
  lv : Nat → Prop
  fz : Nat → Nat → Value → Prop
structure Env.le (n m : Env) : Prop where
  lv : ∀ i, n.lv i → m.lv i
  fz : ∀ b o v, n.fz b o v → m.fz b o v
theorem Env.le.trans {a b c : Env} (h : Env.le a b) (k : Env.le b c) : Env.le a c := ⟨fun i x => k.lv i (h.lv i x), fun i o v x => k.fz i o v (h.fz i o v x)⟩
def Env.bare (n : Env) : Env := ⟨fun _ => False, n.fz⟩
theorem Env.bare_le {n m : Env} (h : ∀ b o v, n.fz b o v → m.fz b o v) : Env.le n.bare m := ⟨fun _ k => k.elim, h⟩
inductive PV where
  | v (v : Value)
  | p (o off : Nat)
inductive SC where
  | num (k : IntKind) (n : Int)
  | bit (b : Bool)
  | val (v : Value)
  | ptr (o off : Nat)
  | pti (o base len : Nat) (i : Int)
  | sl (o off len cap : Nat)
  | sls (o base lo hi cap : Nat)
  | fn (f : Nat) (caps : List PV)
  | ptw (o w i c : Nat)
  | slw (o w off len cap : Nat)
  | xs (a : Option Addr) (n cap w : Nat) (g : Nat → Nat → SC)
  | px (a : Addr) (m : Nat) (h : Nat → SC)
  | ifc (t : TypeId) (o off : Nat)
  | mpr (o : Nat)
inductive SK where
  | c (s : SC)
  | u (n : Nat)
  | f (k : IntKind) (n : Nat) (g : Nat → Int)
inductive SA where
  | sc (c : SC)
  | agg (ks : List SK)
inductive SV where
  | any
  | one (x : SA)
  | tup (xs : List SA)
  | gd (g : Bool) (x : SA)
inductive SO where
  | cells (e : TypeId) (ks : List SK) (sp : Nat)
  | row (e : TypeId) (w n : Nat) (g : Nat → Nat → SC) (sp : Nat)
  | rown (e : TypeId) (w n : Nat) (g : Nat → Nat → SC) (sp p : Nat)
  | mp (sc : Bool) (k : IntKind) (w n : Nat) (key : Nat → Int) (g : Nat → Nat → SC)
  | gone
  | dead
def SK.cells : SK → List SC
  | .c s => [s]
  | .u n => [.val (.int .u64 (limb n 0)), .val (.int .u64 (limb n 1)), .val (.int .u64 (limb n 2)), .val (.int .u64 (limb n 3))]
  | .f k n g => (List.range n).map fun j => .val (.int k (g j))
def flat : List SK → List SC
  | [] => []
  | k :: r => k.cells ++ flat r
def PV.conc (ρ : Rho) : PV → Value
  | .v x => x
  | .p o off => .pointer (some ⟨ρ o, off, none⟩)
def SC.conc (ρ : Rho) : SC → Value
  | .num k n => .int k n
  | .bit b => .bool b
  | .val v => v
  | .ptr o off => .pointer (some ⟨ρ o, off, none⟩)
  | .pti o base _ i => .pointer (some ⟨ρ o, base + i.toNat, none⟩)
  | .sl o off len cap => .slice (some ⟨ρ o, off, none⟩) len cap
  | .sls o base lo hi cap => .slice (some ⟨ρ o, base + lo, none⟩) (hi - lo) cap
  | .fn f caps => .func (.func f) #[] (caps.map (PV.conc ρ)).toArray
  | .ptw o w i c => .pointer (some ⟨ρ o, i * w + c, none⟩)
  | .slw o w off len cap => .slice (some ⟨ρ o, off * w, none⟩) len cap
  | .xs a n cap _ _ => .slice a n cap
  | .px a _ _ => .pointer (some a)
  | .ifc t o off => .iface t (.pointer (some ⟨ρ o, off, none⟩))
  | .mpr o => .map (some (ρ o))
def concs (ρ : Rho) (ks : List SK) : List Value := (flat ks).map (SC.conc ρ)
def SA.conc (ρ : Rho) : SA → Value
  | .sc c => c.conc ρ
  | .agg ks => .agg (concs ρ ks).toArray
def SV.rep (ρ : Rho) : SV → Value → Prop
  | .any, _ => True
  | .one x, v => v = x.conc ρ
  | .tup xs, v => v = .tuple (xs.map (SA.conc ρ)).toArray
  | .gd g x, v => v = if g then x.conc ρ else undef
def oneCell : Value → Bool
  | .agg _ | .tuple _ => false
  | _ => true
def SC.fit : SC → Bool
  | .val v => oneCell v
  | _ => true
def SK.fit : SK → Bool
  | .c s => s.fit
  | .u _ | .f _ _ _ => true
def PV.bnd (n : Env) : PV → Prop
  | .v _ => True
  | .p o _ => n.lv o
def SC.bnd (n : Env) : SC → Prop
  | .ptr o _ | .pti o _ _ _ | .sl o _ _ _ | .sls o _ _ _ _ | .ptw o _ _ _ | .slw o _ _ _ _ | .ifc _ o _ | .mpr o => n.lv o
  | .fn _ caps => ∀ c ∈ caps, c.bnd n
  | .num _ _ | .bit _ | .val _ => True
  | .xs a m cap w g => (a = none → m = 0 ∧ cap = 0) ∧ m ≤ cap ∧ ∀ b, a = some b → (0 < m → b.spot = none) ∧ ∀ i, i < m → ∀ c, c < w → (g i c).bnd n.bare ∧ (g i c).fit = true ∧ n.fz b.block (b.off + (i * w + c)) ((g i c).conc Rho.nil)
  | .px b m h => b.spot = none ∧ ∀ c, c < m → (h c).bnd n.bare ∧ (h c).fit = true ∧ n.fz b.block (b.off + c) ((h c).conc Rho.nil)
def SK.bnd (n : Env) : SK → Prop
  | .c s => s.bnd n
  | .u _ | .f _ _ _ => True
def SA.bnd (n : Env) : SA → Prop
  | .sc c => c.bnd n
  | .agg ks => ∀ k ∈ ks, k.bnd n
def SV.bnd (n : Env) : SV → Prop
  | .any => True
  | .one x => x.bnd n
  | .tup xs => ∀ x ∈ xs, x.bnd n
  | .gd g x => g = true → x.bnd n
theorem PV.bnd_mono {n m : Env} (h : Env.le n m) : ∀ {c : PV}, c.bnd n → c.bnd m
  | .v _, _ => trivial
  | .p o _, k => h.lv o k
theorem SC.bnd_mono {n m : Env} (h : Env.le n m) : ∀ {c : SC}, c.bnd n → c.bnd m
  | .ptr o _, k | .pti o _ _ _, k | .sl o _ _ _, k | .sls o _ _ _ _, k | .ptw o _ _ _, k | .slw o _ _ _ _, k | .ifc _ o _, k | .mpr o, k => h.lv o k
  | .fn _ _, k => fun c hc => PV.bnd_mono h (k c hc)
  | .num _ _, _ | .bit _, _ | .val _, _ => trivial
  | .xs _ _ _ _ g, k => ⟨k.1, k.2.1, fun b hb => ⟨(k.2.2 b hb).1, fun i hi c hc => ⟨SC.bnd_mono (c := g i c) (n := n.bare) (m := m.bare) ⟨fun _ x => x, h.fz⟩ ((k.2.2 b hb).2 i hi c hc).1, ((k.2.2 b hb).2 i hi c hc).2.1, h.fz _ _ _ ((k.2.2 b hb).2 i hi c hc).2.2⟩⟩⟩
  | .px _ _ g, k => ⟨k.1, fun c hc => ⟨SC.bnd_mono (c := g c) (n := n.bare) (m := m.bare) ⟨fun _ x => x, h.fz⟩ (k.2 c hc).1, (k.2 c hc).2.1, h.fz _ _ _ (k.2 c hc).2.2⟩⟩
theorem SK.bnd_mono {n m : Env} (h : Env.le n m) : ∀ {c : SK}, c.bnd n → c.bnd m
  | .c _, k => SC.bnd_mono h k
  | .u _, _ | .f _ _ _, _ => trivial
theorem SA.bnd_mono {n m : Env} (h : Env.le n m) : ∀ {c : SA}, c.bnd n → c.bnd m
  | .sc _, k => SC.bnd_mono h k
  | .agg _, k => fun x hx => SK.bnd_mono h (k x hx)
theorem SV.bnd_mono {n m : Env} (h : Env.le n m) : ∀ {c : SV}, c.bnd n → c.bnd m
  | .any, _ => trivial
  | .one _, k => SA.bnd_mono h k
  | .tup _, k => fun x hx => SA.bnd_mono h (k x hx)
  | .gd _ _, k => fun hg => SA.bnd_mono h (k hg)
theorem cells_bnd {n : Env} {k : SK} (h : k.bnd n) : ∀ c ∈ k.cells, c.bnd n := by
  cases k with
  | c s => simp only [SK.cells, List.mem_singleton]; rintro _ rfl; exact h
  | u m => simp only [SK.cells, List.mem_cons, List.not_mem_nil, or_false]; rintro _ (rfl | rfl | rfl | rfl) <;> trivial
  | f k m g => simp only [SK.cells, List.mem_map]; rintro _ ⟨j, _, rfl⟩; trivial
theorem flat_bnd {n : Env} : ∀ {ks : List SK}, (∀ k ∈ ks, k.bnd n) → ∀ c ∈ flat ks, c.bnd n
  | [], _ => by simp [flat]
  | k :: r, h => by
    intro c hc
    simp only [flat, List.mem_append] at hc
    rcases hc with hc | hc
    · exact cells_bnd (h k (by simp)) c hc
    · exact flat_bnd (fun x hx => h x (by simp [hx])) c hc
def Agree (n : Env) (ρ ρ' : Rho) : Prop := ∀ i, n.lv i → ρ' i = ρ i
theorem Agree.refl (n : Env) (ρ : Rho) : Agree n ρ ρ := fun _ _ => rfl
theorem Agree.pv {n : Env} {ρ ρ' : Rho} (h : Agree n ρ ρ') : ∀ {c : PV}, c.bnd n → c.conc ρ' = c.conc ρ
  | .v _, _ => rfl
  | .p o _, k => by simp only [PV.conc, h o k]
theorem Agree.sc {n : Env} {ρ ρ' : Rho} (h : Agree n ρ ρ') : ∀ {c : SC}, c.bnd n → c.conc ρ' = c.conc ρ
  | .ptr o _, k | .pti o _ _ _, k | .sl o _ _ _, k | .sls o _ _ _ _, k | .ptw o _ _ _, k | .slw o _ _ _ _, k | .ifc _ o _, k | .mpr o, k => by simp only [SC.conc, h o k]
  | .fn f caps, k => by
    simp only [SC.conc]
    rw [List.map_congr_left fun c hc => h.pv (k c hc)]
  | .num _ _, _ | .bit _, _ | .val _, _ | .xs _ _ _ _ _, _ | .px _ _ _, _ => rfl
theorem Agree.scs {n : Env} {ρ ρ' : Rho} (h : Agree n ρ ρ') {l : List SC} (hl : ∀ c ∈ l, c.bnd n) : l.map (SC.conc ρ') = l.map (SC.conc ρ) :=
  List.map_congr_left fun c hc => h.sc (hl c hc)
theorem Agree.sks {n : Env} {ρ ρ' : Rho} (h : Agree n ρ ρ') {l : List SK} (hl : ∀ c ∈ l, c.bnd n) : concs ρ' l = concs ρ l := h.scs (flat_bnd hl)
theorem Agree.sa {n : Env} {ρ ρ' : Rho} (h : Agree n ρ ρ') : ∀ {c : SA}, c.bnd n → c.conc ρ' = c.conc ρ
  | .sc _, k => h.sc k
  | .agg _, k => by simp only [SA.conc, h.sks k]
theorem Agree.sas {n : Env} {ρ ρ' : Rho} (h : Agree n ρ ρ') {l : List SA} (hl : ∀ c ∈ l, c.bnd n) : l.map (SA.conc ρ') = l.map (SA.conc ρ) :=
  List.map_congr_left fun c hc => h.sa (hl c hc)
theorem Agree.sv {n : Env} {ρ ρ' : Rho} (h : Agree n ρ ρ') : ∀ {c : SV} {v : Value}, c.bnd n → c.rep ρ v → c.rep ρ' v
  | .any, _, _, _ => trivial
  | .one _, _, k, r => by simp only [SV.rep, h.sa k]; exact r
  | .tup _, _, k, r => by simp only [SV.rep, h.sas k]; exact r
  | .gd g x, _, k, r => by
    simp only [SV.rep] at r ⊢
    rw [r]
    split
    · rename_i hg; rw [h.sa (c := x) (k hg)]
    · rfl
def SO.has : SO → Bool
  | .cells _ _ _ | .row _ _ _ _ _ | .rown _ _ _ _ _ _ | .mp _ _ _ _ _ _ => true
  | .gone | .dead => false
def live (ob : List SO) (i : Nat) : Prop := ∃ x, ob[i]? = some x ∧ x.has = true
def none0 : Env := ⟨fun _ => False, fun _ _ _ => False⟩
theorem none0_le {n : Env} : Env.le none0 n := ⟨fun _ h => h.elim, fun _ _ _ h => h.elim⟩
def lv (ρ : Rho) (ob : List SO) : Env := ⟨live ob, ρ.fz⟩
def rowc (w n : Nat) (g : Nat → Nat → SC) : List Value := (List.range n).flatMap fun i => (List.range w).map fun c => (g i c).conc Rho.nil
def rowOK (E : Env) (w n : Nat) (g : Nat → Nat → SC) : Prop := ∀ i, i < n → ∀ c, c < w → (g i c).bnd E.bare ∧ (g i c).fit = true
theorem rowc_pt {w n : Nat} {g g' : Nat → Nat → SC} (h : ∀ i, i < n → ∀ c, c < w → (g i c).conc Rho.nil = (g' i c).conc Rho.nil) : rowc w n g = rowc w n g' := by
  unfold rowc
  simp only [List.flatMap]
  congr 1
  exact List.map_congr_left fun i hi => List.map_congr_left fun c hc => h i (List.mem_range.1 hi) c (List.mem_range.1 hc)
def valG (ρ : Rho) (g : Nat → Nat → SC) (i c : Nat) : SC := .val ((g i c).conc ρ)
def Env.one (n : Env) (p : Nat) : Env := ⟨fun i => i = p, n.fz⟩
def rowOKn (E : Env) (w n : Nat) (g : Nat → Nat → SC) (p : Nat) : Prop := ∀ i, i < n → ∀ c, c < w → (g i c).bnd (E.one p) ∧ (g i c).fit = true
def SO.vals (ρ : Rho) : SO → List Value
  | .cells _ ks _ => concs ρ ks
  | .row _ w n g _ => rowc w n g
  | .rown _ w n g _ _ => rowc w n (valG ρ g)
  | .gone | .dead | .mp _ _ _ _ _ _ => []
def SO.elem : SO → TypeId
  | .cells e _ _ | .row e _ _ _ _ | .rown e _ _ _ _ _ => e
  | .gone | .dead | .mp _ _ _ _ _ _ => 0
def SO.spare : SO → Nat
  | .cells _ _ sp | .row _ _ _ _ sp | .rown _ _ _ _ sp _ => sp
  | .gone | .dead | .mp _ _ _ _ _ _ => 0
def SO.ok (E : Env) : SO → Prop
  | .cells _ ks _ => (∀ k ∈ ks, k.bnd E) ∧ ∀ k ∈ ks, k.fit = true
  | .row _ w n g _ => rowOK E w n g
  | .rown _ w n g _ p => E.lv p ∧ rowOKn E w n g p
  | .mp _ _ w n _ g => rowOK E w n g
  | .gone | .dead => True
theorem SO.ok_mono {n m : Env} (h : Env.le n m) : ∀ {x : SO}, x.ok n → x.ok m
  | .cells _ _ _, k => ⟨fun c hc => SK.bnd_mono h (k.1 c hc), k.2⟩
  | .row _ _ _ _ _, k => fun i hi c hc => ⟨SC.bnd_mono (n := n.bare) (m := m.bare) ⟨fun _ x => x, h.fz⟩ (k i hi c hc).1, (k i hi c hc).2⟩
  | .rown _ _ _ _ _ p, k => ⟨h.lv p k.1, fun i hi c hc => ⟨SC.bnd_mono (n := n.one p) (m := m.one p) ⟨fun _ x => x, h.fz⟩ (k.2 i hi c hc).1, (k.2 i hi c hc).2⟩⟩
  | .mp _ _ _ _ _ _, k => fun i hi c hc => ⟨SC.bnd_mono (n := n.bare) (m := m.bare) ⟨fun _ x => x, h.fz⟩ (k i hi c hc).1, (k i hi c hc).2⟩
  | .gone, _ | .dead, _ => trivial
def mpV (sc : Bool) (w : Nat) (h : Nat → SC) : Value := match sc with
  | true => (h 0).conc Rho.nil
  | false => .agg ((List.range w).map fun c => (h c).conc Rho.nil).toArray
def mpE (sc : Bool) (k : IntKind) (w n : Nat) (key : Nat → Int) (g : Nat → Nat → SC) : Array MapEntry := ((List.range n).map fun i => (⟨.int k (key i), mpV sc w (g i), i⟩ : MapEntry)).toArray
def SO.lies (ρ : Rho) (rest : List Value) : SO → Obj
  | .mp sc k w n key g => .map (mpE sc k w n key g) n
  | .cells e ks _ => .cells (concs ρ ks ++ rest).toArray e (0, 0)
  | .row e w n g _ => .cells (rowc w n g ++ rest).toArray e (0, 0)
  | .rown e w n g _ _ => .cells (rowc w n (valG ρ g) ++ rest).toArray e (0, 0)
  | .gone | .dead => .cells rest.toArray 0 (0, 0)
structure Mem (B : Nat) (ρ : Rho) (ob : List SO) (w : World) : Prop where
  objs : ∀ i x, ob[i]? = some x → x.has = true → B ≤ ρ i ∧ (∃ rest : List Value, rest.length = x.spare ∧ w.heap[ρ i]? = some (x.lies ρ rest)) ∧ x.ok (lv ρ ob)
  injs : ∀ i j, live ob i → live ob j → ρ i = ρ j → i = j
  frz : ∀ b o v, ρ.fz b o v → w.cell? ⟨b, o, none⟩ = some v ∧ ∀ i, live ob i → ρ i ≠ b
theorem live_cells {ob : List SO} {i : Nat} {e : TypeId} {ks : List SK} {sp : Nat} (h : ob[i]? = some (.cells e ks sp)) : live ob i := ⟨_, h, rfl⟩
theorem live_mp {ob : List SO} {i : Nat} {sc : Bool} {k : IntKind} {w n : Nat} {key : Nat → Int} {g : Nat → Nat → SC} (h : ob[i]? = some (.mp sc k w n key g)) : live ob i := ⟨_, h, rfl⟩
theorem live_row {ob : List SO} {i : Nat} {e : TypeId} {w n : Nat} {g : Nat → Nat → SC} {sp : Nat} (h : ob[i]? = some (.row e w n g sp)) : live ob i := ⟨_, h, rfl⟩
theorem Mem.obj {B : Nat} {ρ : Rho} {ob : List SO} {w : World} (h : Mem B ρ ob w) (i : Nat) (e : TypeId) (ks : List SK) (sp : Nat) (hi : ob[i]? = some (.cells e ks sp)) :
    B ≤ ρ i ∧ (∃ rest : List Value, rest.length = sp ∧ w.heap[ρ i]? = some (.cells (concs ρ ks ++ rest).toArray e (0, 0))) ∧ (∀ k ∈ ks, k.bnd (lv ρ ob)) ∧ (∀ k ∈ ks, k.fit = true) := by
  obtain ⟨h1, h2, h3, h4⟩ := h.objs i _ hi rfl
  exact ⟨h1, h2, h3, h4⟩
theorem Mem.rows {B : Nat} {ρ : Rho} {ob : List SO} {w : World} (h : Mem B ρ ob w) {i : Nat} {e : TypeId} {k n : Nat} {g : Nat → Nat → SC} {sp : Nat} (hi : ob[i]? = some (.row e k n g sp)) :
    B ≤ ρ i ∧ (∃ rest : List Value, rest.length = sp ∧ w.heap[ρ i]? = some (.cells (rowc k n g ++ rest).toArray e (0, 0))) ∧ rowOK (lv ρ ob) k n g := h.objs i _ hi rfl
theorem Mem.rowsn {B : Nat} {ρ : Rho} {ob : List SO} {w : World} (h : Mem B ρ ob w) {i : Nat} {e : TypeId} {k n : Nat} {g : Nat → Nat → SC} {sp p : Nat} (hi : ob[i]? = some (.rown e k n g sp p)) :
    B ≤ ρ i ∧ (∃ rest : List Value, rest.length = sp ∧ w.heap[ρ i]? = some (.cells (rowc k n (valG ρ g) ++ rest).toArray e (0, 0))) ∧ live ob p ∧ rowOKn (lv ρ ob) k n g p := h.objs i _ hi rfl
abbrev Globs := List (Nat × List SK)
def GlobsOK (gl : Globs) (fz : Nat → Nat → Value → Prop) : Prop := ∀ p ∈ gl, (∀ k ∈ p.2, k.bnd ⟨fun _ => False, fz⟩) ∧ ∀ (o : Nat) v, (concs Rho.nil p.2)[o]? = some v → fz p.1 o v
structure Base where
  w : World
  ob : List SO
  ρ : Rho
  gl : Globs
  keep : Nat → Obj → Prop
def Keeps (keep : Nat → Obj → Prop) (ρ : Rho) (ob : List SO) (w : World) : Prop := ∀ b x, keep b x → w.heap[b]? = some x ∧ ∀ i, live ob i → ρ i ≠ b
def noKeep : Nat → Obj → Prop := fun _ _ => False
theorem Keeps.none (ρ : Rho) (ob : List SO) (w : World) : Keeps noKeep ρ ob w := fun _ _ h => h.elim
def Kept (Z : Base) (ρ : Rho) (ob : List SO) : Prop := (∀ i, live Z.ob i → (live ob i ∧ ρ i = Z.ρ i) ∨ ob[i]? = some .dead) ∧ (∀ i : Nat, Z.ob[i]? = some .dead → ob[i]? = some .dead) ∧ Z.ob.length ≤ ob.length
structure FzLe (Z : Base) (ρ : Rho) : Prop where
  le : ∀ b o v, Z.ρ.fz b o v → ρ.fz b o v
  own : ∀ b o v, ρ.fz b o v → (∃ o u, Z.ρ.fz b o u) ∨ Z.w.heap.size ≤ b
structure Holds (W0 : Base) (ρ : Rho) (tm : List SV) (ob : List SO) (a : Act) (w : World) : Prop where
  size : a.tmps.size = tm.length
  rep : ∀ t : Nat, (tm.getD t .any).rep ρ (a.tmps.getD t undef)
  bnd : ∀ t : Nat, (tm.getD t .any).bnd (lv ρ ob)
  defers : a.defers = []
  below : Below W0.w.heap.size W0.w w
  mem : Mem W0.w.heap.size ρ ob w
  kept : Kept W0 ρ ob
  gl : GlobsOK W0.gl ρ.fz
  fzs : FzLe W0 ρ
  keeps : Keeps W0.keep ρ ob w
def put (tm : List SV) (dst : Option Tmp) (v : SV) : List SV :=
  match dst with
  | some d => tm.set d v
  | none => tm
theorem length_put (tm : List SV) (dst : Option Tmp) (v : SV) : (put tm dst v).length = tm.length := by
  cases dst <;> simp [put]
theorem Holds.put {W0 : Base} {ρ : Rho} {tm : List SV} {ob : List SO} {a : Act} {w : World} (h : Holds W0 ρ tm ob a w) (dst : Option Tmp) {sv : SV} {v : Value}
    (hr : sv.rep ρ v) (hb : sv.bnd (lv ρ ob)) : Holds W0 ρ (put tm dst sv) ob (a.put dst v) w := by
  cases dst with
  | none => exact h
  | some d =>
    refine ⟨?_, fun t => ?_, fun t => ?_, h.defers, h.below, h.mem, h.kept, h.gl, h.fzs, h.keeps⟩
    · simp [Sx.put, Act.put, h.size]
    · have h1 := h.rep t
      simp only [Sx.put, Act.put, List.getD_eq_getElem?_getD, List.getElem?_set, Array.getD_eq_getD_getElem?, Array.getElem?_setIfInBounds] at h1 ⊢
      by_cases e : d = t
      · subst e
        by_cases hd : d < tm.length
        · simp only [hd, h.size, if_true, Option.getD_some]; exact hr
        · simp only [hd, h.size, if_true, if_false, Option.getD_none]; exact trivial
      · simp only [e, if_false]; exact h1
    · have h1 := h.bnd t
      simp only [Sx.put, List.getD_eq_getElem?_getD, List.getElem?_set] at h1 ⊢
      by_cases e : d = t
      · subst e
        by_cases hd : d < tm.length
        · simp only [hd, if_true, Option.getD_some]; exact hb
        · simp only [hd, if_true, if_false, Option.getD_none]; exact trivial
      · simp only [e, if_false]; exact h1
theorem vals_agree {ρ ρ' : Rho} {E : Env} (h : Agree E ρ ρ') {x : SO} (hx : x.ok E) : x.vals ρ' = x.vals ρ := by
  cases x with
  | cells e ks sp => exact h.sks hx.1
  | row e w n g sp => rfl
  | rown e w n g sp p =>
    refine rowc_pt fun i hi c hc => ?_
    exact Agree.sc (n := E.one p) (fun j hj => by
      have hj : j = p := hj
      subst hj; exact h j hx.1) (hx.2 i hi c hc).1
  | gone => rfl
  | dead => rfl
  | mp => rfl
theorem lies_agree {ρ ρ' : Rho} {E : Env} (h : Agree E ρ ρ') {x : SO} (hx : x.ok E) (rest : List Value) : x.lies ρ' rest = x.lies ρ rest := by
  have e := vals_agree h hx
  cases x with
  | cells e' ks sp => exact congrArg (fun l => Obj.cells (l ++ rest).toArray e' (0, 0)) e
  | row e w n g sp => rfl
  | rown e' w n g sp p => exact congrArg (fun l => Obj.cells (l ++ rest).toArray e' (0, 0)) e
  | gone => rfl
  | dead => rfl
  | mp => rfl
theorem Mem.grow {B : Nat} {ρ ρ' : Rho} {ob : List SO} {w w' : World} (h : Mem B ρ ob w) (hb : Below w.heap.size w w') (ha : Agree (lv ρ ob) ρ ρ') (hf : ρ'.fz = ρ.fz) : Mem B ρ' ob w' := by
  have hlv : lv ρ' ob = lv ρ ob := by simp only [lv, hf]
  refine ⟨fun i x hi hx => ?_, fun i j hi hj hij => ?_, fun b o v hv => ?_⟩
  · obtain ⟨h1, ⟨rest, hr, h2⟩, h3⟩ := h.objs i x hi hx
    have e := ha i ⟨x, hi, hx⟩
    rw [hlv]
    refine ⟨by rw [e]; exact h1, ⟨rest, hr, ?_⟩, h3⟩
    rw [lies_agree ha h3]
    rw [e, hb.block _ (by rcases Nat.lt_or_ge (ρ i) w.heap.size with k | k; exact k; rw [Array.getElem?_eq_none k] at h2; cases h2)]
    exact h2
  · rw [ha i hi, ha j hj] at hij
    exact h.injs i j hi hj hij
  · rw [hf] at hv
    obtain ⟨k1, k2⟩ := h.frz b o v hv
    refine ⟨?_, fun i hi => by rw [ha i hi]; exact k2 i hi⟩
    have hlt : b < w.heap.size := by
      rcases Nat.lt_or_ge b w.heap.size with k | k
      · exact k
      · simp only [World.cell?, Array.getElem?_eq_none k] at k1; cases k1
    rw [hb.cell (p := ⟨b, o, none⟩) hlt]; exact k1
theorem Keeps.grow {keep : Nat → Obj → Prop} {ρ : Rho} {ob : List SO} {w w' : World} (h : Keeps keep ρ ob w) (hb : Below w.heap.size w w') : Keeps keep ρ ob w' := by
  intro b z hz
  obtain ⟨k1, k2⟩ := h b z hz
  refine ⟨?_, k2⟩
  rw [hb.block b (by rcases Nat.lt_or_ge b w.heap.size with k | k; exact k; rw [Array.getElem?_eq_none k] at k1; cases k1)]
  exact k1
end Go.Sx
end

section
namespace Go.Sx
open Go.RowKit
def Ok : List Prop → Prop
  | [] => True
  | p :: r => p ∧ Ok r
theorem Ok.append {l r : List Prop} : Ok (l ++ r) ↔ Ok l ∧ Ok r := by
  induction l with
  | nil => simp [Ok]
  | cons p l ih => simp [Ok, ih, and_assoc]
def seek : List SK → Nat → Option (List SK)
  | ks, 0 => some ks
  | [], _ + 1 => none
  | .c _ :: r, n + 1 => seek r n
  | .u m :: r, n + 1 => if 4 ≤ n + 1 then seek r (n - 3) else some (((SK.u m).cells.drop (n + 1)).map .c ++ r)
  | .f k m g :: r, n + 1 => if m ≤ n + 1 then seek r (n + 1 - m) else some (.f k (m - (n + 1)) (fun j => g (n + 1 + j)) :: r)
def grab : List SK → Nat → Option (List SK)
  | _, 0 => some []
  | [], _ + 1 => none
  | .c s :: r, n + 1 => (grab r n).map (.c s :: ·)
  | .u m :: r, n + 1 => if 4 ≤ n + 1 then (grab r (n - 3)).map (.u m :: ·) else some (((SK.u m).cells.take (n + 1)).map .c)
  | .f k m g :: r, n + 1 => if m ≤ n + 1 then (grab r (n + 1 - m)).map (.f k m g :: ·) else some [.f k (n + 1) g]
theorem flat_map_c (l : List SC) : flat (l.map .c) = l := by
  induction l with
  | nil => rfl
  | cons c l ih => simp [flat, SK.cells, ih]
theorem flat_append (l r : List SK) : flat (l ++ r) = flat l ++ flat r := by
  induction l with
  | nil => rfl
  | cons c l ih => simp [flat, ih]
theorem cells_u_length (m : Nat) : (SK.u m).cells.length = 4 := rfl
theorem cells_f_length (k : IntKind) (m : Nat) (g : Nat → Int) : (SK.f k m g).cells.length = m := by simp [SK.cells]
theorem cells_f_drop (k : IntKind) (m n : Nat) (g : Nat → Int) : (SK.f k (m - n) (fun j => g (n + j))).cells = (SK.f k m g).cells.drop n := by
  simp only [SK.cells]
  apply List.ext_getElem?
  intro i
  simp only [List.getElem?_map, List.getElem?_drop]
  rcases Nat.lt_or_ge i (m - n) with h | h
  · rw [List.getElem?_range h, List.getElem?_range (by omega)]; rfl
  · rw [List.getElem?_eq_none (by simpa using h), List.getElem?_eq_none (by simp; omega)]; rfl
theorem cells_f_take (k : IntKind) (m n : Nat) (g : Nat → Int) (h : n ≤ m) : (SK.f k n g).cells = (SK.f k m g).cells.take n := by
  simp only [SK.cells, ← List.map_take, List.take_range, Nat.min_eq_left h]
theorem seek_flat : ∀ (ks : List SK) (n : Nat) {r : List SK}, seek ks n = some r → n ≤ (flat ks).length ∧ flat r = (flat ks).drop n
  | ks, 0, r, h => by simp only [seek, Option.some.injEq] at h; subst h; simp
  | [], n + 1, r, h => by simp [seek] at h
  | .c s :: t, n + 1, r, h => by
    simp only [seek] at h
    obtain ⟨h1, h2⟩ := seek_flat t n h
    simp only [flat, SK.cells, List.cons_append, List.nil_append, List.length_cons, List.drop_succ_cons]
    exact ⟨by omega, h2⟩
  | .u m :: t, n + 1, r, h => by
    simp only [seek] at h
    split at h
    · obtain ⟨h1, h2⟩ := seek_flat t (n - 3) h
      have e : n + 1 = (n - 3) + (SK.u m).cells.length := by rw [cells_u_length]; omega
      refine ⟨by simp only [flat, List.length_append, cells_u_length]; omega, ?_⟩
      rw [e, flat, h2, Nat.add_comm, List.drop_append, List.drop_of_length_le (Nat.le_add_right _ _), List.nil_append, Nat.add_sub_cancel_left]
    · simp only [Option.some.injEq] at h
      subst h
      refine ⟨by simp only [flat, List.length_append, cells_u_length]; omega, ?_⟩
      rw [flat_append, flat_map_c, flat, List.drop_append_of_le_length (by rw [cells_u_length]; omega)]
  | .f k m g :: t, n + 1, r, h => by
    simp only [seek] at h
    split at h
    · rename_i hm
      obtain ⟨h1, h2⟩ := seek_flat t (n + 1 - m) h
      refine ⟨by simp only [flat, List.length_append, cells_f_length]; omega, ?_⟩
      have e : (SK.f k m g).cells.drop (n + 1) = [] := List.drop_of_length_le (by rw [cells_f_length]; exact hm)
      rw [flat, h2, List.drop_append, e, List.nil_append, cells_f_length]
    · rename_i hm
      simp only [Option.some.injEq] at h
      subst h
      refine ⟨by simp only [flat, List.length_append, cells_f_length]; omega, ?_⟩
      rw [flat, flat, cells_f_drop, List.drop_append_of_le_length (by rw [cells_f_length]; omega)]
theorem grab_flat : ∀ (ks : List SK) (n : Nat) {r : List SK}, grab ks n = some r → n ≤ (flat ks).length ∧ flat r = (flat ks).take n
  | ks, 0, r, h => by simp only [grab, Option.some.injEq] at h; subst h; simp [flat]
  | [], n + 1, r, h => by simp [grab] at h
  | .c s :: t, n + 1, r, h => by
    simp only [grab, Option.map_eq_some_iff] at h
    obtain ⟨r', h, rfl⟩ := h
    obtain ⟨h1, h2⟩ := grab_flat t n h
    simp only [flat, SK.cells, List.cons_append, List.nil_append, List.length_cons, List.take_succ_cons, h2, and_true]
    omega
  | .u m :: t, n + 1, r, h => by
    simp only [grab] at h
    split at h
    · simp only [Option.map_eq_some_iff] at h
      obtain ⟨r', h, rfl⟩ := h
      obtain ⟨h1, h2⟩ := grab_flat t (n - 3) h
      refine ⟨by simp only [flat, List.length_append, cells_u_length]; omega, ?_⟩
      rw [flat, flat, h2, show n + 1 = (SK.u m).cells.length + (n - 3) by rw [cells_u_length]; omega, List.take_length_add_append]
    · simp only [Option.some.injEq] at h
      subst h
      refine ⟨by simp only [flat, List.length_append, cells_u_length]; omega, ?_⟩
      rw [flat_map_c, flat, List.take_append_of_le_length (by rw [cells_u_length]; omega)]
  | .f k m g :: t, n + 1, r, h => by
    simp only [grab] at h
    split at h
    · rename_i hm
      simp only [Option.map_eq_some_iff] at h
      obtain ⟨r', h, rfl⟩ := h
      obtain ⟨h1, h2⟩ := grab_flat t (n + 1 - m) h
      refine ⟨by simp only [flat, List.length_append, cells_f_length]; omega, ?_⟩
      have e : (SK.f k m g).cells.take (n + 1) = (SK.f k m g).cells := List.take_of_length_le (by rw [cells_f_length]; exact hm)
      rw [flat, flat, h2, List.take_append, cells_f_length, e]
    · rename_i hm
      simp only [Option.some.injEq] at h
      subst h
      refine ⟨by simp only [flat, List.length_append, cells_f_length]; omega, ?_⟩
      have e : flat (SK.f k m g :: t) = (SK.f k m g).cells ++ flat t := rfl
      rw [e, List.take_append_of_le_length (by rw [cells_f_length]; omega), ← cells_f_take k m (n + 1) g (by omega)]
      simp [flat]
theorem mem_seek {Q : SC → Prop} {ks r : List SK} {n : Nat} (h : seek ks n = some r) (hq : ∀ c ∈ flat ks, Q c) : ∀ c ∈ flat r, Q c := by
  rw [(seek_flat ks n h).2]; exact fun c hc => hq c (List.mem_of_mem_drop hc)
theorem SK.bnd_cells {n : Env} : ∀ {k : SK}, k.bnd n ↔ ∀ c ∈ k.cells, c.bnd n
  | .c s => by simp [SK.bnd, SK.cells]
  | .u m => by simp [SK.bnd, SK.cells, SC.bnd]
  | .f k m g => by simp [SK.bnd, SK.cells, SC.bnd]
theorem bnd_flat {n : Env} {ks : List SK} : (∀ k ∈ ks, k.bnd n) ↔ ∀ c ∈ flat ks, c.bnd n := by
  induction ks with
  | nil => simp [flat]
  | cons k r ih => rw [List.forall_mem_cons, ih, SK.bnd_cells, flat, List.forall_mem_append]
theorem SK.fit_cells : ∀ {k : SK}, k.fit = true ↔ ∀ c ∈ k.cells, c.fit = true
  | .c s => by simp [SK.fit, SK.cells]
  | .u m => by simp [SK.fit, SK.cells, SC.fit, oneCell]
  | .f k m g => by simp [SK.fit, SK.cells, SC.fit, oneCell]
theorem fit_flat {ks : List SK} : (∀ k ∈ ks, k.fit = true) ↔ ∀ c ∈ flat ks, c.fit = true := by
  induction ks with
  | nil => simp [flat]
  | cons k r ih => rw [List.forall_mem_cons, ih, SK.fit_cells, flat, List.forall_mem_append]
def sub (ks : List SK) (off n : Nat) : Option (List SK) := (seek ks off).bind (grab · n)
theorem sub_flat {ks r : List SK} {off n : Nat} (h : sub ks off n = some r) : off + n ≤ (flat ks).length ∧ flat r = ((flat ks).drop off).take n := by
  unfold sub at h
  obtain ⟨m, h1, h2⟩ := Option.bind_eq_some_iff.1 h
  obtain ⟨a1, a2⟩ := seek_flat _ _ h1
  obtain ⟨b1, b2⟩ := grab_flat _ _ h2
  rw [a2, List.length_drop] at b1
  exact ⟨by omega, by rw [b2, a2]⟩
theorem mem_sub {Q : SC → Prop} {ks r : List SK} {off n : Nat} (h : sub ks off n = some r) (hq : ∀ c ∈ flat ks, Q c) : ∀ c ∈ flat r, Q c := by
  rw [(sub_flat h).2]; exact fun c hc => hq c (List.mem_of_mem_drop (List.mem_of_mem_take hc))
def lay (ks : List SK) (off : Nat) (new : List SK) : Option (List SK) :=
  match grab ks off, seek ks (off + (flat new).length) with
  | some a, some b => some (a ++ new ++ b)
  | _, _ => none
theorem lay_flat {ks r new : List SK} {off : Nat} (h : lay ks off new = some r) :
    off + (flat new).length ≤ (flat ks).length ∧ flat r = (flat ks).take off ++ flat new ++ (flat ks).drop (off + (flat new).length) := by
  unfold lay at h
  split at h
  · rename_i a b ha hb
    simp only [Option.some.injEq] at h
    subst h
    obtain ⟨a1, a2⟩ := grab_flat _ _ ha
    obtain ⟨b1, b2⟩ := seek_flat _ _ hb
    exact ⟨b1, by rw [flat_append, flat_append, a2, b2]⟩
  · cases h
def litC : Value → SK
  | .int k n => .c (.num k n)
  | .bool b => .c (.bit b)
  | v => .c (.val v)
def lit : Value → SA
  | .int k n => .sc (.num k n)
  | .bool b => .sc (.bit b)
  | .agg cs => .agg (cs.toList.map litC)
  | v => .sc (.val v)
theorem litC_conc (ρ : Rho) (v : Value) : (flat [litC v]).map (SC.conc ρ) = [v] := by cases v <;> rfl
theorem litCs_conc (ρ : Rho) (l : List Value) : concs ρ (l.map litC) = l := by
  unfold concs
  induction l with
  | nil => rfl
  | cons v l ih =>
    have := litC_conc ρ v
    simp only [flat, List.append_nil] at this
    simp only [List.map_cons, flat, List.map_append, this, ih, List.singleton_append]
theorem litC_bnd (n : Env) (v : Value) : (litC v).bnd n := by cases v <;> trivial
theorem lit_conc (ρ : Rho) (v : Value) : (lit v).conc ρ = v := by
  cases v <;> first | rfl | simp [lit, SA.conc, litCs_conc]
theorem lit_bnd (n : Env) (v : Value) : (lit v).bnd n := by
  cases v <;> first | trivial | (intro k hk; simp only [List.mem_map] at hk; obtain ⟨x, _, rfl⟩ := hk; exact litC_bnd n x)
def ev (tm : List SV) : Operand → SV
  | .tmp t => tm.getD t .any
  | .const v => .one (lit v)
  | .global g => .one (.sc (.val (.pointer (some ⟨g, 0, none⟩))))
  | .func f => .one (.sc (.fn f []))
theorem Holds.ev {W0 : Base} {ρ : Rho} {tm : List SV} {ob : List SO} {a : Act} {w : World} (h : Holds W0 ρ tm ob a w) (x : Operand) :
    (ev tm x).rep ρ (a.eval x) ∧ (ev tm x).bnd (lv ρ ob) := by
  cases x with
  | tmp t => exact ⟨h.rep t, h.bnd t⟩
  | const v => exact ⟨(lit_conc ρ v).symm, lit_bnd _ v⟩
  | global g => exact ⟨rfl, trivial⟩
  | func f => exact ⟨rfl, fun c hc => by cases hc⟩
def rdV : SV → Option (List Prop × SA)
  | .one x => some ([], x)
  | .gd b x => some ([b = true], x)
  | _ => none
def rd (tm : List SV) (x : Operand) : Option (List Prop × SA) := rdV (ev tm x)
theorem rdV_sound {ρ : Rho} {sv : SV} {v : Value} {ps : List Prop} {x : SA} {n : Env} (h : rdV sv = some (ps, x)) (hp : Ok ps) (hr : sv.rep ρ v) (hb : sv.bnd n) :
    v = x.conc ρ ∧ x.bnd n := by
  cases sv with
  | any => simp [rdV] at h
  | tup xs => simp [rdV] at h
  | one y => simp only [rdV, Option.some.injEq, Prod.mk.injEq] at h; obtain ⟨rfl, rfl⟩ := h; exact ⟨hr, hb⟩
  | gd b y => simp only [rdV, Option.some.injEq, Prod.mk.injEq] at h; obtain ⟨rfl, rfl⟩ := h; simp only [Ok, and_true] at hp; simp only [SV.rep, hp, if_true] at hr; exact ⟨hr, hb hp⟩
theorem rd_sound {W0 : Base} {ρ : Rho} {tm : List SV} {ob : List SO} {a : Act} {w : World} {x : Operand} {ps : List Prop} {y : SA}
    (h : rd tm x = some (ps, y)) (hp : Ok ps) (H : Holds W0 ρ tm ob a w) : a.eval x = y.conc ρ ∧ y.bnd (lv ρ ob) :=
  rdV_sound h hp (H.ev x).1 (H.ev x).2
def evalS {α : Type} (P : Program) : Sem α → Option α
  | .pure a => some a
  | .program k => evalS P (k P)
  | _ => none
theorem evalS_sound {α : Type} {P : Program} (w : World) : ∀ {s : Sem α} {v : α}, evalS P s = some v → s.run P w = .ok v w
  | .pure a, v, h => by simp only [evalS, Option.some.injEq] at h; subst h; rfl
  | .program k, v, h => by simp only [evalS] at h; exact evalS_sound (s := k P) w h
  | .load .., _, h | .store .., _, h | .new .., _, h | .shape .., _, h | .freeze .., _, h | .frozen .., _, h | .getObj .., _, h | .setObj .., _, h | .choose .., _, h | .sys .., _, h | .mark .., _, h | .halt _, _, h => by simp [evalS] at h
def asV : SA → Option Value
  | .sc (.num k n) => some (.int k n)
  | .sc (.bit b) => some (.bool b)
  | .sc (.val v) => some v
  | _ => none
theorem asV_sound {x : SA} {v : Value} (h : asV x = some v) (ρ : Rho) : x.conc ρ = v := by
  cases x with
  | agg ks => simp [asV] at h
  | sc c => cases c <;> simp [asV] at h <;> simp [SA.conc, SC.conc, h]
def isLit : SA → Bool
  | .sc (.num _ _) | .sc (.bit _) => true
  | _ => false
def ofV (l : Bool) (v : Value) : SA := if l then lit v else .sc (.val v)
theorem ofV_conc (ρ : Rho) (l : Bool) (v : Value) : (ofV l v).conc ρ = v := by cases l; rfl; exact lit_conc ρ v
theorem ofV_bnd (n : Env) (l : Bool) (v : Value) : (ofV l v).bnd n := by cases l; trivial; exact lit_bnd n v
abbrev VR := Option (List Prop × SA)
def asI : SA → Option (IntKind × Int)
  | .sc (.num k n) => some (k, n)
  | .sc (.val (.int k n)) => some (k, n)
  | _ => none
theorem asI_sound {x : SA} {k : IntKind} {n : Int} (h : asI x = some (k, n)) (ρ : Rho) : x.conc ρ = .int k n := by
  unfold asI at h
  split at h <;> simp at h <;> obtain ⟨rfl, rfl⟩ := h <;> rfl
def asB : SA → Option Bool
  | .sc (.bit b) => some b
  | .sc (.val (.bool b)) => some b
  | _ => none
theorem asB_sound {x : SA} {b : Bool} (h : asB x = some b) (ρ : Rho) : x.conc ρ = .bool b := by
  unfold asB at h
  split at h <;> simp at h <;> subst h <;> rfl
end Go.Sx
end

section
namespace Go.Sx
open Go.RowKit
def leafsF (lf : TypeId → Option (List Nat)) (sz : TypeId → Nat) : List Field → Nat → Option (List Nat)
  | [], _ => some []
  | f :: r, off =>
    if f.name == "_" || f.offset != off then none else
    match lf f.type with
    | some l => if sz f.type == l.length && l.length != 0 then (leafsF lf sz r (off + l.length)).map (l ++ ·) else none
    | none => none
def rep (l : List Nat) : Nat → List Nat
  | 0 => []
  | n + 1 => l ++ rep l n
def leafs (P : Program) : Nat → TypeId → Option (List Nat)
  | 0, _ => none
  | d + 1, t =>
    match P.underlying t with
    | some .bool => some [0]
    | some (.int _) => some [1]
    | some .string => some [2]
    | some (.array n e) =>
      match leafs P d e with
      | some l => if P.cellsOf e == l.length && l.length != 0 && (P.info? e).isSome then some (rep l n) else none
      | none => none
    | some (.struct fs) => if P.stoodInHeld t then none else leafsF (leafs P d) P.cellsOf fs.toList 0
    | _ => none
def eqC : Nat → Value → Value → Option Bool
  | 0, .bool a, .bool b => some (a == b)
  | 1, .int k a, .int k' b => if k = k' then some (a == b) else none
  | 2, .string a, .string b => some (a == b)
  | _, _, _ => none
def eqL : List Nat → List Value → List Value → Option (List Bool)
  | [], [], [] => some []
  | l :: ls, x :: xs, y :: ys =>
    match eqC l x y, eqL ls xs ys with
    | some b, some bs => some (b :: bs)
    | _, _ => none
  | _, _, _ => none
def whole (P : Program) (t : TypeId) (xs : List Value) : Value :=
  match P.underlying t with
  | some (.struct _) | some (.array _ _) => .agg xs.toArray
  | _ => xs.headD undef
theorem eqL_length : ∀ {ls : List Nat} {xs ys : List Value} {bs : List Bool}, eqL ls xs ys = some bs → xs.length = ls.length ∧ ys.length = ls.length
  | [], [], [], _, _ => by simp
  | l :: ls, x :: xs, y :: ys, bs, h => by
    simp only [eqL] at h
    split at h
    · rename_i b bs' h1 h2
      obtain ⟨a, c⟩ := eqL_length h2
      simp [a, c]
    · cases h
  | [], x :: xs, ys, _, h | [], [], y :: ys, _, h | l :: ls, [], ys, _, h | l :: ls, x :: xs, [], _, h => by simp [eqL] at h
theorem eqL_one {l : Nat} {xs ys : List Value} {bs : List Bool} (h : eqL [l] xs ys = some bs) : ∃ x y b, xs = [x] ∧ ys = [y] ∧ eqC l x y = some b ∧ bs = [b] := by
  obtain ⟨h1, h2⟩ := eqL_length h
  obtain ⟨x, rfl⟩ := List.length_eq_one_iff.1 h1
  obtain ⟨y, rfl⟩ := List.length_eq_one_iff.1 h2
  simp only [eqL] at h
  cases e : eqC l x y with
  | none => simp [e] at h
  | some b => simp [e] at h; exact ⟨x, y, b, rfl, rfl, e, h.symm⟩
theorem eqC_bool {x y : Value} {b : Bool} (h : eqC 0 x y = some b) : ∃ p q, x = .bool p ∧ y = .bool q ∧ b = (p == q) := by
  cases x <;> cases y <;> simp [eqC] at h
  exact ⟨_, _, rfl, rfl, h.symm⟩
theorem eqC_int {x y : Value} {b : Bool} (h : eqC 1 x y = some b) : ∃ k p q, x = .int k p ∧ y = .int k q ∧ b = (p == q) := by
  cases x <;> cases y <;> simp [eqC] at h
  obtain ⟨rfl, h⟩ := h
  exact ⟨_, _, _, rfl, rfl, h.symm⟩
theorem eqC_string {x y : Value} {b : Bool} (h : eqC 2 x y = some b) : ∃ p q, x = .string p ∧ y = .string q ∧ b = (p == q) := by
  cases x <;> cases y <;> simp [eqC] at h
  exact ⟨_, _, rfl, rfl, h.symm⟩
theorem eqL_append : ∀ {l1 l2 : List Nat} {xs ys : List Value} {bs : List Bool}, eqL (l1 ++ l2) xs ys = some bs →
    ∃ b1 b2, eqL l1 (xs.take l1.length) (ys.take l1.length) = some b1 ∧ eqL l2 (xs.drop l1.length) (ys.drop l1.length) = some b2 ∧ bs = b1 ++ b2
  | [], l2, xs, ys, bs, h => ⟨[], bs, by simp [eqL], by simpa using h, rfl⟩
  | l :: l1, l2, x :: xs, y :: ys, bs, h => by
    simp only [List.cons_append, eqL] at h
    split at h
    · rename_i b bs' h1 h2
      obtain ⟨b1, b2, e1, e2, rfl⟩ := eqL_append h2
      simp only [Option.some.injEq] at h
      exact ⟨b :: b1, b2, by simp [eqL, h1, e1], by simpa using e2, by simp [← h]⟩
    · cases h
  | l :: l1, l2, [], ys, bs, h | l :: l1, l2, x :: xs, [], bs, h => by simp [eqL] at h
def isAggD : TypeDesc → Bool
  | .struct _ | .array _ _ => true
  | _ => false
section
variable {P : Program} (w : World)
theorem run_isAgg (t : TypeId) {d : TypeDesc} (h : P.underlying t = some d) : (isAgg t).run P w = .ok (isAggD d) w := by
  simp only [isAgg, Sem.run_bind, run_underlying h, Result.andThen_ok]
  cases d <;> rfl
theorem leafs_pos {d : Nat} {t : TypeId} {ls : List Nat} (h : leafs P d t = some ls) : ∃ u, P.underlying t = some u ∧ (∃ d', d = d' + 1) := by
  cases d with
  | zero => simp [leafs] at h
  | succ d =>
    cases hu : P.underlying t with
    | none => simp [leafs, hu] at h
    | some u => exact ⟨u, rfl, d, rfl⟩
theorem info_of_underlying {t : TypeId} {u : TypeDesc} (h : P.underlying t = some u) : ∃ i, P.info? t = some i := by
  unfold Program.underlying at h
  split at h
  · rename_i hi; exact ⟨_, hi⟩
  · rename_i i _ hi; exact ⟨i, hi⟩
  · cases h
theorem run_part_leafs {d : Nat} {t : TypeId} {ls : List Nat} (h : leafs P d t = some ls) (hs : P.cellsOf t = ls.length) (xs : List Value) (off : Nat) (hx : off + ls.length ≤ xs.length) :
    (part t xs.toArray off).run P w = .ok (whole P t ((xs.drop off).take ls.length)) w := by
  obtain ⟨u, hu, d', rfl⟩ := leafs_pos h
  obtain ⟨i, hi⟩ := info_of_underlying hu
  have hone : (∀ n e, u ≠ .array n e) → (∀ fs, u ≠ .struct fs) → ls.length = 1 := by
    intro h1 h2
    simp only [leafs, hu] at h
    cases u <;> simp at h <;> first | (subst h; rfl) | (exact absurd rfl (h1 _ _)) | (exact absurd rfl (h2 _))
  simp only [part, Sem.run_bind, run_isAgg w t hu, Result.andThen_ok]
  cases u
  case array n e => simp [whole, hu, isAggD, run_sizeOf w hi, hs, List.take_drop]
  case struct fs => simp [whole, hu, isAggD, run_sizeOf w hi, hs, List.take_drop]
  all_goals
    have h1 := hone (by intro n e; simp) (by intro fs; simp)
    rw [h1] at hx ⊢
    have hlt : off < xs.length := by omega
    rw [show (xs.drop off).take 1 = [xs[off]] by rw [List.drop_eq_getElem_cons hlt]; rfl]
    simp [whole, hu, isAggD, hlt]
theorem eqItems_leafs {d : Nat} {e : TypeId} {l : List Nat} (hl : leafs P d e = some l) (hs : P.cellsOf e = l.length) (h0 : l.length ≠ 0)
    (ih : ∀ xs ys bs, eqL l xs ys = some bs → (Op.equalIn d e (whole P e xs) (whole P e ys)).run P w = .ok (bs.all id) w) (xs ys : List Value) :
    ∀ (m j : Nat) (bs : List Bool), eqL (rep l m) (xs.drop (j * l.length)) (ys.drop (j * l.length)) = some bs →
      (Op.eqItems d e (P.cellsOf e) xs.toArray ys.toArray (List.range' j m)).run P w = .ok (bs.all id) w
  | 0, j, bs, h => by
    simp only [rep] at h
    cases h1 : List.drop (j * l.length) xs <;> cases h2 : List.drop (j * l.length) ys <;> rw [h1, h2] at h <;> simp [eqL] at h
    subst h
    simp [Op.eqItems]
  | m + 1, j, bs, h => by
    simp only [rep] at h
    obtain ⟨b1, b2, e1, e2, rfl⟩ := eqL_append h
    obtain ⟨k1, k2⟩ := eqL_length e1
    have k1' : j * l.length + l.length ≤ xs.length := by
      rcases Nat.lt_or_ge (j * l.length + l.length) (xs.length + 1) with k | k
      · omega
      · simp at k1; omega
    have k2' : j * l.length + l.length ≤ ys.length := by
      rcases Nat.lt_or_ge (j * l.length + l.length) (ys.length + 1) with k | k
      · omega
      · simp at k2; omega
    simp only [List.range'_succ, Op.eqItems, Sem.run_bind, hs]
    rw [run_part_leafs w hl hs xs _ k1']
    simp only [Result.andThen_ok]
    rw [run_part_leafs w hl hs ys _ k2']
    simp only [Result.andThen_ok]
    rw [ih _ _ _ e1]
    simp only [Result.andThen_ok]
    rw [List.drop_drop, List.drop_drop, show j * l.length + l.length = (j + 1) * l.length by rw [Nat.succ_mul]] at e2
    have := eqItems_leafs hl hs h0 ih xs ys m (j + 1) b2 e2
    rw [hs] at this
    cases hb : b1.all id
    · simp [hb]
    · simp [hb, this]
theorem eqFields_leafs {d : Nat} (ih : ∀ e l, leafs P d e = some l → ∀ xs ys bs, eqL l xs ys = some bs → (Op.equalIn d e (whole P e xs) (whole P e ys)).run P w = .ok (bs.all id) w) (xs ys : List Value) :
    ∀ (fs : List Field) (off : Nat) (ls : List Nat) (bs : List Bool), leafsF (leafs P d) P.cellsOf fs off = some ls → eqL ls (xs.drop off) (ys.drop off) = some bs →
      (Op.eqFields d xs.toArray ys.toArray fs).run P w = .ok (bs.all id) w
  | [], off, ls, bs, hl, h => by
    simp only [leafsF, Option.some.injEq] at hl
    subst hl
    cases h1 : List.drop off xs <;> cases h2 : List.drop off ys <;> rw [h1, h2] at h <;> simp [eqL] at h
    subst h
    simp [Op.eqFields]
  | f :: fs, off, ls, bs, hl, h => by
    simp only [leafsF] at hl
    split at hl
    · cases hl
    rename_i hn
    simp only [Bool.or_eq_true, beq_iff_eq, bne_iff_ne, not_or, ne_eq, Decidable.not_not] at hn
    split at hl
    case h_2 => cases hl
    rename_i l hlf
    split at hl
    case isFalse => cases hl
    rename_i hsz
    simp only [Bool.and_eq_true, beq_iff_eq, bne_iff_ne, ne_eq] at hsz
    obtain ⟨hsz, h0⟩ := hsz
    simp only [Option.map_eq_some_iff] at hl
    obtain ⟨ls', hl', rfl⟩ := hl
    obtain ⟨b1, b2, e1, e2, rfl⟩ := eqL_append h
    obtain ⟨k1, k2⟩ := eqL_length e1
    have k1' : off + l.length ≤ xs.length := by
      rcases Nat.lt_or_ge (off + l.length) (xs.length + 1) with k | k
      · omega
      · simp at k1; omega
    have k2' : off + l.length ≤ ys.length := by
      rcases Nat.lt_or_ge (off + l.length) (ys.length + 1) with k | k
      · omega
      · simp at k2; omega
    simp only [Op.eqFields, ne_eq, hn.1, not_false_eq_true, if_true, Sem.run_bind, hn.2]
    rw [run_part_leafs w hlf hsz xs _ k1']
    simp only [Result.andThen_ok]
    rw [run_part_leafs w hlf hsz ys _ k2']
    simp only [Result.andThen_ok]
    rw [ih _ _ hlf _ _ _ e1]
    simp only [Result.andThen_ok]
    rw [List.drop_drop, List.drop_drop] at e2
    have := eqFields_leafs ih xs ys fs _ ls' b2 hl' e2
    cases hb : b1.all id
    · simp [hb]
    · simp [hb, this]
theorem equalIn_leafs : ∀ (d : Nat) (t : TypeId) (ls : List Nat), leafs P d t = some ls → ∀ (xs ys : List Value) (bs : List Bool), eqL ls xs ys = some bs →
    (Op.equalIn d t (whole P t xs) (whole P t ys)).run P w = .ok (bs.all id) w
  | 0, _, _, h => by simp [leafs] at h
  | d + 1, t, ls, h => by
    intro xs ys bs hb
    have hlf := h
    simp only [leafs] at h
    split at h
    case h_1 hu =>
      simp only [Option.some.injEq] at h; subst h
      obtain ⟨x, y, b, rfl, rfl, h1, rfl⟩ := eqL_one hb
      obtain ⟨p, q, rfl, rfl, rfl⟩ := eqC_bool h1
      simp [whole, hu, run_equalIn_bool' w d t _ _ hu]
    case h_2 k hu =>
      simp only [Option.some.injEq] at h; subst h
      obtain ⟨x, y, b, rfl, rfl, h1, rfl⟩ := eqL_one hb
      obtain ⟨k', p, q, rfl, rfl, rfl⟩ := eqC_int h1
      simp [whole, hu, run_equalIn_int w d t _ k _ _ hu]
    case h_3 hu =>
      simp only [Option.some.injEq] at h; subst h
      obtain ⟨x, y, b, rfl, rfl, h1, rfl⟩ := eqL_one hb
      obtain ⟨p, q, rfl, rfl, rfl⟩ := eqC_string h1
      simp [whole, hu, Op.equalIn, run_underlying hu]
    case h_4 n e hu =>
      split at h
      case h_2 => cases h
      rename_i l hl
      split at h
      case isFalse => cases h
      rename_i hc
      simp only [Bool.and_eq_true, beq_iff_eq, bne_iff_ne, ne_eq, Option.isSome_iff_exists] at hc
      obtain ⟨⟨hs, h0⟩, i, hi⟩ := hc
      simp only [Option.some.injEq] at h
      subst h
      simp only [whole, hu]
      rw [run_equalIn_array w d _ _ hu hi, List.range_eq_range']
      exact eqItems_leafs w hl hs h0 (fun xs ys bs hb => equalIn_leafs d e l hl xs ys bs hb) xs ys n 0 bs (by simpa using hb)
    case h_5 fs hu =>
      split at h
      · cases h
      rename_i hst
      simp only [whole, hu]
      have hf : P.fieldsOf t = fs := by simp [Program.fieldsOf, hu]
      rw [run_equalIn_struct w d t _ _ (by rw [hf]; exact hu) (by simpa using hst), hf]
      exact eqFields_leafs w (fun e l hl xs ys bs hb => equalIn_leafs d e l hl xs ys bs hb) xs ys fs.toList 0 ls bs h (by simpa using hb)
    case h_6 => cases h
end
end Go.Sx
end

section
namespace Go.Sx
open Go.RowKit
theorem limbs_sum (n : Nat) : n % M256 = n % 2 ^ 64 + 2 ^ 64 * (n / 2 ^ 64 % 2 ^ 64) + 2 ^ 128 * (n / 2 ^ 128 % 2 ^ 64) + 2 ^ 192 * (n / 2 ^ 192 % 2 ^ 64) := by
  have h1 : M256 = 2 ^ 192 * 2 ^ 64 := by decide
  have h2 : (2 : Nat) ^ 192 = 2 ^ 128 * 2 ^ 64 := by decide
  have h3 : (2 : Nat) ^ 128 = 2 ^ 64 * 2 ^ 64 := by decide
  rw [h1, Nat.mod_mul, h2, Nat.mod_mul, h3, Nat.mod_mul]
theorem limbs_eq {a b : Nat} : (a % M256 = b % M256) ↔ (limb a 0 = limb b 0 ∧ limb a 1 = limb b 1 ∧ limb a 2 = limb b 2 ∧ limb a 3 = limb b 3) := by
  constructor
  · intro h
    have key : ∀ i, i < 4 → limb a i = limb b i := by
      intro i hi
      unfold limb
      have e : ∀ n : Nat, n / 2 ^ (64 * i) % 2 ^ 64 = n % M256 / 2 ^ (64 * i) % 2 ^ 64 := by
        intro n
        have hM : M256 = 2 ^ (64 * i) * (2 ^ 64 * 2 ^ (192 - 64 * i)) := by
          have : 64 * i + (64 + (192 - 64 * i)) = 256 := by omega
          rw [← Nat.pow_add, ← Nat.pow_add, this]; rfl
        rw [hM, Nat.mod_mul_right_div_self, Nat.mod_mul_right_mod]
      rw [e a, e b, h]
    exact ⟨key 0 (by omega), key 1 (by omega), key 2 (by omega), key 3 (by omega)⟩
  · rintro ⟨h0, h1, h2, h3⟩
    unfold limb at h0 h1 h2 h3
    simp only [Nat.mul_zero, Nat.pow_zero, Nat.div_one, Nat.mul_one, Nat.reduceMul] at h0 h1 h2 h3
    rw [limbs_sum a, limbs_sum b]
    omega
def join (a b c d : Int) : Nat := a.toNat + 2 ^ 64 * b.toNat + 2 ^ 128 * c.toNat + 2 ^ 192 * d.toNat
theorem join_lt {a b c d : Int} (ha : a < 2 ^ 64) (hb : b < 2 ^ 64) (hc : c < 2 ^ 64) (hd : d < 2 ^ 64) : join a b c d < M256 := by
  unfold join M256
  have h1 : a.toNat ≤ 2 ^ 64 - 1 := by omega
  have h2 : b.toNat ≤ 2 ^ 64 - 1 := by omega
  have h3 : c.toNat ≤ 2 ^ 64 - 1 := by omega
  have h4 : d.toNat ≤ 2 ^ 64 - 1 := by omega
  omega
theorem limb_join {a b c d : Int} (ha : 0 ≤ a ∧ a < 2 ^ 64) (hb : 0 ≤ b ∧ b < 2 ^ 64) (hc : 0 ≤ c ∧ c < 2 ^ 64) (hd : 0 ≤ d ∧ d < 2 ^ 64) :
    limb (join a b c d) 0 = a ∧ limb (join a b c d) 1 = b ∧ limb (join a b c d) 2 = c ∧ limb (join a b c d) 3 = d := by
  unfold limb join
  simp only [Nat.mul_zero, Nat.pow_zero, Nat.div_one, Nat.mul_one, Nat.reduceMul]
  refine ⟨?_, ?_, ?_, ?_⟩ <;> omega
theorem U_join {a b c d : Int} (ha : 0 ≤ a ∧ a < 2 ^ 64) (hb : 0 ≤ b ∧ b < 2 ^ 64) (hc : 0 ≤ c ∧ c < 2 ^ 64) (hd : 0 ≤ d ∧ d < 2 ^ 64) :
    U (join a b c d) = .agg #[.int .u64 a, .int .u64 b, .int .u64 c, .int .u64 d] := by
  obtain ⟨h0, h1, h2, h3⟩ := limb_join ha hb hc hd
  simp only [U, h0, h1, h2, h3]
def okLit (n : Int) : Bool := decide (0 ≤ n) && decide (n < 18446744073709551616)
def cmpC (l : Nat) (x y : SC) : Option Bool :=
  match asV (.sc x), asV (.sc y) with
  | some v, some w => eqC l v w
  | _, _ => none
def eqKs : List Nat → List SK → List SK → Option (List Bool)
  | [], [], [] => some []
  | 1 :: 1 :: 1 :: 1 :: ls, .u a :: r, .u b :: r' => (eqKs ls r r').map ((a % M256 == b % M256) :: ·)
  | 1 :: 1 :: 1 :: 1 :: ls, .u a :: r, .c (.num .u64 p) :: .c (.num .u64 q) :: .c (.num .u64 s) :: .c (.num .u64 t) :: r' =>
    if okLit p && okLit q && okLit s && okLit t then (eqKs ls r r').map ((a % M256 == join p q s t) :: ·) else none
  | 1 :: 1 :: 1 :: 1 :: ls, .c (.num .u64 p) :: .c (.num .u64 q) :: .c (.num .u64 s) :: .c (.num .u64 t) :: r', .u a :: r =>
    if okLit p && okLit q && okLit s && okLit t then (eqKs ls r' r).map ((join p q s t == a % M256) :: ·) else none
  | l :: ls, .c x :: r, .c y :: r' =>
    match cmpC l x y, eqKs ls r r' with
    | some b, some bs => some (b :: bs)
    | _, _ => none
  | _, _, _ => none
def eqFl : List Nat → List SC → List SC → Option (List Bool)
  | [], [], [] => some []
  | l :: ls, x :: r, y :: r' =>
    match cmpC l x y, eqFl ls r r' with
    | some b, some bs => some (b :: bs)
    | _, _ => none
  | _, _, _ => none
def conj : List Bool → Bool
  | [] => true
  | [b] => b
  | b :: r => b && conj r
theorem conj_all : ∀ bs : List Bool, conj bs = bs.all id
  | [] => rfl
  | [b] => by simp [conj]
  | b :: c :: r => by rw [conj, conj_all (c :: r)]; rfl; intro h; cases h
theorem cmpC_sound {l : Nat} {x y : SC} {b : Bool} (h : cmpC l x y = some b) (ρ : Rho) : eqC l (x.conc ρ) (y.conc ρ) = some b := by
  unfold cmpC at h
  split at h
  · rename_i v w hv hw
    have h1 := asV_sound hv ρ
    have h2 := asV_sound hw ρ
    simp only [SA.conc] at h1 h2
    rw [h1, h2]; exact h
  · cases h
theorem eqFl_sound (ρ : Rho) : ∀ {ls : List Nat} {xs ys : List SC} {bs : List Bool}, eqFl ls xs ys = some bs → eqL ls (xs.map (SC.conc ρ)) (ys.map (SC.conc ρ)) = some bs
  | [], [], [], bs, h => by simpa [eqFl, eqL] using h
  | l :: ls, x :: r, y :: r', bs, h => by
    simp only [eqFl] at h
    split at h
    · rename_i b bs' h1 h2
      simp only [List.map_cons, eqL, cmpC_sound h1 ρ, eqFl_sound ρ h2]; exact h
    · cases h
  | [], x :: xs, ys, _, h | [], [], y :: ys, _, h | l :: ls, [], ys, _, h | l :: ls, x :: xs, [], _, h => by simp [eqFl] at h
theorem okLit_iff {n : Int} (h : okLit n = true) : 0 ≤ n ∧ n < 2 ^ 64 := by
  simp only [okLit, Bool.and_eq_true, decide_eq_true_eq] at h; exact ⟨h.1, by have := h.2; omega⟩
theorem eqKs_sound (ρ : Rho) (ls : List Nat) (xs ys : List SK) : ∀ {bs : List Bool}, eqKs ls xs ys = some bs → ∃ bs0, eqL ls (concs ρ xs) (concs ρ ys) = some bs0 ∧ bs0.all id = bs.all id := by
  induction ls, xs, ys using eqKs.induct with
  | case1 => intro bs h; simp only [eqKs, Option.some.injEq] at h; subst h; exact ⟨[], rfl, rfl⟩
  | case2 ls a r b r' ih =>
    intro bs h
    simp only [eqKs, Option.map_eq_some_iff] at h
    obtain ⟨bs', h, rfl⟩ := h
    obtain ⟨b0, e0, e1⟩ := ih h
    simp only [concs] at e0
    refine ⟨(limb a 0 == limb b 0) :: (limb a 1 == limb b 1) :: (limb a 2 == limb b 2) :: (limb a 3 == limb b 3) :: b0, ?_, ?_⟩
    · simp [concs, flat, SK.cells, SC.conc, eqL, eqC, e0]
    · simp only [List.all_cons, id, e1]
      rw [Bool.eq_iff_iff]
      simp only [Bool.and_eq_true, beq_iff_eq, limbs_eq, and_assoc]
  | case3 ls a r p q s t r' hl ih =>
    intro bs h
    simp only [eqKs, hl, if_true, Option.map_eq_some_iff] at h
    obtain ⟨bs', h, rfl⟩ := h
    obtain ⟨b0, e0, e1⟩ := ih h
    simp only [concs] at e0
    simp only [Bool.and_eq_true] at hl
    obtain ⟨⟨⟨hp, hq⟩, hs⟩, ht⟩ := hl
    have hp := okLit_iff hp; have hq := okLit_iff hq; have hs := okLit_iff hs; have ht := okLit_iff ht
    refine ⟨(limb a 0 == p) :: (limb a 1 == q) :: (limb a 2 == s) :: (limb a 3 == t) :: b0, ?_, ?_⟩
    · simp [concs, flat, SK.cells, SC.conc, eqL, eqC, e0]
    · simp only [List.all_cons, id, e1]
      obtain ⟨j0, j1, j2, j3⟩ := limb_join hp hq hs ht
      rw [Bool.eq_iff_iff]
      have hj : join p q s t = join p q s t % M256 := (Nat.mod_eq_of_lt (join_lt hp.2 hq.2 hs.2 ht.2)).symm
      rw [hj]
      simp only [Bool.and_eq_true, beq_iff_eq, limbs_eq, and_assoc, j0, j1, j2, j3]
  | case4 ls a r p q s t r' hl => intro bs h; simp [eqKs, hl] at h
  | case5 ls p q s t r' a r hl ih =>
    intro bs h
    simp only [eqKs, hl, if_true, Option.map_eq_some_iff] at h
    obtain ⟨bs', h, rfl⟩ := h
    obtain ⟨b0, e0, e1⟩ := ih h
    simp only [concs] at e0
    simp only [Bool.and_eq_true] at hl
    obtain ⟨⟨⟨hp, hq⟩, hs⟩, ht⟩ := hl
    have hp := okLit_iff hp; have hq := okLit_iff hq; have hs := okLit_iff hs; have ht := okLit_iff ht
    refine ⟨(p == limb a 0) :: (q == limb a 1) :: (s == limb a 2) :: (t == limb a 3) :: b0, ?_, ?_⟩
    · simp [concs, flat, SK.cells, SC.conc, eqL, eqC, e0]
    · simp only [List.all_cons, id, e1]
      obtain ⟨j0, j1, j2, j3⟩ := limb_join hp hq hs ht
      rw [Bool.eq_iff_iff]
      have hj : join p q s t = join p q s t % M256 := (Nat.mod_eq_of_lt (join_lt hp.2 hq.2 hs.2 ht.2)).symm
      rw [hj]
      simp only [Bool.and_eq_true, beq_iff_eq, limbs_eq, and_assoc, j0, j1, j2, j3]
  | case6 ls p q s t r' a r hl => intro bs h; simp [eqKs, hl] at h
  | case7 l ls x r y r' b bs' h2 h1 ih =>
    intro bs h
    simp only [eqKs, h1, h2, Option.some.injEq] at h
    subst h
    obtain ⟨b0, e0, e1⟩ := ih h2
    simp only [concs] at e0
    refine ⟨b :: b0, ?_, by simp [e1]⟩
    simp [concs, flat, SK.cells, eqL, cmpC_sound h1 ρ, e0]
  | case8 l ls x r y r' hx ih =>
    intro bs h
    simp only [eqKs] at h
    cases h
  | case9 ls xs ys h1 h2 h3 h4 h5 =>
    intro bs h
    rw [eqKs] at h <;> first | cases h | assumption
def onesB : List Nat → Nat → Bool
  | [], 0 => true
  | 1 :: r, n + 1 => onesB r n
  | _, _ => false
theorem onesB_eq : ∀ {l : List Nat} {n : Nat}, onesB l n = true → l = List.replicate n 1
  | [], 0, _ => rfl
  | 1 :: r, n + 1, h => by simp only [onesB] at h; rw [onesB_eq h]; rfl
  | [], _ + 1, h | 0 :: _, 0, h | (_ + 2) :: _, 0, h | 1 :: _, 0, h | 0 :: _, _ + 1, h | (_ + 2) :: _, _ + 1, h => by simp [onesB] at h
def eqF (ls : List Nat) (xs ys : List SK) : Option (List Bool) :=
  match xs, ys with
  | [.f k n g], [.f k' n' g'] => if k = k' ∧ n = n' ∧ onesB ls n = true then some [(List.range n).all fun j => g j == g' j] else none
  | _, _ => none
theorem eqL_ints (k : IntKind) : ∀ (xs ys : List Int), xs.length = ys.length → eqL (List.replicate xs.length 1) (xs.map (Value.int k)) (ys.map (Value.int k)) = some (List.zipWith (· == ·) xs ys)
  | [], [], _ => rfl
  | x :: xs, y :: ys, h => by
    have ih := eqL_ints k xs ys (by simpa using h)
    simp only [List.length_cons, List.replicate_succ, List.map_cons, eqL, eqC, ih, if_true, List.zipWith_cons_cons]
  | [], _ :: _, h | _ :: _, [], h => by simp at h
theorem eqF_sound (ρ : Rho) {ls : List Nat} {xs ys : List SK} {bs : List Bool} (h : eqF ls xs ys = some bs) : ∃ bs0, eqL ls (concs ρ xs) (concs ρ ys) = some bs0 ∧ bs0.all id = bs.all id := by
  unfold eqF at h
  split at h
  · rename_i k n g k' n' g'
    split at h
    · rename_i hc
      obtain ⟨rfl, rfl, ho⟩ := hc
      simp only [Option.some.injEq] at h
      subst h
      have hl := onesB_eq ho
      subst hl
      have e : ∀ f : Nat → Int, concs ρ [SK.f k n f] = ((List.range n).map f).map (Value.int k) := fun f => by simp [concs, flat, SK.cells, Function.comp_def, SC.conc]
      have := eqL_ints k ((List.range n).map g) ((List.range n).map g') (by simp)
      rw [e, e]
      rw [List.length_map, List.length_range] at this
      refine ⟨_, this, ?_⟩
      simp only [List.all_cons, List.all_nil, id, Bool.and_true]
      rw [List.zipWith_map_left, List.zipWith_map_right, List.zipWith_self, List.all_map]
      rfl
    · cases h
  · cases h
def eqAgg (ls : List Nat) (xs ys : List SK) : Option (List Bool) :=
  match eqF ls xs ys with
  | some bs => some bs
  | none => match eqKs ls xs ys with
    | some bs => some bs
    | none => eqFl ls (flat xs) (flat ys)
theorem eqAgg_sound (ρ : Rho) {ls : List Nat} {xs ys : List SK} {bs : List Bool} (h : eqAgg ls xs ys = some bs) : ∃ bs0, eqL ls (concs ρ xs) (concs ρ ys) = some bs0 ∧ bs0.all id = bs.all id := by
  unfold eqAgg at h
  split at h
  · rename_i bs' h1; simp only [Option.some.injEq] at h; subst h; exact eqF_sound ρ h1
  · split at h
    · rename_i bs' h1; simp only [Option.some.injEq] at h; subst h; exact eqKs_sound ρ _ _ _ h1
    · exact ⟨bs, eqFl_sound ρ h, rfl⟩
end Go.Sx
end

section
namespace Go.Sx
open Go.RowKit
def eqAns : Option (List Bool) → BinOp → VR
  | some bs, .eql => some ([], .sc (.val (.bool (conj bs))))
  | some bs, .neq => some ([], .sc (.val (.bool (!conj bs))))
  | _, _ => none
def semBin0 (P : Program) (op : BinOp) (t : TypeId) (xo yo : Operand) (x y : SA) : VR :=
  match x, y with
  | .agg ks, .agg ks' =>
    if P.eqGuardType P.depth t then none else
    match P.underlying t with
    | some (.struct _) | some (.array _ _) =>
      match leafs P 10000 t with
      | some ls => eqAns (eqAgg ls ks ks') op
      | none => none
    | _ => none
  | _, _ =>
    match asV x, asV y with
    | some v, some w =>
      match op, v, w, isLit y with
      | .quo, .int k a, .int k' b, false => if k = k' then some ([b ≠ 0], .sc (.val (.int k (k.wrap (a.tdiv b))))) else none
      | .rem, .int k a, .int k' b, false => if k = k' then some ([b ≠ 0], .sc (.val (.int k (a.tmod b)))) else none
      | .shl, .int k a, .int _ b, false => some ([0 ≤ b], .sc (.val (.int k (k.wrap (a * 2 ^ min b.toNat k.bits)))))
      | .shr, .int k a, .int _ b, false => some ([0 ≤ b], .sc (.val (.int k (a.fdiv (2 ^ min b.toNat k.bits)))))
      | .add, .string a, .string b, false => some ([a.size + b.size ≤ 9223372036854775807], .sc (.val (.string (a ++ b))))
      | _, _, _, _ => (evalS P (eqGuard op t xo yo v w >>= fun _ => binOp op t v w)).map fun r => ([], ofV (isLit x && isLit y) r)
    | _, _ => none
theorem run_eqGuard_ints (P : Program) (w : World) (op : BinOp) (t : TypeId) (xo yo : Operand) (k k' : IntKind) (a b : Int) : (eqGuard op t xo yo (.int k a) (.int k' b)).run P w = .ok () w := by
  cases op <;> simp [eqGuard]
theorem eqAns_sound {P : Program} {op : BinOp} {t : TypeId} {xo yo : Operand} {ks ks' : List SK} {r : Option (List Bool)} {z : SA} {ps : List Prop} (h : eqAns r op = some (ps, z)) {ρ : Rho} {w : World}
    (hg : P.eqGuardType P.depth t = false) (hr : ∀ bs, r = some bs → (Op.equalIn 10000 t (.agg (concs ρ ks).toArray) (.agg (concs ρ ks').toArray)).run P w = .ok (conj bs) w) (n : Env) :
    (eqGuard op t xo yo (SA.conc ρ (.agg ks)) (SA.conc ρ (.agg ks')) >>= fun _ => binOp op t (SA.conc ρ (.agg ks)) (SA.conc ρ (.agg ks'))).run P w = .ok (z.conc ρ) w ∧ z.bnd n := by
  unfold eqAns at h
  split at h
  · simp only [Option.some.injEq, Prod.mk.injEq] at h
    obtain ⟨rfl, rfl⟩ := h
    refine ⟨?_, trivial⟩
    simp only [SA.conc, Sem.run_bind, run_eqGuard_agg w _ _ _ _ _ _ hg, Result.andThen_ok, run_eql_struct, hr _ rfl, SC.conc]
  · simp only [Option.some.injEq, Prod.mk.injEq] at h
    obtain ⟨rfl, rfl⟩ := h
    refine ⟨?_, trivial⟩
    simp only [SA.conc, Sem.run_bind, run_eqGuard_agg w _ _ _ _ _ _ hg, Result.andThen_ok, run_neq_struct, hr _ rfl, SC.conc]
  · cases h
theorem semBin0_sound {P : Program} {op : BinOp} {t : TypeId} {xo yo : Operand} {x y z : SA} {ps : List Prop} (h : semBin0 P op t xo yo x y = some (ps, z)) (hp : Ok ps) (ρ : Rho) (n : Env) (w : World) :
    (eqGuard op t xo yo (x.conc ρ) (y.conc ρ) >>= fun _ => binOp op t (x.conc ρ) (y.conc ρ)).run P w = .ok (z.conc ρ) w ∧ z.bnd n := by
  unfold semBin0 at h
  split at h
  · rename_i ks ks'
    split at h
    · cases h
    rename_i hg
    have hg : P.eqGuardType P.depth t = false := by simpa using hg
    have main : ∀ ls, leafs P 10000 t = some ls → (∀ l : List Value, whole P t l = .agg l.toArray) → ∀ bs, eqAgg ls ks ks' = some bs →
        (Op.equalIn 10000 t (.agg (concs ρ ks).toArray) (.agg (concs ρ ks').toArray)).run P w = .ok (conj bs) w := by
      intro ls hl hw bs hb
      obtain ⟨b0, e0, e1⟩ := eqAgg_sound ρ hb
      have := equalIn_leafs w 10000 t ls hl _ _ _ e0
      rw [hw, hw] at this
      rw [this, e1, conj_all]
    have fin : ∀ ls, leafs P 10000 t = some ls → (∀ l : List Value, whole P t l = .agg l.toArray) → eqAns (eqAgg ls ks ks') op = some (ps, z) →
        (eqGuard op t xo yo (SA.conc ρ (.agg ks)) (SA.conc ρ (.agg ks')) >>= fun _ => binOp op t (SA.conc ρ (.agg ks)) (SA.conc ρ (.agg ks'))).run P w = .ok (z.conc ρ) w ∧ z.bnd n :=
      fun ls hl hw h => eqAns_sound h hg (main ls hl hw) n
    split at h
    · rename_i fs hu
      split at h
      · rename_i ls hl; exact fin ls hl (fun l => by simp [whole, hu]) h
      · cases h
    · rename_i m e hu
      split at h
      · rename_i ls hl; exact fin ls hl (fun l => by simp [whole, hu]) h
      · cases h
    · cases h
  · split at h
    case h_2 => cases h
    rename_i v v' hv hv'
    rw [asV_sound hv ρ, asV_sound hv' ρ]
    split at h
    · split at h
      · rename_i k a k' b _ hk
        subst hk
        simp only [Option.some.injEq, Prod.mk.injEq] at h
        obtain ⟨rfl, rfl⟩ := h
        refine ⟨?_, trivial⟩
        simp only [Sem.run_bind, run_eqGuard_ints, Result.andThen_ok]
        simp [binOp, Op.intDiv, hp.1, SA.conc, SC.conc]
      · cases h
    · split at h
      · rename_i k a k' b _ hk
        subst hk
        simp only [Option.some.injEq, Prod.mk.injEq] at h
        obtain ⟨rfl, rfl⟩ := h
        refine ⟨?_, trivial⟩
        simp only [Sem.run_bind, run_eqGuard_ints, Result.andThen_ok]
        simp [binOp, Op.intDiv, hp.1, SA.conc, SC.conc]
      · cases h
    · rename_i k a k' b _
      simp only [Option.some.injEq, Prod.mk.injEq] at h
      obtain ⟨rfl, rfl⟩ := h
      refine ⟨?_, trivial⟩
      have hb : ¬ b < 0 := by have := hp.1; omega
      simp only [Sem.run_bind, run_eqGuard_ints, Result.andThen_ok]
      simp [binOp, Op.shift, hb, SA.conc, SC.conc]
    · rename_i k a k' b _
      simp only [Option.some.injEq, Prod.mk.injEq] at h
      obtain ⟨rfl, rfl⟩ := h
      refine ⟨?_, trivial⟩
      have hb : ¬ b < 0 := by have := hp.1; omega
      simp only [Sem.run_bind, run_eqGuard_ints, Result.andThen_ok]
      simp [binOp, Op.shift, hb, SA.conc, SC.conc]
    · rename_i a b _
      simp only [Option.some.injEq, Prod.mk.injEq] at h
      obtain ⟨rfl, rfl⟩ := h
      refine ⟨?_, trivial⟩
      have hm : IntKind.i64.max = 9223372036854775807 := by decide
      have hb : ¬ ((a.size + b.size : Nat) : Int) > IntKind.i64.max := by have := hp.1; rw [hm]; omega
      have hq : (eqGuard .add t xo yo (.string a) (.string b)).run P w = .ok () w := by simp [eqGuard]
      simp only [Sem.run_bind, hq, Result.andThen_ok]
      simp only [binOp, Op.stringOp, if_neg hb, Sem.run_pure, SA.conc, SC.conc]
    · simp only [Option.map_eq_some_iff, Prod.mk.injEq] at h
      obtain ⟨r, hr, rfl, rfl⟩ := h
      exact ⟨by rw [evalS_sound w hr, ofV_conc], ofV_bnd _ _ _⟩
def semNil (P : Program) (op : BinOp) (t : TypeId) (x y : SA) : VR :=
  match y with
  | .sc (.val (.slice none 0 0)) => match P.underlying t with
    | some (.slice _) => match op, x with
      | .eql, .sc (.xs a _ _ _ _) => some ([], .sc (.val (.bool a.isNone)))
      | .neq, .sc (.xs a _ _ _ _) => some ([], .sc (.val (.bool (!a.isNone))))
      | .eql, .sc (.slw _ _ _ _ _) | .eql, .sc (.sl _ _ _ _) | .eql, .sc (.sls _ _ _ _ _) => some ([], .sc (.bit false))
      | .neq, .sc (.slw _ _ _ _ _) | .neq, .sc (.sl _ _ _ _) | .neq, .sc (.sls _ _ _ _ _) => some ([], .sc (.bit true))
      | _, _ => none
    | _ => none
  | _ => none
theorem run_eql_nil {P : Program} {t e : TypeId} (hu : P.underlying t = some (.slice e)) (a : Option Addr) (n cap : Nat) (w : World) : (Op.equal t (.slice a n cap) (.slice none 0 0)).run P w = .ok a.isNone w := by
  have key : ∀ d, (Op.equalIn (d + 1) t (.slice a n cap) (.slice none 0 0)).run P w = .ok a.isNone w := by
    intro d
    unfold Op.equalIn
    simp only [Sem.run_bind, run_underlying hu, Result.andThen_ok]
    cases a <;> rfl
  exact key _
theorem semNil_sound {P : Program} {op : BinOp} {t : TypeId} {xo yo : Operand} {x y z : SA} {ps : List Prop} (h : semNil P op t x y = some (ps, z)) (ρ : Rho) (n : Env) (w : World) :
    (eqGuard op t xo yo (x.conc ρ) (y.conc ρ) >>= fun _ => binOp op t (x.conc ρ) (y.conc ρ)).run P w = .ok (z.conc ρ) w ∧ z.bnd n := by
  unfold semNil at h
  split at h
  case h_2 => cases h
  split at h
  case h_2 => cases h
  rename_i e hu
  have hq : ∀ (op : BinOp) (a : Option Addr) (m cap : Nat), (eqGuard op t xo yo (.slice a m cap) (.slice none 0 0)).run P w = .ok () w := fun op a m cap => by cases op <;> simp [eqGuard]
  have he : ∀ (a : Option Addr) (m cap : Nat), (eqGuard .eql t xo yo (.slice a m cap) (.slice none 0 0) >>= fun _ => binOp .eql t (.slice a m cap) (.slice none 0 0)).run P w = .ok (.bool a.isNone) w := fun a m cap => by
    simp only [Sem.run_bind, hq, Result.andThen_ok, binOp, run_eql_nil hu, Sem.run_pure]
  have hn : ∀ (a : Option Addr) (m cap : Nat), (eqGuard .neq t xo yo (.slice a m cap) (.slice none 0 0) >>= fun _ => binOp .neq t (.slice a m cap) (.slice none 0 0)).run P w = .ok (.bool (!a.isNone)) w := fun a m cap => by
    simp only [Sem.run_bind, hq, Result.andThen_ok, binOp, run_eql_nil hu, Sem.run_pure]
  split at h
  all_goals first
    | (simp only [Option.some.injEq, Prod.mk.injEq] at h
       obtain ⟨_, rfl⟩ := h
       first | exact ⟨he _ _ _, trivial⟩ | exact ⟨hn _ _ _, trivial⟩)
    | cases h
def semBin (P : Program) (op : BinOp) (t : TypeId) (xo yo : Operand) (x y : SA) : VR :=
  match semNil P op t x y with
  | some r => some r
  | none => semBin0 P op t xo yo x y
theorem semBin_sound {P : Program} {op : BinOp} {t : TypeId} {xo yo : Operand} {x y z : SA} {ps : List Prop} (h : semBin P op t xo yo x y = some (ps, z)) (hp : Ok ps) (ρ : Rho) (n : Env) (w : World) :
    (eqGuard op t xo yo (x.conc ρ) (y.conc ρ) >>= fun _ => binOp op t (x.conc ρ) (y.conc ρ)).run P w = .ok (z.conc ρ) w ∧ z.bnd n := by
  unfold semBin at h
  split at h
  · rename_i r hr
    simp only [Option.some.injEq] at h
    subst h
    exact semNil_sound hr ρ n w
  · exact semBin0_sound h hp ρ n w
def semUn (P : Program) (op : UnOp) (x : SA) : VR :=
  match asV x with
  | some v => (evalS P (Op.unary op v)).map fun r => ([], ofV (isLit x) r)
  | none => none
theorem semUn_sound {P : Program} {op : UnOp} {x z : SA} {ps : List Prop} (h : semUn P op x = some (ps, z)) (ρ : Rho) (n : Env) (w : World) :
    (Op.unary op (x.conc ρ)).run P w = .ok (z.conc ρ) w ∧ z.bnd n := by
  unfold semUn at h
  split at h
  · rename_i v hv
    simp only [Option.map_eq_some_iff, Prod.mk.injEq] at h
    obtain ⟨r, hr, rfl, rfl⟩ := h
    exact ⟨by rw [asV_sound hv, evalS_sound w hr, ofV_conc], ofV_bnd _ _ _⟩
  · cases h
def semConv (P : Program) (src dst : TypeId) (x : SA) : VR :=
  match asV x with
  | some v => (evalS P (convert src dst v)).map fun r => ([], ofV (isLit x) r)
  | none => none
theorem semConv_sound {P : Program} {src dst : TypeId} {x z : SA} {ps : List Prop} (h : semConv P src dst x = some (ps, z)) (ρ : Rho) (n : Env) (w : World) :
    (convert src dst (x.conc ρ)).run P w = .ok (z.conc ρ) w ∧ z.bnd n := by
  unfold semConv at h
  split at h
  · rename_i v hv
    simp only [Option.map_eq_some_iff, Prod.mk.injEq] at h
    obtain ⟨r, hr, rfl, rfl⟩ := h
    exact ⟨by rw [asV_sound hv, evalS_sound w hr, ofV_conc], ofV_bnd _ _ _⟩
  · cases h
def piece (P : Program) (t : TypeId) (ks : List SK) (off : Nat) : Option SA :=
  match P.underlying t with
  | some (.struct _) | some (.array _ _) => (sub ks off (P.cellsOf t)).map .agg
  | some _ =>
    match sub ks off 1 with
    | some [.c s] => some (.sc s)
    | some [.f k 1 g] => some (.sc (.val (.int k (g 0))))
    | _ => none
  | none => none
theorem piece_bnd {P : Program} {t : TypeId} {ks : List SK} {off : Nat} {n : Env} {z : SA} (h : piece P t ks off = some z) (hb : ∀ k ∈ ks, k.bnd n) : z.bnd n := by
  rw [bnd_flat] at hb
  unfold piece at h
  split at h
  · obtain ⟨r, hr, rfl⟩ := Option.map_eq_some_iff.1 h; exact bnd_flat.2 (mem_sub hr hb)
  · obtain ⟨r, hr, rfl⟩ := Option.map_eq_some_iff.1 h; exact bnd_flat.2 (mem_sub hr hb)
  · split at h
    · rename_i s hs
      simp only [Option.some.injEq] at h; subst h
      exact mem_sub hs hb s (by simp [flat, SK.cells])
    · simp only [Option.some.injEq] at h; subst h; trivial
    · cases h
  · cases h
theorem info_of_underlying' {P : Program} {t : TypeId} {u : TypeDesc} (h : P.underlying t = some u) (w : World) : (sizeOf t).run P w = .ok (P.cellsOf t) w := by
  obtain ⟨i, hi⟩ := info_of_underlying h
  exact run_sizeOf w hi
theorem concs_sub {ks r : List SK} {off n : Nat} (h : sub ks off n = some r) (ρ : Rho) : off + n ≤ (concs ρ ks).length ∧ concs ρ r = ((concs ρ ks).drop off).take n := by
  obtain ⟨h1, h2⟩ := sub_flat h
  refine ⟨by simpa [concs] using h1, ?_⟩
  simp only [concs, h2, List.map_take, List.map_drop]
theorem piece_sound {P : Program} {t : TypeId} {ks : List SK} {off : Nat} {z : SA} (h : piece P t ks off = some z) (ρ : Rho) (w : World) :
    (part t (concs ρ ks).toArray off).run P w = .ok (z.conc ρ) w := by
  unfold piece at h
  have agg : ∀ u, P.underlying t = some u → isAggD u = true → (sub ks off (P.cellsOf t)).map SA.agg = some z →
      (part t (concs ρ ks).toArray off).run P w = .ok (z.conc ρ) w := by
    intro u hu hm h
    obtain ⟨r, hr, rfl⟩ := Option.map_eq_some_iff.1 h
    obtain ⟨h1, h2⟩ := concs_sub hr ρ
    simp only [part, Sem.run_bind, run_isAgg w t hu, hm, Result.andThen_ok, if_true, info_of_underlying' hu w, Sem.run_pure, SA.conc, h2]
    simp [List.take_drop]
  split at h
  · rename_i fs hu; exact agg _ hu rfl h
  · rename_i n e hu; exact agg _ hu rfl h
  · rename_i u hn1 hn2 hu
    split at h
    · rename_i s hs
      simp only [Option.some.injEq] at h; subst h
      obtain ⟨h1, h2⟩ := concs_sub hs ρ
      have hx : (concs ρ ks)[off]? = some (s.conc ρ) := by
        have : (concs ρ [SK.c s])[0]? = some (s.conc ρ) := rfl
        rw [h2] at this
        simpa using this
      have hm : isAggD u = false := by
        cases u <;> first | rfl | exact (hn1 _ rfl).elim | exact (hn2 _ _ rfl).elim
      simp only [part, Sem.run_bind, run_isAgg w t hu, hm, Result.andThen_ok, Bool.false_eq_true, if_false]
      simp [hx, SA.conc]
    · rename_i k g hs
      simp only [Option.some.injEq] at h; subst h
      obtain ⟨h1, h2⟩ := concs_sub hs ρ
      have hx : (concs ρ ks)[off]? = some (.int k (g 0)) := by
        have : (concs ρ [SK.f k 1 g])[0]? = some (.int k (g 0)) := rfl
        rw [h2] at this
        simpa using this
      have hm : isAggD u = false := by
        cases u <;> first | rfl | exact (hn1 _ rfl).elim | exact (hn2 _ _ rfl).elim
      simp only [part, Sem.run_bind, run_isAgg w t hu, hm, Result.andThen_ok, Bool.false_eq_true, if_false]
      simp [hx, SA.conc, SC.conc]
    · cases h
  · cases h
def kindOf : SK → Option IntKind
  | .c s => (asI (.sc s)).map (·.1)
  | .u _ => some .u64
  | .f k _ _ => some k
def kindAll (k : IntKind) : List SK → Bool
  | [] => true
  | x :: r => (kindOf x == some k) && kindAll k r
def intsC (s : SC) : Int := match asI (.sc s) with
  | some (_, n) => n
  | none => 0
def intsL : List SK → List Int
  | [] => []
  | .c s :: r => intsC s :: intsL r
  | .u n :: r => limb n 0 :: limb n 1 :: limb n 2 :: limb n 3 :: intsL r
  | .f _ n g :: r => (List.range n).map g ++ intsL r
theorem ints_conc (ρ : Rho) (k : IntKind) : ∀ {ks : List SK}, kindAll k ks = true → concs ρ ks = (intsL ks).map (Value.int k)
  | [], _ => rfl
  | x :: r, h => by
    simp only [kindAll, Bool.and_eq_true, beq_iff_eq] at h
    obtain ⟨h1, h2⟩ := h
    have ih := ints_conc ρ k h2
    simp only [concs] at ih
    cases x with
    | c s =>
      simp only [kindOf, Option.map_eq_some_iff] at h1
      obtain ⟨⟨k', n⟩, ha, rfl⟩ := h1
      have := asI_sound ha ρ
      simp only [SA.conc] at this
      simp [concs, flat, SK.cells, intsL, intsC, ha, this, ih]
    | u n =>
      simp only [kindOf, Option.some.injEq] at h1
      subst h1
      simp [concs, flat, SK.cells, intsL, SC.conc, ih]
    | f k' n g =>
      simp only [kindOf, Option.some.injEq] at h1
      subst h1
      simp [concs, flat, SK.cells, intsL, ih, Function.comp_def, SC.conc]
def sameLit : List SK → Option Int
  | [] => none
  | [.c (.num _ n)] => some n
  | .c (.num _ n) :: r => match sameLit r with
    | some m => if n = m then some n else none
    | none => none
  | _ => none
theorem sameLit_ints : ∀ {ks : List SK} {n : Int}, sameLit ks = some n → ∀ j, j < (intsL ks).length → (intsL ks).getD j 0 = n
  | [], n, h => by simp [sameLit] at h
  | [.c (.num k m)], n, h => by
    simp only [sameLit, Option.some.injEq] at h
    subst h
    intro j hj
    simp only [intsL, List.length_singleton] at hj
    have : j = 0 := by omega
    subst this
    rfl
  | .c (.num k m) :: y :: r, n, h => by
    simp only [sameLit] at h
    split at h
    · rename_i m' hm
      split at h
      · rename_i e
        subst e
        simp only [Option.some.injEq] at h
        subst h
        intro j hj
        cases j with
        | zero => rfl
        | succ j =>
          have := sameLit_ints hm j (by simp only [intsL, List.length_cons] at hj ⊢; omega)
          simpa [intsL] using this
      · cases h
    · cases h
  | .c (.bit _) :: r, n, h | .c (.val _) :: r, n, h | .c (.ptr _ _) :: r, n, h | .c (.pti ..) :: r, n, h | .c (.sl ..) :: r, n, h | .c (.sls ..) :: r, n, h | .c (.fn ..) :: r, n, h | .u _ :: r, n, h | .f .. :: r, n, h => by
    simp [sameLit] at h
def selG (ks : List SK) : Nat → Int :=
  match ks with
  | [.u n] => fun j => limb n j
  | [.f _ _ g] => g
  | ks => match sameLit ks with
    | some n => fun _ => n
    | none => fun j => (intsL ks).getD j 0
theorem selG_eq {ks : List SK} {j : Nat} (h : j < (intsL ks).length) : selG ks j = (intsL ks).getD j 0 := by
  unfold selG
  split
  · rename_i n
    simp only [intsL, List.length_cons, List.length_nil] at h
    match j, h with
    | 0, _ | 1, _ | 2, _ | 3, _ => rfl
  · rename_i k m g
    simp only [intsL, List.append_nil, List.length_map, List.length_range] at h
    simp [intsL, h]
  · cases hn : sameLit ks with
    | some n => exact (sameLit_ints hn j h).symm
    | none => rfl
theorem intsL_length (ks : List SK) (ρ : Rho) (k : IntKind) (h : kindAll k ks = true) : (intsL ks).length = (flat ks).length := by
  have := congrArg List.length (ints_conc ρ k h)
  simpa [concs] using this.symm
theorem selG_conc {ks : List SK} {k : IntKind} (h : kindAll k ks = true) (ρ : Rho) {j : Nat} (hj : j < (flat ks).length) : (concs ρ ks)[j]? = some (.int k (selG ks j)) := by
  have hl := intsL_length ks ρ k h
  have hj' : j < (intsL ks).length := by omega
  rw [ints_conc ρ k h, selG_eq hj', List.getElem?_map, List.getD_eq_getElem?_getD, List.getElem?_eq_getElem hj']
  rfl
def kindHead : List SK → Option IntKind
  | [] => none
  | x :: _ => kindOf x
def semSel (ks : List SK) (base len : Nat) (i : Int) : VR :=
  match sub ks base len with
  | some cs => match kindHead cs with
    | some k => if kindAll k cs then some ([0 ≤ i ∧ i < (len : Int)], .sc (.val (.int k (selG cs i.toNat)))) else none
    | none => none
  | none => none
theorem semSel_sound {ks : List SK} {base len : Nat} {i : Int} {ps : List Prop} {z : SA} (h : semSel ks base len i = some (ps, z)) (hp : Ok ps) (ρ : Rho) :
    0 ≤ i ∧ i < len ∧ base + len ≤ (concs ρ ks).length ∧ (∃ k n, z = .sc (.val (.int k n))) ∧ (concs ρ ks)[base + i.toNat]? = some (z.conc ρ) := by
  unfold semSel at h
  split at h
  case h_2 => cases h
  rename_i cs hs
  split at h
  case h_2 => cases h
  rename_i k hk
  split at h
  case isFalse => cases h
  rename_i ha
  simp only [Option.some.injEq, Prod.mk.injEq] at h
  obtain ⟨rfl, rfl⟩ := h
  obtain ⟨⟨h0, h1⟩, _⟩ := hp
  obtain ⟨l1, l2⟩ := concs_sub hs ρ
  have hlen : (flat cs).length = len := by
    obtain ⟨a, b⟩ := sub_flat hs
    rw [b]; simp; omega
  have := selG_conc ha ρ (j := i.toNat) (by omega)
  rw [l2, List.getElem?_take, if_pos (by omega), List.getElem?_drop] at this
  exact ⟨h0, h1, l1, ⟨_, _, rfl⟩, this⟩
def isIntT (P : Program) (e : TypeId) : Bool :=
  match P.underlying e with
  | some (.int _) => true
  | _ => false
theorem isIntT_spec {P : Program} {e : TypeId} (h : isIntT P e = true) : ∃ u, P.underlying e = some u ∧ isAggD u = false := by
  unfold isIntT at h
  split at h
  · rename_i k hk; exact ⟨_, hk, rfl⟩
  · cases h
def semIndex (P : Program) (t : TypeId) (x i : SA) : VR :=
  match x, i with
  | .agg ks, .sc (.num _ n) =>
    match P.underlying t with
    | some (.array len e) => if 0 ≤ n ∧ n < len then (piece P e ks (n.toNat * P.cellsOf e)).map fun r => ([], r) else none
    | _ => none
  | .agg ks, .sc (.val (.int _ n)) =>
    match P.underlying t with
    | some (.array len e) => if P.cellsOf e = 1 ∧ isIntT P e = true then semSel ks 0 len n else none
    | _ => none
  | .sc (.val (.string s)), i =>
    match P.underlying t, asI i with
    | some .string, some (_, n) => some ([0 ≤ n ∧ n.toNat < s.size], .sc (.val (.int .u8 (s.data.getD n.toNat 0).toNat)))
    | _, _ => none
  | _, _ => none
theorem piece_info {P : Program} {t : TypeId} {ks : List SK} {off : Nat} {z : SA} (h : piece P t ks off = some z) : ∃ u, P.underlying t = some u := by
  unfold piece at h
  split at h
  · exact ⟨_, by assumption⟩
  · exact ⟨_, by assumption⟩
  · exact ⟨_, by assumption⟩
  · cases h
theorem semIndex_sound {P : Program} {t : TypeId} {x i z : SA} {ps : List Prop} (h : semIndex P t x i = some (ps, z)) (hp : Ok ps) (ρ : Rho) (n : Env) (hb : x.bnd n) (w : World) :
    (Instr.index t (x.conc ρ) (i.conc ρ)).run P w = .ok (z.conc ρ) w ∧ z.bnd n := by
  unfold semIndex at h
  split at h
  · rename_i ks k m
    split at h
    · rename_i len e hu
      split at h
      · rename_i hm
        simp only [Option.map_eq_some_iff, Prod.mk.injEq] at h
        obtain ⟨r, hr, rfl, rfl⟩ := h
        refine ⟨?_, piece_bnd hr hb⟩
        obtain ⟨u, hue⟩ := piece_info hr
        simp only [Instr.index, SA.conc, SC.conc, asIntOf, Sem.run_bind, Sem.run_pure, Result.andThen_ok, run_underlying hu, Sem.run_ite, hm, and_self, if_true, info_of_underlying' hue w]
        exact piece_sound hr ρ w
      · cases h
    · cases h
  · rename_i ks k m
    split at h
    · rename_i len e hu
      split at h
      · rename_i hm
        obtain ⟨he, hk⟩ := hm
        obtain ⟨h0, h1, hl, ⟨k', n', rfl⟩, hc⟩ := semSel_sound h hp ρ
        refine ⟨?_, trivial⟩
        obtain ⟨u, hue, hagg⟩ := isIntT_spec hk
        rw [Nat.zero_add] at hc
        simp only [Instr.index, SA.conc, SC.conc, asIntOf, Sem.run_bind, Sem.run_pure, Result.andThen_ok, run_underlying hu, Sem.run_ite, h0, h1, and_self, if_true, info_of_underlying' hue w, he, Nat.mul_one]
        simp only [part, Sem.run_bind, run_isAgg w e hue, hagg, Result.andThen_ok, Bool.false_eq_true, if_false]
        simp [hc, SA.conc, SC.conc]
      · cases h
    · cases h
  · rename_i s
    split at h
    · rename_i k m hu hi
      simp only [Option.some.injEq, Prod.mk.injEq] at h
      obtain ⟨rfl, rfl⟩ := h
      refine ⟨?_, trivial⟩
      obtain ⟨⟨h0, h1⟩, _⟩ := hp
      have hs : s[m.toNat]? = some (s.data.getD m.toNat 0) := by
        have h2 : m.toNat < s.data.size := h1
        rw [getElem?_pos s m.toNat h1, Array.getD_eq_getD_getElem?, Array.getElem?_eq_getElem h2]
        rfl
      rw [asI_sound hi]
      simp only [Instr.index, SA.conc, SC.conc, asIntOf, Sem.run_bind, Sem.run_pure, Result.andThen_ok, run_underlying hu, h0, if_true, hs]
    · cases h
  · cases h
def semField (P : Program) (t : TypeId) (f : Nat) (x : SA) : VR :=
  match x, P.underlying t with
  | .agg ks, some (.struct fs) =>
    match fs[f]? with
    | some fd => (piece P fd.type ks fd.offset).map fun r => ([], r)
    | none => none
  | _, _ => none
theorem semField_sound {P : Program} {t : TypeId} {f : Nat} {x z : SA} {ps : List Prop} (h : semField P t f x = some (ps, z)) (ρ : Rho) (n : Env) (hb : x.bnd n) (w : World) :
    (Instr.field t (x.conc ρ) f).run P w = .ok (z.conc ρ) w ∧ z.bnd n := by
  unfold semField at h
  split at h
  · rename_i ks fs hu
    split at h
    · rename_i fd hf
      simp only [Option.map_eq_some_iff, Prod.mk.injEq] at h
      obtain ⟨r, hr, rfl, rfl⟩ := h
      refine ⟨?_, piece_bnd hr hb⟩
      simp only [Instr.field, SA.conc, Sem.run_bind, run_underlying hu, Result.andThen_ok, hf, asAgg, Sem.run_pure]
      exact piece_sound hr ρ w
    · cases h
  · cases h
theorem add_addr (b off n : Nat) : (⟨b, off, none⟩ : Addr).add n = ⟨b, off + n, none⟩ := by
  unfold Addr.add; split <;> simp_all
def adOf (a : Option Addr) (n : Nat) : Addr := match a with
  | some b => b.add n
  | none => ⟨0, 0, none⟩
theorem add_block (a : Addr) (n : Nat) : (a.add n).block = a.block := by unfold Addr.add; split <;> rfl
theorem add_off (a : Addr) (n : Nat) : (a.add n).off = a.off + n := by
  unfold Addr.add; split
  · rename_i h; rw [h, Nat.add_zero]
  · rfl
theorem add_spot {a : Addr} (h : a.spot = none) (n : Nat) : (a.add n).spot = none := by unfold Addr.add; split <;> first | exact h | rfl
theorem px_add {n : Env} {a : Addr} {m k : Nat} {h : Nat → SC} (hb : (SC.px a m h).bnd n) : (SC.px (a.add k) (m - k) (fun c => h (k + c))).bnd n := by
  obtain ⟨h1, h2⟩ := hb
  refine ⟨add_spot h1 k, fun c hc => ?_⟩
  obtain ⟨k1, k2, k3⟩ := h2 (k + c) (by omega)
  refine ⟨k1, k2, ?_⟩
  rw [add_block, add_off, Nat.add_assoc]; exact k3
theorem xs_at {n : Env} {a : Option Addr} {m cap w : Nat} {g : Nat → Nat → SC} (hb : (SC.xs a m cap w g).bnd n) {i : Nat} (hi : i < m) : ∃ b, a = some b ∧ (SC.px (adOf a (i * w)) w (g i)).bnd n := by
  obtain ⟨h1, _, h2⟩ := hb
  cases a with
  | none => have := (h1 rfl).1; omega
  | some b =>
    obtain ⟨k1, k2⟩ := h2 b rfl
    refine ⟨b, rfl, add_spot (k1 (by omega)) _, fun c hc => ?_⟩
    obtain ⟨q1, q2, q3⟩ := k2 i hi c hc
    refine ⟨q1, q2, ?_⟩
    simp only [adOf]
    rw [add_block, add_off, Nat.add_assoc]; exact q3
def semIdxAddr (P : Program) (t : TypeId) (x i : SA) : VR :=
  match x, i, P.underlying t with
  | .sc (.ptr o off), .sc (.num _ n), some (.array len e) => if (0 ≤ n ∧ n < len) ∧ (P.info? e).isSome then some ([], .sc (.ptr o (off + n.toNat * P.cellsOf e))) else none
  | .sc (.ptr o off), .sc (.val (.int _ n)), some (.array len e) => if P.cellsOf e = 1 then some ([0 ≤ n ∧ n < (len : Int)], .sc (.pti o off len n)) else none
  | .sc (.sl o off len _), .sc (.num _ n), some (.slice e) => if (0 ≤ n ∧ n < len) ∧ (P.info? e).isSome then some ([], .sc (.ptr o (off + n.toNat * P.cellsOf e))) else none
  | .sc (.sl o off len _), .sc (.val (.int _ n)), some (.slice e) => if P.cellsOf e = 1 then some ([0 ≤ n ∧ n < (len : Int)], .sc (.pti o off len n)) else none
  | .sc (.sls o base lo hi _), i, some (.slice e) => match asI i with
    | some (_, n) => if P.cellsOf e = 1 then some ([0 ≤ n ∧ n < ((hi - lo : Nat) : Int)], .sc (.pti o base hi ((lo : Int) + n))) else none
    | none => none
  | .sc (.slw o w off len _), i, some (.slice e) => match asI i with
    | some (_, n) => if P.cellsOf e = w ∧ (P.info? e).isSome then some ([0 ≤ n ∧ n < (len : Int)], .sc (.ptw o w (off + n.toNat) 0)) else none
    | none => none
  | .sc (.xs a len _ w g), i, some (.slice e) => match asI i with
    | some (_, n) => if P.cellsOf e = w ∧ (P.info? e).isSome then some ([0 ≤ n ∧ n < (len : Int)], .sc (.px (adOf a (n.toNat * w)) w (g n.toNat))) else none
    | none => none
  | .sc (.ptw o w j c), .sc (.num _ n), some (.array len e) => if (0 ≤ n ∧ n < len) ∧ (P.info? e).isSome then some ([], .sc (.ptw o w j (c + n.toNat * P.cellsOf e))) else none
  | .sc (.val (.pointer (some ⟨b, off, none⟩))), .sc (.num _ n), some (.array len e) => if (0 ≤ n ∧ n < len) ∧ (P.info? e).isSome then some ([], .sc (.val (.pointer (some ⟨b, off + n.toNat * P.cellsOf e, none⟩)))) else none
  | .sc (.px a m h), .sc (.num _ n), some (.array len e) => if (0 ≤ n ∧ n < len) ∧ (P.info? e).isSome then some ([], .sc (.px (a.add (n.toNat * P.cellsOf e)) (m - n.toNat * P.cellsOf e) (fun c => h (n.toNat * P.cellsOf e + c)))) else none
  | _, _, _ => none
theorem info_of_cells {P : Program} {e : TypeId} {n : Nat} (h : P.cellsOf e = n + 1) : ∃ i, P.info? e = some i := by
  unfold Program.cellsOf at h
  cases hi : P.info? e with
  | none => simp [hi] at h
  | some i => exact ⟨i, rfl⟩
theorem semIdxAddr_sound {P : Program} {t : TypeId} {x i z : SA} {ps : List Prop} (h : semIdxAddr P t x i = some (ps, z)) (hp : Ok ps) (ρ : Rho) (n : Env) (hb : x.bnd n) (w : World) :
    (Instr.indexAt t (x.conc ρ) (i.conc ρ)).run P w = .ok (z.conc ρ) w ∧ z.bnd n := by
  unfold semIdxAddr at h
  split at h
  · rename_i o off k m len e hu
    split at h
    · rename_i hm
      obtain ⟨hm, hi⟩ := hm
      obtain ⟨i, hi⟩ := Option.isSome_iff_exists.1 hi
      simp only [Option.some.injEq, Prod.mk.injEq] at h
      obtain ⟨rfl, rfl⟩ := h
      refine ⟨?_, hb⟩
      simp only [Instr.indexAt, SA.conc, SC.conc, asIntOf, Sem.run_bind, Sem.run_pure, Result.andThen_ok, run_underlying hu, Instr.sureAddr, Sem.run_ite, hm, and_self, if_true, run_sizeOf w hi, add_addr]
    · cases h
  · rename_i o off k m len e hu
    split at h
    · rename_i he
      simp only [Option.some.injEq, Prod.mk.injEq] at h
      obtain ⟨rfl, rfl⟩ := h
      obtain ⟨hm, _⟩ := hp
      obtain ⟨i, hi⟩ := info_of_cells he
      refine ⟨?_, hb⟩
      simp only [Instr.indexAt, SA.conc, SC.conc, asIntOf, Sem.run_bind, Sem.run_pure, Result.andThen_ok, run_underlying hu, Instr.sureAddr, Sem.run_ite, hm, and_self, if_true, run_sizeOf w hi, add_addr, he, Nat.mul_one]
    · cases h
  · rename_i o off len cap k m e hu
    split at h
    · rename_i hm
      obtain ⟨hm, hi⟩ := hm
      obtain ⟨i, hi⟩ := Option.isSome_iff_exists.1 hi
      simp only [Option.some.injEq, Prod.mk.injEq] at h
      obtain ⟨rfl, rfl⟩ := h
      refine ⟨?_, hb⟩
      simp only [Instr.indexAt, SA.conc, SC.conc, asIntOf, Sem.run_bind, Sem.run_pure, Result.andThen_ok, run_underlying hu, Instr.sureAddr, Sem.run_ite, hm, and_self, if_true, run_sizeOf w hi, add_addr]
    · cases h
  · rename_i o off len cap k m e hu
    split at h
    · rename_i he
      simp only [Option.some.injEq, Prod.mk.injEq] at h
      obtain ⟨rfl, rfl⟩ := h
      obtain ⟨hm, _⟩ := hp
      obtain ⟨i, hi⟩ := info_of_cells he
      refine ⟨?_, hb⟩
      simp only [Instr.indexAt, SA.conc, SC.conc, asIntOf, Sem.run_bind, Sem.run_pure, Result.andThen_ok, run_underlying hu, Instr.sureAddr, Sem.run_ite, hm, and_self, if_true, run_sizeOf w hi, add_addr, he, Nat.mul_one]
    · cases h
  · rename_i o base lo hi' cap e hu
    split at h
    · rename_i k m hk
      split at h
      · rename_i he
        simp only [Option.some.injEq, Prod.mk.injEq] at h
        obtain ⟨rfl, rfl⟩ := h
        obtain ⟨hm, _⟩ := hp
        obtain ⟨i, hi⟩ := info_of_cells he
        refine ⟨?_, hb⟩
        rw [asI_sound hk ρ]
        have e1 : base + ((lo : Int) + m).toNat = base + lo + m.toNat := by omega
        simp only [Instr.indexAt, SA.conc, SC.conc, asIntOf, Sem.run_bind, Sem.run_pure, Result.andThen_ok, run_underlying hu, Sem.run_ite, hm, and_self, if_true, run_sizeOf w hi, add_addr, he, Nat.mul_one, e1]
      · cases h
    · cases h
  · rename_i o w0 off len cap i e hu
    split at h
    · rename_i k m hk
      split at h
      · rename_i he
        obtain ⟨he, hi⟩ := he
        obtain ⟨i, hi⟩ := Option.isSome_iff_exists.1 hi
        simp only [Option.some.injEq, Prod.mk.injEq] at h
        obtain ⟨rfl, rfl⟩ := h
        obtain ⟨hm, _⟩ := hp
        refine ⟨?_, hb⟩
        rw [asI_sound hk ρ]
        simp only [Instr.indexAt, SA.conc, SC.conc, asIntOf, Sem.run_bind, Sem.run_pure, Result.andThen_ok, run_underlying hu, Sem.run_ite, hm, and_self, if_true, run_sizeOf w hi, add_addr, he, Nat.add_mul, Nat.add_zero]
      · cases h
    · cases h
  · rename_i a len cap w0 g i e hu
    split at h
    · rename_i k m hk
      split at h
      · rename_i he
        obtain ⟨he, hi⟩ := he
        obtain ⟨i, hi⟩ := Option.isSome_iff_exists.1 hi
        simp only [Option.some.injEq, Prod.mk.injEq] at h
        obtain ⟨rfl, rfl⟩ := h
        obtain ⟨hm, _⟩ := hp
        obtain ⟨b, rfl, hpx⟩ := xs_at hb (i := m.toNat) (by omega)
        refine ⟨?_, hpx⟩
        rw [asI_sound hk ρ]
        simp only [Instr.indexAt, SA.conc, SC.conc, asIntOf, Sem.run_bind, Sem.run_pure, Result.andThen_ok, run_underlying hu, Sem.run_ite, hm, and_self, if_true, run_sizeOf w hi, he, adOf]
      · cases h
    · cases h
  · rename_i o w0 j c k m len e hu
    split at h
    · rename_i hm
      obtain ⟨hm, hi⟩ := hm
      obtain ⟨i, hi⟩ := Option.isSome_iff_exists.1 hi
      simp only [Option.some.injEq, Prod.mk.injEq] at h
      obtain ⟨rfl, rfl⟩ := h
      refine ⟨?_, hb⟩
      simp only [Instr.indexAt, SA.conc, SC.conc, asIntOf, Sem.run_bind, Sem.run_pure, Result.andThen_ok, run_underlying hu, Instr.sureAddr, Sem.run_ite, hm, and_self, if_true, run_sizeOf w hi, add_addr, Nat.add_assoc]
    · cases h
  · rename_i b off k m len e hu
    split at h
    · rename_i hm
      obtain ⟨hm, hi⟩ := hm
      obtain ⟨i, hi⟩ := Option.isSome_iff_exists.1 hi
      simp only [Option.some.injEq, Prod.mk.injEq] at h
      obtain ⟨rfl, rfl⟩ := h
      refine ⟨?_, trivial⟩
      simp only [Instr.indexAt, SA.conc, SC.conc, asIntOf, Sem.run_bind, Sem.run_pure, Result.andThen_ok, run_underlying hu, Instr.sureAddr, Sem.run_ite, hm, and_self, if_true, run_sizeOf w hi, add_addr]
    · cases h
  · rename_i a m0 g k m len e hu
    split at h
    · rename_i hm
      obtain ⟨hm, hi⟩ := hm
      obtain ⟨i, hi⟩ := Option.isSome_iff_exists.1 hi
      simp only [Option.some.injEq, Prod.mk.injEq] at h
      obtain ⟨rfl, rfl⟩ := h
      refine ⟨?_, px_add hb⟩
      simp only [Instr.indexAt, SA.conc, SC.conc, asIntOf, Sem.run_bind, Sem.run_pure, Result.andThen_ok, run_underlying hu, Instr.sureAddr, Sem.run_ite, hm, and_self, if_true, run_sizeOf w hi]
    · cases h
  · cases h
def semFldAddr (P : Program) (t : TypeId) (f : Nat) (x : SA) : VR :=
  match P.underlying t with
  | some (.struct fs) =>
    match fs[f]? with
    | some fd => if P.cellsOf fd.type ≠ 0 then (match x with
      | .sc (.ptr o off) => some ([], .sc (.ptr o (off + fd.offset)))
      | .sc (.ptw o w i c) => some ([], .sc (.ptw o w i (c + fd.offset)))
      | .sc (.px a m h) => some ([], .sc (.px (a.add fd.offset) (m - fd.offset) (fun c => h (fd.offset + c))))
      | _ => none) else none
    | none => none
  | _ => none
theorem semFldAddr_sound {P : Program} {t : TypeId} {f : Nat} {x z : SA} {ps : List Prop} (h : semFldAddr P t f x = some (ps, z)) (ρ : Rho) (n : Env) (hb : x.bnd n) (w : World) :
    (Instr.fieldAt t (x.conc ρ) f).run P w = .ok (z.conc ρ) w ∧ z.bnd n := by
  unfold semFldAddr at h
  split at h
  · rename_i fs hu
    split at h
    · rename_i fd hf
      split at h
      · rename_i hs
        have hi : ∃ i, P.info? fd.type = some i := by
          unfold Program.cellsOf at hs
          cases hi : P.info? fd.type with
          | none => simp [hi] at hs
          | some i => exact ⟨i, rfl⟩
        obtain ⟨i, hi⟩ := hi
        split at h
        · simp only [Option.some.injEq, Prod.mk.injEq] at h
          obtain ⟨rfl, rfl⟩ := h
          refine ⟨?_, hb⟩
          simp only [Instr.fieldAt, SA.conc, SC.conc, Sem.run_bind, Sem.run_pure, Result.andThen_ok, run_underlying hu, hf, Instr.sureAddr, fieldPlace, run_sizeOf w hi, Sem.run_ite, hs, if_false, add_addr]
        · simp only [Option.some.injEq, Prod.mk.injEq] at h
          obtain ⟨rfl, rfl⟩ := h
          refine ⟨?_, hb⟩
          simp only [Instr.fieldAt, SA.conc, SC.conc, Sem.run_bind, Sem.run_pure, Result.andThen_ok, run_underlying hu, hf, Instr.sureAddr, fieldPlace, run_sizeOf w hi, Sem.run_ite, hs, if_false, add_addr, Nat.add_assoc]
        · simp only [Option.some.injEq, Prod.mk.injEq] at h
          obtain ⟨rfl, rfl⟩ := h
          refine ⟨?_, px_add hb⟩
          simp only [Instr.fieldAt, SA.conc, SC.conc, Sem.run_bind, Sem.run_pure, Result.andThen_ok, run_underlying hu, hf, Instr.sureAddr, fieldPlace, run_sizeOf w hi, Sem.run_ite, hs, if_false]
        · cases h
      · cases h
    · cases h
  · cases h
end Go.Sx
end
