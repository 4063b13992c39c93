/-
  Texts: Sx7, Sx8, Sx9.
-/
import Derived.Test.YtkjakddmmagjaaaM1
import Derived.Laws.MakeOwn
import Derived.Great.BuildSlice
import Derived.Laws.BytesString
import Derived.Maps.AppendAt
section
/-
  A calculus of symbolic states for walks over translated Go code, part 7: one operation.
-/
namespace Go.Sx
open Go.RowKit

/-! ## A struct or an array put together -/

def placesOf (P : Program) (t : TypeId) : Option (Nat → Option (Nat × Nat)) :=
  match P.underlying t with
  | some (.array _ e) => (P.info? e).map fun ie i => some (i * ie.size, ie.size)
  | some (.struct fs) => (fs.toList.mapM (fun f => (P.info? f.type).map fun i => (f.offset, i.size))).map fun pl i => pl.toArray[i]?
  | _ => none
def fillKs (place : Nat → Option (Nat × Nat)) : List SK → List (Nat × SA) → Option (List SK)
  | ks, [] => some ks
  | ks, (i, x) :: r =>
    match place i with
    | some (off, size) => if (flat (toKs x)).length = size then (lay ks off (toKs x)).bind fun ks' => fillKs place ks' r else none
    | none => none
def semBuild (P : Program) (t : TypeId) (parts : List (Nat × SA)) : VR :=
  match placesOf P t, zeroKs P t with
  | some pl, some zk => (fillKs pl zk parts).map fun ks => ([], .agg ks)
  | _, _ => none

theorem foldl_lay : ∀ (vs : List Value) (off j : Nat) (cur : Array Value), off + j + vs.length ≤ cur.size →
    ((vs.zipIdx j).foldl (fun cs (x : Value × Nat) => cs.setIfInBounds (off + x.2) x.1) cur).toList = cur.toList.take (off + j) ++ vs ++ cur.toList.drop (off + j + vs.length)
  | [], off, j, cur, _ => by simp
  | v :: vs, off, j, cur, h => by
    simp only [List.length_cons] at h
    have ih := foldl_lay vs off (j + 1) (cur.setIfInBounds (off + j) v) (by simp; omega)
    simp only [List.zipIdx_cons, List.foldl_cons]
    rw [ih]
    apply List.ext_getElem?
    intro i
    simp only [Array.toList_setIfInBounds, List.getElem?_append, List.length_append, List.length_take, List.length_set, Array.length_toList, List.getElem?_take, List.getElem?_set, List.getElem?_drop, List.length_cons]
    by_cases h1 : i < off + j
    · have a1 : i < off + (j + 1) := by omega
      have a2 : off + j ≠ i := by omega
      simp [show i < min (off + (j + 1)) cur.size by omega, show i < min (off + j) cur.size by omega, show i < min (off + (j + 1)) cur.size + vs.length by omega, show i < min (off + j) cur.size + (vs.length + 1) by omega, h1, a1, a2]
    · by_cases h2 : i = off + j
      · subst h2
        simp [show off + j < min (off + (j + 1)) cur.size by omega, show ¬ off + j < min (off + j) cur.size by omega, show off + j < min (off + (j + 1)) cur.size + vs.length by omega, show off + j < min (off + j) cur.size + (vs.length + 1) by omega,
          show off + j < off + (j + 1) by omega, show off + j < cur.size by omega, show off + j - min (off + j) cur.size = 0 by omega]
      · by_cases h3 : i < off + j + 1 + vs.length
        · simp [show ¬ i < min (off + (j + 1)) cur.size by omega, show ¬ i < min (off + j) cur.size by omega, show i < min (off + (j + 1)) cur.size + vs.length by omega, show i < min (off + j) cur.size + (vs.length + 1) by omega,
            show i - min (off + j) cur.size = (i - min (off + (j + 1)) cur.size) + 1 by omega]
        · simp [show ¬ i < min (off + (j + 1)) cur.size + vs.length by omega, show ¬ i < min (off + j) cur.size + (vs.length + 1) by omega]
          rw [if_neg (by omega)]
          congr 1
          omega

theorem fillKs_sound {place : Nat → Option (Nat × Nat)} (ρ : Nat → Nat) : ∀ {parts : List (Nat × SA)} {ks r : List SK}, fillKs place ks parts = some r →
    Instr.fill place (concs ρ ks).toArray (parts.map fun p => (p.1, p.2.conc ρ)) = some (concs ρ r).toArray
  | [], ks, r, h => by simp only [fillKs, Option.some.injEq] at h; subst h; rfl
  | (i, x) :: parts, ks, r, h => by
    simp only [fillKs] at h
    split at h
    · rename_i off size hp
      split at h
      · rename_i hs
        obtain ⟨ks', h1, h2⟩ := Option.bind_eq_some_iff.1 h
        have ih := fillKs_sound ρ h2
        obtain ⟨l1, l2⟩ := lay_flat h1
        simp only [List.map_cons, Instr.fill, hp, toKs_conc]
        have hlen : (concs ρ (toKs x)).length = size := by simp [concs, hs]
        have c1 : (decide ((concs ρ (toKs x)).toArray.size ≠ size) || decide (off + (concs ρ (toKs x)).toArray.size > (concs ρ ks).toArray.size)) = false := by
          simp only [List.size_toArray, hlen, ne_eq, not_true_eq_false, decide_false, Bool.false_or, decide_eq_false_iff_not]
          have : (concs ρ ks).length = (flat ks).length := by simp [concs]
          omega
        rw [c1]
        simp only [Bool.false_eq_true, if_false]
        rw [← ih]
        congr 1
        have := foldl_lay (concs ρ (toKs x)) off 0 (concs ρ ks).toArray (by simp only [concs, List.length_map, List.size_toArray]; omega)
        apply Array.ext'
        rw [← Array.foldl_toList, Array.toList_zipIdx]
        simp only [Nat.add_zero] at this ⊢
        rw [this]
        simp only [concs, l2, List.map_append, List.map_take, List.map_drop, List.length_map]
      · cases h
    · cases h

theorem lay_bnd {n : Nat → Prop} {ks new r : List SK} {off : Nat} (h : lay ks off new = some r) (h1 : ∀ k ∈ ks, k.bnd n) (h2 : ∀ k ∈ new, k.bnd n) : ∀ k ∈ r, k.bnd n := by
  rw [bnd_flat, (lay_flat h).2]
  intro c hc
  simp only [List.mem_append] at hc
  rcases hc with (hc | hc) | hc
  · exact bnd_flat.1 h1 c (List.mem_of_mem_take hc)
  · exact bnd_flat.1 h2 c hc
  · exact bnd_flat.1 h1 c (List.mem_of_mem_drop hc)
theorem fillKs_bnd {place : Nat → Option (Nat × Nat)} {n : Nat → Prop} : ∀ {parts : List (Nat × SA)} {ks r : List SK}, fillKs place ks parts = some r → (∀ k ∈ ks, k.bnd n) → (∀ p ∈ parts, p.2.bnd n) → ∀ k ∈ r, k.bnd n
  | [], ks, r, h, h1, _ => by simp only [fillKs, Option.some.injEq] at h; subst h; exact h1
  | (i, x) :: parts, ks, r, h, h1, h2 => by
    simp only [fillKs] at h
    split at h
    · split at h
      · obtain ⟨ks', e1, e2⟩ := Option.bind_eq_some_iff.1 h
        exact fillKs_bnd e2 (lay_bnd e1 h1 (toKs_bnd (h2 (i, x) (by simp)))) (fun p hp => h2 p (by simp [hp]))
      · cases h
    · cases h
theorem zeroKs_bnd {P : Program} {t : TypeId} {ks : List SK} (h : zeroKs P t = some ks) (n : Nat → Prop) : ∀ k ∈ ks, k.bnd n := by
  unfold zeroKs at h
  split at h
  · simp only [Option.some.injEq] at h; subst h
    intro k hk
    obtain ⟨v, _, rfl⟩ := List.mem_map.1 hk
    exact litC_bnd n v
  · cases h
theorem semBuild_sound {P : Program} {t : TypeId} {parts : List (Nat × SA)} {ps : List Prop} {z : SA} (h : semBuild P t parts = some (ps, z)) (ρ : Nat → Nat) (n : Nat → Prop) (hb : ∀ p ∈ parts, p.2.bnd n) (w : World) :
    (Instr.build t (parts.map fun p => (p.1, p.2.conc ρ)).toArray).run P w = .ok (z.conc ρ) w ∧ z.bnd n := by
  unfold semBuild at h
  split at h
  case h_2 => cases h
  rename_i pl zk hpl hzk
  simp only [Option.map_eq_some_iff, Prod.mk.injEq] at h
  obtain ⟨ks, hf, rfl, rfl⟩ := h
  refine ⟨?_, fillKs_bnd hf (zeroKs_bnd hzk n) hb⟩
  have hfill := fillKs_sound ρ hf
  unfold zeroKs at hzk
  split at hzk
  case h_2 => cases hzk
  rename_i z hz
  simp only [Option.some.injEq] at hzk
  subst hzk
  obtain ⟨i, hi, hz⟩ := Option.bind_eq_some_iff.1 hz
  rw [litCs_conc] at hfill
  refine run_build w t _ _ ?_
  unfold Program.built placesOf at *
  split at hpl
  · rename_i m e hu
    obtain ⟨ie, hie, rfl⟩ := Option.map_eq_some_iff.1 hpl
    simp only [hi, hu, hz, hie]
    exact hfill
  · rename_i fs hu
    obtain ⟨pl', hpl', rfl⟩ := Option.map_eq_some_iff.1 hpl
    simp only [hi, hu, hz, hpl']
    exact hfill
  · cases hpl

end Go.Sx
end

section
/-
  A calculus of symbolic states for walks over translated Go code, part 8: whatever operation, under its guard; a region.
-/
namespace Go.Sx
open Go.RowKit

/-- What a call of a function comes to: of its arguments, what is owed and what it gives. -/
abbrev FSpec := List SA → Option (List Prop × SV)
abbrev Cx := List (Nat × FSpec)
def Cx.get (cx : Cx) (f : Nat) : Option FSpec :=
  match cx with
  | [] => none
  | (g, s) :: r => if Nat.beq g f then some s else Cx.get r f

def FnOK (P : Program) (f : Nat) (s : FSpec) : Prop :=
  ∀ args ps sv, s args = some (ps, sv) → Ok ps → sv.bnd none0 ∧ ∀ (ρ : Nat → Nat) (w : World),
    ((callFunc f (args.map (SA.conc ρ)).toArray).run P w = .ok (.enter f (args.map (SA.conc ρ)).toArray) w ∧
      Calls P f (args.map (SA.conc ρ)).toArray w fun e w' => ∃ v, e = .returned v ∧ sv.rep ρ v ∧ Below w.heap.size w w') ∨
    ∃ v, (callFunc f (args.map (SA.conc ρ)).toArray).run P w = .ok (.value v) w ∧ sv.rep ρ v
def CxOK (P : Program) (cx : Cx) : Prop := ∀ p ∈ cx, FnOK P p.1 p.2
theorem Cx.get_ok {P : Program} : ∀ {cx : Cx} {f : Nat} {s : FSpec}, CxOK P cx → cx.get f = some s → FnOK P f s
  | [], _, _, _, h => by simp [Cx.get] at h
  | (g, s') :: r, f, s, hc, h => by
    simp only [Cx.get] at h
    split at h
    · rename_i hg
      simp only [Option.some.injEq] at h; subst h
      have : g = f := Nat.eq_of_beq_eq_true hg
      subst this
      exact hc (g, s') (by simp)
    · exact Cx.get_ok (fun p hp => hc p (by simp [hp])) h

def rd1 (tm : List SV) (x : Operand) (f : SA → VR) : VR :=
  match rd tm x with
  | some (ps, y) => match f y with
    | some (qs, z) => some (ps ++ qs, z)
    | none => none
  | none => none
def rd2 (tm : List SV) (x y : Operand) (f : SA → SA → VR) : VR := rd1 tm x fun a => rd1 tm y fun b => f a b
theorem rd1_sound {tm : List SV} {x : Operand} {f : SA → VR} {ps : List Prop} {z : SA} (h : rd1 tm x f = some (ps, z)) (hp : Ok ps) :
    ∃ p1 y p2, rd tm x = some (p1, y) ∧ f y = some (p2, z) ∧ Ok p1 ∧ Ok p2 := by
  unfold rd1 at h
  split at h
  · rename_i p1 y hy
    split at h
    · rename_i p2 z' hz
      simp only [Option.some.injEq, Prod.mk.injEq] at h
      obtain ⟨rfl, rfl⟩ := h
      obtain ⟨o1, o2⟩ := Ok.append.1 hp
      exact ⟨p1, y, p2, hy, hz, o1, o2⟩
    · cases h
  · cases h

def pickRes (b bx by' : Bool) (xv yv : SA) : SA :=
  match yv, xv with
  | .sc (.bit false), _ => .sc (.val (.bool (b && bx)))
  | _, .sc (.bit true) => .sc (.val (.bool (b || by')))
  | _, _ => .sc (.val (.bool (if b then bx else by')))
theorem pickRes_sound {b bx by' : Bool} {xv yv : SA} (hx : asB xv = some bx) (hy : asB yv = some by') (ρ : Nat → Nat) (n : Nat → Prop) :
    (pickRes b bx by' xv yv).conc ρ = .bool (if b then bx else by') ∧ (pickRes b bx by' xv yv).bnd n := by
  unfold pickRes
  split
  · simp only [asB, Option.some.injEq] at hy
    subst hy
    refine ⟨?_, trivial⟩
    cases b <;> rfl
  · simp only [asB, Option.some.injEq] at hx
    subst hx
    refine ⟨?_, trivial⟩
    cases b <;> rfl
  · exact ⟨rfl, trivial⟩
/-- '&&' and '||': the second one counts, or the first one says it. -/
def semPick (tm : List SV) (c x y : Operand) : VR :=
  rd1 tm c fun cv =>
    match cv with
    | .sc (.bit true) => rd1 tm x fun z => some ([], z)
    | .sc (.bit false) => rd1 tm y fun z => some ([], z)
    | .sc (.val (.bool b)) =>
      match rd tm x, rd tm y with
      | some (p1, xv), some (p2, yv) =>
        match asB xv, asB yv with
        | some bx, some by' =>
          some (p1.map (fun p => b = true → p) ++ p2.map (fun p => b = false → p), pickRes b bx by' xv yv)
        | _, _ => none
      | _, _ => none
    | _ => none
theorem Ok_map {ps : List Prop} {q : Prop} (h : Ok (ps.map fun p => q → p)) (hq : q) : Ok ps := by
  induction ps with
  | nil => trivial
  | cons p r ih => exact ⟨h.1 hq, ih h.2⟩

def rdL (tm : List SV) : List Operand → Option (List Prop × List SA)
  | [] => some ([], [])
  | x :: r =>
    match rd tm x, rdL tm r with
    | some (ps, y), some (qs, ys) => some (ps ++ qs, y :: ys)
    | _, _ => none
def rdP (tm : List SV) : List (Nat × Operand) → Option (List Prop × List (Nat × SA))
  | [] => some ([], [])
  | (i, x) :: r =>
    match rd tm x, rdP tm r with
    | some (ps, y), some (qs, ys) => some (ps ++ qs, (i, y) :: ys)
    | _, _ => none

section
variable {W0 : Base} {ρ : Nat → Nat} {tm : List SV} {ob : List SO} {a : Act} {w : World}
theorem rdL_sound (H : Holds W0 ρ tm ob a w) : ∀ {xs : List Operand} {ps : List Prop} {ys : List SA}, rdL tm xs = some (ps, ys) → Ok ps → xs.map a.eval = ys.map (SA.conc ρ) ∧ ∀ y ∈ ys, y.bnd (live ob)
  | [], ps, ys, h, _ => by simp only [rdL, Option.some.injEq, Prod.mk.injEq] at h; obtain ⟨rfl, rfl⟩ := h; simp
  | x :: r, ps, ys, h, hp => by
    simp only [rdL] at h
    split at h
    · rename_i p1 y p2 ys' h1 h2
      simp only [Option.some.injEq, Prod.mk.injEq] at h
      obtain ⟨rfl, rfl⟩ := h
      obtain ⟨o1, o2⟩ := Ok.append.1 hp
      obtain ⟨e1, b1⟩ := rd_sound h1 o1 H
      obtain ⟨e2, b2⟩ := rdL_sound H h2 o2
      exact ⟨by simp [e1, e2], fun z hz => by rcases List.mem_cons.1 hz with rfl | hz; exact b1; exact b2 z hz⟩
    · cases h
theorem rdP_sound (H : Holds W0 ρ tm ob a w) : ∀ {xs : List (Nat × Operand)} {ps : List Prop} {ys : List (Nat × SA)}, rdP tm xs = some (ps, ys) → Ok ps →
    xs.map (fun p => (p.1, a.eval p.2)) = ys.map (fun p => (p.1, p.2.conc ρ)) ∧ ∀ y ∈ ys, y.2.bnd (live ob)
  | [], ps, ys, h, _ => by simp only [rdP, Option.some.injEq, Prod.mk.injEq] at h; obtain ⟨rfl, rfl⟩ := h; simp
  | (i, x) :: r, ps, ys, h, hp => by
    simp only [rdP] at h
    split at h
    · rename_i p1 y p2 ys' h1 h2
      simp only [Option.some.injEq, Prod.mk.injEq] at h
      obtain ⟨rfl, rfl⟩ := h
      obtain ⟨o1, o2⟩ := Ok.append.1 hp
      obtain ⟨e1, b1⟩ := rd_sound h1 o1 H
      obtain ⟨e2, b2⟩ := rdP_sound H h2 o2
      exact ⟨by simp [e1, e2], fun z hz => by rcases List.mem_cons.1 hz with rfl | hz; exact b1; exact b2 z hz⟩
    · cases h
end

/-- The length of what is long. -/
def semLen (P : Program) (ts : Array TypeId) (t : TypeId) (xs : List SA) : VR :=
  match xs with
  | [.sc (.sl _ _ len _)] =>
    match ts[0]? with
    | some st => match P.underlying st with
      | some (.slice _) => some ([], .sc (.num .i64 (len : Int)))
      | _ => none
    | none => none
  | [.sc (.sls _ _ lo hi _)] =>
    match ts[0]? with
    | some st => match P.underlying st with
      | some (.slice _) => some ([], .sc (.val (.int .i64 ((hi - lo : Nat) : Int))))
      | _ => none
    | none => none
  | [x] =>
    match asV x with
    | some v => (evalS P (Builtin.len_ ts t #[v])).map fun r => ([], ofV (isLit x || (match v with | .slice none _ _ => true | _ => false)) r)
    | none => none
  | _ => none
theorem semLen_sound {P : Program} {ts : Array TypeId} {t : TypeId} {xs : List SA} {ps : List Prop} {z : SA} (h : semLen P ts t xs = some (ps, z)) (ρ : Nat → Nat) (n : Nat → Prop) (w : World) :
    (Builtin.len_ ts t (xs.map (SA.conc ρ)).toArray).run P w = .ok (z.conc ρ) w ∧ z.bnd n := by
  unfold semLen at h
  split at h
  · rename_i o off len cap
    split at h
    · rename_i st hs
      split at h
      · rename_i e hu
        simp only [Option.some.injEq, Prod.mk.injEq] at h
        obtain ⟨rfl, rfl⟩ := h
        refine ⟨?_, trivial⟩
        simp [Builtin.len_, hs, run_underlying hu, SA.conc, SC.conc, goInt]
      · cases h
    · cases h
  · rename_i o base lo hi cap
    split at h
    · rename_i st hs
      split at h
      · rename_i e hu
        simp only [Option.some.injEq, Prod.mk.injEq] at h
        obtain ⟨rfl, rfl⟩ := h
        refine ⟨?_, trivial⟩
        simp [Builtin.len_, hs, run_underlying hu, SA.conc, SC.conc, goInt]
      · cases h
    · cases h
  · rename_i x _ _
    split at h
    case h_2 => cases h
    rename_i v hv
    simp only [Option.map_eq_some_iff, Prod.mk.injEq] at h
    obtain ⟨r, hr, rfl, rfl⟩ := h
    refine ⟨?_, ofV_bnd _ _ _⟩
    have : (List.map (SA.conc ρ) [x]).toArray = #[v] := by simp [asV_sound hv ρ]
    rw [this, evalS_sound w hr, ofV_conc]
  · cases h
/-- The room of what has some. -/
def semCap (P : Program) (ts : Array TypeId) (xs : List SA) : VR :=
  match xs with
  | [.sc (.sl _ _ _ cap)] =>
    match ts[0]? with
    | some st => match P.underlying st with
      | some (.slice _) => some ([], .sc (.val (.int .i64 (cap : Int))))
      | _ => none
    | none => none
  | _ => none
theorem semCap_sound {P : Program} {ts : Array TypeId} {t : TypeId} {xs : List SA} {ps : List Prop} {z : SA} (h : semCap P ts xs = some (ps, z)) (ρ : Nat → Nat) (n : Nat → Prop) (w : World) :
    (Builtin.cap_ ts t (xs.map (SA.conc ρ)).toArray).run P w = .ok (z.conc ρ) w ∧ z.bnd n := by
  unfold semCap at h
  split at h
  · rename_i o off len cap
    split at h
    · rename_i st hs
      split at h
      · rename_i e hu
        simp only [Option.some.injEq, Prod.mk.injEq] at h
        obtain ⟨rfl, rfl⟩ := h
        refine ⟨?_, trivial⟩
        simp [Builtin.cap_, hs, run_underlying hu, SA.conc, SC.conc, goInt]
      · cases h
    · cases h
  · cases h

/-! ## Slices -/

def asNat : SA → Option Nat
  | .sc (.num _ (.ofNat n)) => some n
  | _ => none
/-- Ends of a slice: what is told, or what else counts. -/
def endOf (x : Option SA) (d : Nat) : Option Nat :=
  match x with
  | none => some d
  | some a => asNat a
theorem asNat_sound {x : SA} {n : Nat} (h : asNat x = some n) (ρ : Nat → Nat) : ∃ k, x.conc ρ = .int k (n : Int) := by
  unfold asNat at h
  split at h
  · simp only [Option.some.injEq] at h; subst h; exact ⟨_, rfl⟩
  · cases h
theorem run_sliceBound {P : Program} (w : World) (k : IntKind) (i : Int) (y : Nat) (code : BoundsCode) (h : 0 ≤ i ∧ i ≤ y) : (Instr.sliceBound (.int k i) y code).run P w = .ok i.toNat w := by
  simp [Instr.sliceBound, asIntOf, h]
def moved (off l size h : Nat) : Option Nat :=
  match l with
  | 0 => some off
  | l + 1 => if l + 1 < h then some (off + (l + 1) * size) else none
theorem moved_sound {off l size h r m b : Nat} (hm : moved off l size h = some r) (hle : h ≤ m) : (if m = l then (⟨b, off, none⟩ : Addr) else (⟨b, off, none⟩ : Addr).add (l * size)) = ⟨b, r, none⟩ := by
  unfold moved at hm
  split at hm
  · simp only [Option.some.injEq] at hm; subst hm; simp [Addr.add]
  · rename_i l
    split at hm
    · simp only [Option.some.injEq] at hm; subst hm
      rw [if_neg (by omega), add_addr]
    · cases hm
/-- Three ends, all told as literals (the last one may be a number of no known shape where nothing is told of it). -/
def semSlice (P : Program) (t : TypeId) (x : SA) (lo hi mx : Option SA) : VR :=
  match x, P.underlying t with
  | .sc (.ptr o off), some (.array n e) =>
    match lo with
    | some (.sc (.val (.int _ l))) =>
      match hi, mx with
      | none, none => if P.cellsOf e = 1 then some ([0 ≤ l ∧ l < (n : Int)], .sc (.sls o off l.toNat n (n - l.toNat))) else none
      | _, _ => none
    | _ =>
      match endOf lo 0, endOf mx n with
      | some l, some m => match endOf hi n with
        | some h => if l ≤ h ∧ h ≤ m ∧ m ≤ n ∧ (mx.isSome = true → hi.isSome = true) ∧ (P.info? e).isSome then (moved off l (P.cellsOf e) h).map fun r => ([], .sc (.sl o r (h - l) (m - l))) else none
        | none => none
      | _, _ => none
  | .sc (.sl o off len cap), some (.slice e) =>
    match endOf lo 0, endOf hi len, mx with
    | some l, some h, none => if l ≤ h ∧ (P.info? e).isSome then (moved off l (P.cellsOf e) h).map fun r => ([h ≤ cap], .sc (.sl o r (h - l) (cap - l))) else none
    | some l, some h, some mv => match asNat mv with
      | some m => if l ≤ h ∧ h ≤ m ∧ hi.isSome ∧ (P.info? e).isSome then (moved off l (P.cellsOf e) h).map fun r => ([m ≤ cap], .sc (.sl o r (h - l) (m - l))) else none
      | none => none
    | _, _, _ => none
  | .sc (.val (.string s)), some .string =>
    match (match lo with | none => some 0 | some a => (asI a).map (·.2)), (match hi with | none => some (s.size : Int) | some a => (asI a).map (·.2)), mx with
    | some l, some h, none => some ([0 ≤ l ∧ l ≤ h ∧ h ≤ (s.size : Int)], .sc (.val (.string (s.extract l.toNat h.toNat))))
    | _, _, _ => none
  | _, _ => none

theorem run_bounds {P : Program} (w : World) (b : Bool) (len cap l h m : Nat) (lo hi mx : Option SA) (ρ : Nat → Nat) (hl : endOf lo 0 = some l) (hh : endOf hi len = some h) (hm : endOf mx cap = some m)
    (h1 : l ≤ h) (h2 : h ≤ m) (h3 : m ≤ cap) (h4 : mx.isSome = true → hi.isSome = true) :
    (Instr.sliceBounds b len cap (lo.map (SA.conc ρ)) (hi.map (SA.conc ρ)) (mx.map (SA.conc ρ))).run P w = .ok (l, h, m) w := by
  have M : ∀ {x : Option SA} {d n : Nat}, endOf x d = some n → (x = none ∧ d = n) ∨ ∃ a k, x = some a ∧ a.conc ρ = .int k (n : Int) := by
    intro x d n hx
    unfold endOf at hx
    split at hx
    · simp only [Option.some.injEq] at hx; exact .inl ⟨rfl, hx⟩
    · obtain ⟨k, hk⟩ := asNat_sound hx ρ; exact .inr ⟨_, k, rfl, hk⟩
  have B : ∀ (k : IntKind) (n y : Nat) (code : BoundsCode), n ≤ y → (Instr.sliceBound (.int k (n : Int)) y code).run P w = .ok n w := fun k n y code hle => by
    rw [run_sliceBound w k n y code (by omega)]; simp
  unfold Instr.sliceBounds
  rcases M hm with ⟨rfl, rfl⟩ | ⟨ma, mk, rfl, em⟩
  · rcases M hh with ⟨rfl, rfl⟩ | ⟨ha, hk, rfl, eh⟩
    · rcases M hl with ⟨rfl, rfl⟩ | ⟨la, lk, rfl, el⟩
      · simp
      · simp [el, B, h1]
    · rcases M hl with ⟨rfl, rfl⟩ | ⟨la, lk, rfl, el⟩
      · simp [eh, B, h2]
      · simp [el, eh, B, h1, h2]
  · rcases M hh with ⟨rfl, rfl⟩ | ⟨ha, hk, rfl, eh⟩
    · simp at h4
    · rcases M hl with ⟨rfl, rfl⟩ | ⟨la, lk, rfl, el⟩
      · simp [eh, em, B, h2, h3]
      · simp [el, eh, em, B, h1, h2, h3]

theorem semSlice_sound {P : Program} {t : TypeId} {x : SA} {lo hi mx : Option SA} {ps : List Prop} {z : SA} (h : semSlice P t x lo hi mx = some (ps, z)) (hp : Ok ps) (ρ : Nat → Nat) (n : Nat → Prop) (hb : x.bnd n) (w : World) :
    (Instr.sliceAt t (x.conc ρ) (lo.map (SA.conc ρ)) (hi.map (SA.conc ρ)) (mx.map (SA.conc ρ))).run P w = .ok (z.conc ρ) w ∧ z.bnd n := by
  unfold semSlice at h
  split at h
  · rename_i o off m e hu
    split at h
    · rename_i k l
      split at h
      · split at h
        · rename_i he
          simp only [Option.some.injEq, Prod.mk.injEq] at h
          obtain ⟨rfl, rfl⟩ := h
          obtain ⟨⟨h0, h1⟩, _⟩ := hp
          obtain ⟨i, hi⟩ := info_of_cells he
          refine ⟨?_, hb⟩
          have hB := run_sliceBound (P := P) w k l m .sliceB ⟨h0, by omega⟩
          simp only [Instr.sliceAt, Sem.run_bind, run_underlying hu, Result.andThen_ok, SA.conc, SC.conc, Instr.sureAddr, Sem.run_pure, Instr.sliceBounds, Option.map_some, Option.map_none, Option.isSome_none, Bool.false_eq_true, if_false, hB, run_sizeOf w hi, he, Nat.mul_one]
          rw [if_neg (by omega), add_addr]
        · cases h
      · cases h
    · split at h
      · rename_i l mm hl hm
        split at h
        · rename_i hh' hh
          split at h
          · rename_i hc
            obtain ⟨c1, c2, c3, c4, c5⟩ := hc
            obtain ⟨r, hr, he⟩ := Option.map_eq_some_iff.1 h
            simp only [Prod.mk.injEq] at he
            obtain ⟨rfl, rfl⟩ := he
            obtain ⟨i, hi⟩ := Option.isSome_iff_exists.1 c5
            refine ⟨?_, hb⟩
            simp only [Instr.sliceAt, Sem.run_bind, run_underlying hu, Result.andThen_ok, SA.conc, SC.conc, Instr.sureAddr, Sem.run_pure, run_bounds w false m m _ _ _ lo _ mx ρ hl hh hm c1 c2 c3 c4, run_sizeOf w hi, moved_sound hr c2]
          · cases h
        · cases h
      · cases h
  · rename_i o off len cap e hu
    have hslice : (Instr.sliceAt t (SA.conc ρ (.sc (.sl o off len cap))) (lo.map (SA.conc ρ)) (hi.map (SA.conc ρ)) (mx.map (SA.conc ρ))).run P w =
        (Instr.slice t (.slice (some ⟨ρ o, off, none⟩) len cap) (lo.map (SA.conc ρ)) (hi.map (SA.conc ρ)) (mx.map (SA.conc ρ))).run P w := by
      simp only [Instr.sliceAt, Sem.run_bind, run_underlying hu, Result.andThen_ok]; rfl
    rw [hslice]
    split at h
    · rename_i l hh hl hhh
      split at h
      · rename_i hc
        obtain ⟨c1, c5⟩ := hc
        obtain ⟨r, hr, he⟩ := Option.map_eq_some_iff.1 h
        simp only [Prod.mk.injEq] at he
        obtain ⟨rfl, rfl⟩ := he
        obtain ⟨i, hi⟩ := Option.isSome_iff_exists.1 c5
        obtain ⟨hcap, _⟩ := hp
        refine ⟨?_, hb⟩
        have hmv := moved_sound (b := ρ o) hr hcap
        have hB := run_bounds (P := P) w true len cap _ _ cap lo _ none ρ hl hhh rfl c1 hcap (Nat.le_refl _) (by simp)
        simp only [Option.map_none] at hB
        simp only [Instr.slice, Sem.run_bind, run_underlying hu, Result.andThen_ok, Sem.run_pure, Option.map_none, hB, run_sizeOf w hi, SA.conc, SC.conc, Option.map_some]
        rw [← hmv]
        split <;> rfl
      · cases h
    · rename_i l hh mv hl hhh
      split at h
      · rename_i mm hm
        split at h
        · rename_i hc
          obtain ⟨c1, c2, c3, c5⟩ := hc
          obtain ⟨r, hr, he⟩ := Option.map_eq_some_iff.1 h
          simp only [Prod.mk.injEq] at he
          obtain ⟨rfl, rfl⟩ := he
          obtain ⟨i, hi⟩ := Option.isSome_iff_exists.1 c5
          obtain ⟨hcap, _⟩ := hp
          refine ⟨?_, hb⟩
          have hmv := moved_sound (b := ρ o) hr c2
          have hB := run_bounds (P := P) w true len cap _ _ mm lo _ (some mv) ρ hl hhh hm c1 c2 hcap (fun _ => c3)
          simp only [Option.map_some] at hB
          simp only [Option.map_some]
          generalize SA.conc ρ mv = mvv at hB ⊢
          simp only [Instr.slice, Sem.run_bind, run_underlying hu, Result.andThen_ok, Sem.run_pure, hB, run_sizeOf w hi, Option.map_some]
          rw [show SA.conc ρ (.sc (.sl o r (hh - l) (mm - l))) = .slice (some ⟨ρ o, r, none⟩) (hh - l) (mm - l) from rfl, ← hmv]
          split <;> rfl
        · cases h
      · cases h
    · cases h
  · rename_i s hu
    split at h
    · rename_i l hh hl hhh
      simp only [Option.some.injEq, Prod.mk.injEq] at h
      obtain ⟨rfl, rfl⟩ := h
      obtain ⟨⟨h0, h1, h2⟩, _⟩ := hp
      refine ⟨?_, trivial⟩
      have L : (lo = none ∧ l = 0) ∨ ∃ a k, lo = some a ∧ a.conc ρ = .int k l := by
        cases lo with
        | none => simp only [Option.some.injEq] at hl; exact .inl ⟨rfl, hl.symm⟩
        | some a =>
          simp only [Option.map_eq_some_iff] at hl
          obtain ⟨⟨k, l'⟩, ha, rfl⟩ := hl
          exact .inr ⟨a, k, rfl, asI_sound ha ρ⟩
      have R : (hi = none ∧ hh = (s.size : Int)) ∨ ∃ a k, hi = some a ∧ a.conc ρ = .int k hh := by
        cases hi with
        | none => simp only [Option.some.injEq] at hhh; exact .inl ⟨rfl, hhh.symm⟩
        | some a =>
          simp only [Option.map_eq_some_iff] at hhh
          obtain ⟨⟨k, l'⟩, ha, rfl⟩ := hhh
          exact .inr ⟨a, k, rfl, asI_sound ha ρ⟩
      have B : ∀ (k : IntKind) (n : Int) (y : Nat) (code : BoundsCode), 0 ≤ n → n ≤ y → (Instr.sliceBound (.int k n) y code).run P w = .ok n.toNat w := fun k n y code ha hle => run_sliceBound w k n y code ⟨ha, hle⟩
      have ht : ((hh.toNat : Nat) : Int) = hh := Int.toNat_of_nonneg (by omega)
      have E : ∀ s : ByteArray, SA.conc ρ (.sc (.val (.string s))) = .string s := fun _ => rfl
      rw [E, E]
      rcases L with ⟨rfl, rfl⟩ | ⟨la, lk, rfl, el⟩ <;> rcases R with ⟨rfl, rfl⟩ | ⟨ha, hk, rfl, eh⟩
      · simp [Instr.sliceAt, Instr.slice, run_underlying hu, Instr.sliceBounds]
      · simp [Instr.sliceAt, Instr.slice, run_underlying hu, Instr.sliceBounds, eh, B, h1, h2]
      · simp [Instr.sliceAt, Instr.slice, run_underlying hu, Instr.sliceBounds, el, B, h0, h1]
      · simp [Instr.sliceAt, Instr.slice, run_underlying hu, Instr.sliceBounds, el, eh, B, h0, h1, h2, ht, show (0 : Int) ≤ hh by omega]
    · cases h
  · cases h

/-- The address of an array that a slice begins with. -/
def semArr (P : Program) (t : TypeId) (x : SA) : VR :=
  match x, P.underlying t with
  | .sc (.sl o off len _), some (.array n _) => if n ≤ len then some ([], .sc (.ptr o off)) else none
  | _, _ => none
theorem semArr_sound {P : Program} {t : TypeId} {x : SA} {ps : List Prop} {z : SA} (h : semArr P t x = some (ps, z)) (ρ : Nat → Nat) (n : Nat → Prop) (hb : x.bnd n) (w : World) :
    (Instr.arrayAt t (x.conc ρ)).run P w = .ok (z.conc ρ) w ∧ z.bnd n := by
  unfold semArr at h
  split at h
  · rename_i o off len cap m e hu
    split at h
    · rename_i hle
      simp only [Option.some.injEq, Prod.mk.injEq] at h
      obtain ⟨rfl, rfl⟩ := h
      refine ⟨?_, hb⟩
      simp [Instr.arrayAt, run_underlying hu, SA.conc, SC.conc, Nat.not_lt.2 hle]
    · cases h
  · cases h

def toPV : SA → Option PV
  | .sc (.ptr o off) => some (.p o off)
  | x => (asV x).map .v
theorem toPV_sound {x : SA} {p : PV} (h : toPV x = some p) (ρ : Nat → Nat) (n : Nat → Prop) (hb : x.bnd n) : x.conc ρ = p.conc ρ ∧ p.bnd n := by
  unfold toPV at h
  split at h
  · simp only [Option.some.injEq] at h; subst h; exact ⟨rfl, hb⟩
  · obtain ⟨v, hv, rfl⟩ := Option.map_eq_some_iff.1 h
    exact ⟨asV_sound hv ρ, trivial⟩
def toPVs : List SA → Option (List PV)
  | [] => some []
  | x :: r => match toPV x, toPVs r with
    | some p, some ps => some (p :: ps)
    | _, _ => none
theorem toPVs_sound (ρ : Nat → Nat) (n : Nat → Prop) : ∀ {xs : List SA} {ps : List PV}, toPVs xs = some ps → (∀ x ∈ xs, x.bnd n) → xs.map (SA.conc ρ) = ps.map (PV.conc ρ) ∧ ∀ p ∈ ps, p.bnd n
  | [], ps, h, _ => by simp only [toPVs, Option.some.injEq] at h; subst h; simp
  | x :: r, ps, h, hb => by
    simp only [toPVs] at h
    split at h
    · rename_i p ps' h1 h2
      simp only [Option.some.injEq] at h; subst h
      obtain ⟨a1, a2⟩ := toPV_sound h1 ρ n (hb x (by simp))
      obtain ⟨b1, b2⟩ := toPVs_sound ρ n h2 (fun y hy => hb y (by simp [hy]))
      exact ⟨by simp [a1, b1], fun q hq => by rcases List.mem_cons.1 hq with rfl | hq; exact a2; exact b2 q hq⟩
    · cases h
def ofPV : PV → SA
  | .v x => .sc (.val x)
  | .p o off => .sc (.ptr o off)
theorem ofPV_conc (ρ : Nat → Nat) (p : PV) : (ofPV p).conc ρ = p.conc ρ := by cases p <;> rfl
theorem ofPV_bnd {n : Nat → Prop} {p : PV} (h : p.bnd n) : (ofPV p).bnd n := by cases p; trivial; exact h

def rdO (tm : List SV) : Option Operand → Option (List Prop × Option SA)
  | none => some ([], none)
  | some x => (rd tm x).map fun r => (r.1, some r.2)
/-- The smaller, or the greater one. -/
def semMinMax (P : Program) (f : Array TypeId → TypeId → Array Value → Sem Value) (ts : Array TypeId) (t : TypeId) (xs : List SA) : VR :=
  match xs with
  | [x, y] =>
    match asV x, asV y with
    | some v, some w => (evalS P (f ts t #[v, w])).map fun r => ([], ofV (isLit x && isLit y) r)
    | _, _ => none
  | _ => none

/-- An operation that makes one value and leaves memory alone. -/
def semVal (P : Program) (tm : List SV) (o : Oper) : VR :=
  match o.op with
  | .binOp op t x y _ => rd2 tm x y (semBin P op t x y)
  | .unOp op _ x => rd1 tm x (semUn P op)
  | .convert s d x => rd1 tm x (semConv P s d)
  | .index t x i => rd2 tm x i (semIndex P t)
  | .field t x f => rd1 tm x (semField P t f)
  | .indexAddr t x i => rd2 tm x i (semIdxAddr P t)
  | .fieldAddr t x f => rd1 tm x (semFldAddr P t f)
  | .nilCheck x => rd1 tm x fun y => match y with
    | .sc (.ptr o off) => some ([], .sc (.ptr o off))
    | _ => none
  | .pick c x y => semPick tm c x y
  | .extract x i => match ev tm x with
    | .tup xs => (xs[i]?).map fun y => ([], y)
    | _ => none
  | .build t parts => match rdP tm parts.toList with
    | some (ps, ys) => match semBuild P t ys with
      | some (qs, z) => some (ps ++ qs, z)
      | none => none
    | none => none
  | .call { callee := .builtin .len, args, argTypes } => match rdL tm args.toList with
    | some (ps, ys) => match semLen P argTypes o.type ys with
      | some (qs, z) => some (ps ++ qs, z)
      | none => none
    | none => none
  | .call { callee := .builtin .cap, args, argTypes } => match rdL tm args.toList with
    | some (ps, ys) => match semCap P argTypes ys with
      | some (qs, z) => some (ps ++ qs, z)
      | none => none
    | none => none
  | .call { callee := .builtin .min, args, argTypes } => match rdL tm args.toList with
    | some (ps, ys) => match semMinMax P Builtin.min_ argTypes o.type ys with
      | some (qs, z) => some (ps ++ qs, z)
      | none => none
    | none => none
  | .call { callee := .builtin .max, args, argTypes } => match rdL tm args.toList with
    | some (ps, ys) => match semMinMax P Builtin.max_ argTypes o.type ys with
      | some (qs, z) => some (ps ++ qs, z)
      | none => none
    | none => none
  | .slice t x lo hi mx => match rd tm x, rdO tm lo, rdO tm hi, rdO tm mx with
    | some (p1, y), some (p2, l), some (p3, h), some (p4, m) => match semSlice P t y l h m with
      | some (qs, z) => some (p1 ++ (p2 ++ (p3 ++ (p4 ++ qs))), z)
      | none => none
    | _, _, _, _ => none
  | .sliceToArrayPointer t x => rd1 tm x (semArr P t)
  | .makeFunc (.func f) first caps => match first.toList, rdL tm caps.toList with
    | [], some (ps, ys) => match toPVs ys with
      | some pv => some (ps, .sc (.fn f pv))
      | none => none
    | _, _ => none
  | _ => none

section
variable {P : Program} {W0 : Base} {ρ : Nat → Nat} {tm : List SV} {ob : List SO} {a : Act} {w : World}

theorem rdO_sound (H : Holds W0 ρ tm ob a w) {x : Option Operand} {ps : List Prop} {y : Option SA} (h : rdO tm x = some (ps, y)) (hp : Ok ps) : x.map a.eval = y.map (SA.conc ρ) := by
  cases x with
  | none => simp only [rdO, Option.some.injEq, Prod.mk.injEq] at h; obtain ⟨_, rfl⟩ := h; rfl
  | some x =>
    simp only [rdO, Option.map_eq_some_iff] at h
    obtain ⟨⟨p, z⟩, hr, he⟩ := h
    simp only [Prod.mk.injEq] at he
    obtain ⟨rfl, rfl⟩ := he
    simp [(rd_sound hr hp H).1]
theorem semMinMax_sound {f : Array TypeId → TypeId → Array Value → Sem Value} {ts : Array TypeId} {t : TypeId} {xs : List SA} {ps : List Prop} {z : SA} (h : semMinMax P f ts t xs = some (ps, z)) (ρ : Nat → Nat) (n : Nat → Prop) (w : World) :
    (f ts t (xs.map (SA.conc ρ)).toArray).run P w = .ok (z.conc ρ) w ∧ z.bnd n := by
  unfold semMinMax at h
  split at h
  · rename_i x y
    split at h
    · rename_i v v' hv hv'
      simp only [Option.map_eq_some_iff, Prod.mk.injEq] at h
      obtain ⟨r, hr, rfl, rfl⟩ := h
      refine ⟨?_, ofV_bnd _ _ _⟩
      have : (List.map (SA.conc ρ) [x, y]).toArray = #[v, v'] := by simp [asV_sound hv ρ, asV_sound hv' ρ]
      rw [this, evalS_sound w hr, ofV_conc]
    · cases h
  · cases h

theorem semPick_sound (H : Holds W0 ρ tm ob a w) {c x y : Operand} {ps : List Prop} {z : SA} (h : semPick tm c x y = some (ps, z)) (hp : Ok ps) :
    (do pure (Next.value (if ← asBool (a.eval c) then a.eval x else a.eval y)) : Sem Next).run P w = .ok (.value (z.conc ρ)) w ∧ z.bnd (live ob) := by
  obtain ⟨p1, cv, p2, h1, h2, o1, o2⟩ := rd1_sound h hp
  have ec := (rd_sound h1 o1 H).1
  rw [ec]
  clear ec
  split at h2
  · obtain ⟨q1, xv, q2, g1, g2, r1, r2⟩ := rd1_sound h2 o2
    simp only [Option.some.injEq, Prod.mk.injEq] at g2
    obtain ⟨rfl, rfl⟩ := g2
    obtain ⟨ex, bx⟩ := rd_sound g1 r1 H
    simp [SA.conc, SC.conc, asBool, ex]
    exact bx
  · obtain ⟨q1, xv, q2, g1, g2, r1, r2⟩ := rd1_sound h2 o2
    simp only [Option.some.injEq, Prod.mk.injEq] at g2
    obtain ⟨rfl, rfl⟩ := g2
    obtain ⟨ex, bx⟩ := rd_sound g1 r1 H
    simp [SA.conc, SC.conc, asBool, ex]
    exact bx
  · rename_i b
    split at h2
    case h_2 => cases h2
    rename_i q1 xv q2 yv hx hy
    split at h2
    case h_2 => cases h2
    rename_i bx bY hbx hby
    simp only [Option.some.injEq, Prod.mk.injEq] at h2
    obtain ⟨rfl, rfl⟩ := h2
    obtain ⟨r1, r2⟩ := Ok.append.1 o2
    have val : (do pure (Next.value (if ← asBool (SA.conc ρ (.sc (.val (.bool b)))) then a.eval x else a.eval y)) : Sem Next).run P w = .ok (.value (.bool (if b then bx else bY))) w := by
      cases b with
      | true =>
        obtain ⟨ex, _⟩ := rd_sound hx (Ok_map r1 rfl) H
        simp [SA.conc, SC.conc, asBool]
        rw [ex]; exact asB_sound hbx ρ
      | false =>
        obtain ⟨ey, _⟩ := rd_sound hy (Ok_map r2 rfl) H
        simp [SA.conc, SC.conc, asBool]
        rw [ey]; exact asB_sound hby ρ
    rw [val, (pickRes_sound hbx hby ρ (live ob)).1]
    exact ⟨rfl, (pickRes_sound hbx hby ρ (live ob)).2⟩
  · cases h2

theorem semVal_sound (H : Holds W0 ρ tm ob a w) {o : Oper} {ps : List Prop} {z : SA} (h : semVal P tm o = some (ps, z)) (hp : Ok ps) :
    (execOp a.eval o).run P w = .ok (.value (z.conc ρ)) w ∧ z.bnd (live ob) := by
  unfold semVal at h
  split at h
  · rename_i op t x y yt ho
    obtain ⟨p1, xv, p2, h1, h2, o1, o2⟩ := rd1_sound h hp
    obtain ⟨q1, yv, q2, g1, g2, r1, r2⟩ := rd1_sound h2 o2
    obtain ⟨ex, _⟩ := rd_sound h1 o1 H
    obtain ⟨ey, _⟩ := rd_sound g1 r1 H
    obtain ⟨e, b⟩ := semBin_sound g2 r2 ρ (live ob) w
    refine ⟨?_, b⟩
    unfold execOp
    simp only [ho, ex, ey]
    rw [Sem.run_bind]
    erw [e]
    rfl
  · rename_i op t x ho
    obtain ⟨p1, xv, p2, h1, h2, o1, o2⟩ := rd1_sound h hp
    obtain ⟨ex, _⟩ := rd_sound h1 o1 H
    obtain ⟨e, b⟩ := semUn_sound h2 ρ (live ob) w
    refine ⟨?_, b⟩
    unfold execOp
    simp only [ho, ex, Sem.run_bind, e, Result.andThen_ok, Sem.run_pure]
  · rename_i s d x ho
    obtain ⟨p1, xv, p2, h1, h2, o1, o2⟩ := rd1_sound h hp
    obtain ⟨ex, _⟩ := rd_sound h1 o1 H
    obtain ⟨e, b⟩ := semConv_sound h2 ρ (live ob) w
    refine ⟨?_, b⟩
    unfold execOp
    simp only [ho, ex, Sem.run_bind, e, Result.andThen_ok, Sem.run_pure]
  · rename_i t x i ho
    obtain ⟨p1, xv, p2, h1, h2, o1, o2⟩ := rd1_sound h hp
    obtain ⟨q1, yv, q2, g1, g2, r1, r2⟩ := rd1_sound h2 o2
    obtain ⟨ex, bx⟩ := rd_sound h1 o1 H
    obtain ⟨ey, _⟩ := rd_sound g1 r1 H
    obtain ⟨e, b⟩ := semIndex_sound g2 r2 ρ (live ob) bx w
    refine ⟨?_, b⟩
    unfold execOp
    simp only [ho, ex, ey, Sem.run_bind, e, Result.andThen_ok, Sem.run_pure]
  · rename_i t x f ho
    obtain ⟨p1, xv, p2, h1, h2, o1, o2⟩ := rd1_sound h hp
    obtain ⟨ex, bx⟩ := rd_sound h1 o1 H
    obtain ⟨e, b⟩ := semField_sound h2 ρ (live ob) bx w
    refine ⟨?_, b⟩
    unfold execOp
    simp only [ho, ex, Sem.run_bind, e, Result.andThen_ok, Sem.run_pure]
  · rename_i t x i ho
    obtain ⟨p1, xv, p2, h1, h2, o1, o2⟩ := rd1_sound h hp
    obtain ⟨q1, yv, q2, g1, g2, r1, r2⟩ := rd1_sound h2 o2
    obtain ⟨ex, bx⟩ := rd_sound h1 o1 H
    obtain ⟨ey, _⟩ := rd_sound g1 r1 H
    obtain ⟨e, b⟩ := semIdxAddr_sound g2 r2 ρ (live ob) bx w
    refine ⟨?_, b⟩
    unfold execOp
    simp only [ho, ex, ey, Sem.run_bind, e, Result.andThen_ok, Sem.run_pure]
  · rename_i t x f ho
    obtain ⟨p1, xv, p2, h1, h2, o1, o2⟩ := rd1_sound h hp
    obtain ⟨ex, bx⟩ := rd_sound h1 o1 H
    obtain ⟨e, b⟩ := semFldAddr_sound h2 ρ (live ob) bx w
    refine ⟨?_, b⟩
    unfold execOp
    simp only [ho, ex, Sem.run_bind, e, Result.andThen_ok, Sem.run_pure]
  · rename_i x ho
    obtain ⟨p1, xv, p2, h1, h2, o1, o2⟩ := rd1_sound h hp
    obtain ⟨ex, bx⟩ := rd_sound h1 o1 H
    split at h2
    · simp only [Option.some.injEq, Prod.mk.injEq] at h2
      obtain ⟨rfl, rfl⟩ := h2
      refine ⟨?_, bx⟩
      unfold execOp
      simp only [ho, ex, SA.conc, SC.conc, Sem.run_pure]
    · cases h2
  · rename_i c x y ho
    obtain ⟨e, b⟩ := semPick_sound (P := P) H h hp
    refine ⟨?_, b⟩
    unfold execOp
    simp only [ho]
    exact e
  · rename_i x i ho
    split at h
    · rename_i xs hx
      obtain ⟨y, hy, he⟩ := Option.map_eq_some_iff.1 h
      simp only [Prod.mk.injEq] at he
      obtain ⟨rfl, rfl⟩ := he
      have hr := (H.ev x).1
      have hb := (H.ev x).2
      rw [hx] at hr hb
      simp only [SV.rep] at hr
      refine ⟨?_, hb y (List.mem_of_getElem? hy)⟩
      unfold execOp
      simp only [ho, hr, Instr.extract, Sem.run_bind]
      simp [hy]
    · cases h
  · rename_i t parts ho
    split at h
    case h_2 => cases h
    rename_i p1 ys h1
    split at h
    case h_2 => cases h
    rename_i p2 z' h2
    simp only [Option.some.injEq, Prod.mk.injEq] at h
    obtain ⟨rfl, rfl⟩ := h
    obtain ⟨o1, o2⟩ := Ok.append.1 hp
    obtain ⟨e1, b1⟩ := rdP_sound H h1 o1
    obtain ⟨e, b⟩ := semBuild_sound h2 ρ (live ob) b1 w
    refine ⟨?_, b⟩
    unfold execOp
    have : (parts.map fun x => (x.1, a.eval x.2)) = (ys.map fun p => (p.1, p.2.conc ρ)).toArray := by
      apply Array.ext'
      rw [Array.toList_map, e1]
    simp only [ho, this, Sem.run_bind, e, Result.andThen_ok, Sem.run_pure]
  · rename_i args argTypes ho
    split at h
    case h_2 => cases h
    rename_i p1 ys h1
    split at h
    case h_2 => cases h
    rename_i p2 z' h2
    simp only [Option.some.injEq, Prod.mk.injEq] at h
    obtain ⟨rfl, rfl⟩ := h
    obtain ⟨o1, o2⟩ := Ok.append.1 hp
    obtain ⟨e1, b1⟩ := rdL_sound H h1 o1
    obtain ⟨e, b⟩ := semLen_sound h2 ρ (live ob) w
    refine ⟨?_, b⟩
    have : args.map a.eval = (ys.map (SA.conc ρ)).toArray := by
      apply Array.ext'
      rw [Array.toList_map, e1]
    unfold execOp
    simp only [ho, resolve, this, Sem.run_bind, Sem.run_pure, Result.andThen_ok, invoke, builtin, e]
  · rename_i args argTypes ho
    split at h
    case h_2 => cases h
    rename_i p1 ys h1
    split at h
    case h_2 => cases h
    rename_i p2 z' h2
    simp only [Option.some.injEq, Prod.mk.injEq] at h
    obtain ⟨rfl, rfl⟩ := h
    obtain ⟨o1, o2⟩ := Ok.append.1 hp
    obtain ⟨e1, b1⟩ := rdL_sound H h1 o1
    obtain ⟨e, b⟩ := semCap_sound (t := o.type) h2 ρ (live ob) w
    refine ⟨?_, b⟩
    have : args.map a.eval = (ys.map (SA.conc ρ)).toArray := by
      apply Array.ext'
      rw [Array.toList_map, e1]
    unfold execOp
    simp only [ho, resolve, this, Sem.run_bind, Sem.run_pure, Result.andThen_ok, invoke, builtin, e]
  · rename_i args argTypes ho
    split at h
    case h_2 => cases h
    rename_i p1 ys h1
    split at h
    case h_2 => cases h
    rename_i p2 z' h2
    simp only [Option.some.injEq, Prod.mk.injEq] at h
    obtain ⟨rfl, rfl⟩ := h
    obtain ⟨o1, o2⟩ := Ok.append.1 hp
    obtain ⟨e1, b1⟩ := rdL_sound H h1 o1
    obtain ⟨e, b⟩ := semMinMax_sound h2 ρ (live ob) w
    refine ⟨?_, b⟩
    have : args.map a.eval = (ys.map (SA.conc ρ)).toArray := by
      apply Array.ext'
      rw [Array.toList_map, e1]
    unfold execOp
    simp only [ho, resolve, this, Sem.run_bind, Sem.run_pure, Result.andThen_ok, invoke, builtin, e]
  · rename_i args argTypes ho
    split at h
    case h_2 => cases h
    rename_i p1 ys h1
    split at h
    case h_2 => cases h
    rename_i p2 z' h2
    simp only [Option.some.injEq, Prod.mk.injEq] at h
    obtain ⟨rfl, rfl⟩ := h
    obtain ⟨o1, o2⟩ := Ok.append.1 hp
    obtain ⟨e1, b1⟩ := rdL_sound H h1 o1
    obtain ⟨e, b⟩ := semMinMax_sound h2 ρ (live ob) w
    refine ⟨?_, b⟩
    have : args.map a.eval = (ys.map (SA.conc ρ)).toArray := by
      apply Array.ext'
      rw [Array.toList_map, e1]
    unfold execOp
    simp only [ho, resolve, this, Sem.run_bind, Sem.run_pure, Result.andThen_ok, invoke, builtin, e]
  · rename_i t x lo hi mx ho
    split at h
    case h_2 => cases h
    rename_i p1 y p2 l p3 h' p4 m h1 h2 h3 h4
    split at h
    case h_2 => cases h
    rename_i qs z' hz
    simp only [Option.some.injEq, Prod.mk.injEq] at h
    obtain ⟨rfl, rfl⟩ := h
    obtain ⟨o1, o2⟩ := Ok.append.1 hp
    obtain ⟨o2, o3⟩ := Ok.append.1 o2
    obtain ⟨o3, o4⟩ := Ok.append.1 o3
    obtain ⟨o4, o5⟩ := Ok.append.1 o4
    obtain ⟨ex, bx⟩ := rd_sound h1 o1 H
    obtain ⟨e, b⟩ := semSlice_sound hz o5 ρ (live ob) bx w
    refine ⟨?_, b⟩
    unfold execOp
    simp only [ho, ex, rdO_sound H h2 o2, rdO_sound H h3 o3, rdO_sound H h4 o4, Sem.run_bind, e, Result.andThen_ok, Sem.run_pure]
  · rename_i t x ho
    obtain ⟨p1, xv, p2, h1, h2, o1, o2⟩ := rd1_sound h hp
    obtain ⟨ex, bx⟩ := rd_sound h1 o1 H
    obtain ⟨e, b⟩ := semArr_sound h2 ρ (live ob) bx w
    refine ⟨?_, b⟩
    unfold execOp
    simp only [ho, ex, Sem.run_bind, e, Result.andThen_ok, Sem.run_pure]
  · rename_i f first caps ho
    split at h
    · rename_i p1 ys hf h1
      split at h
      · rename_i pv hpv
        simp only [Option.some.injEq, Prod.mk.injEq] at h
        obtain ⟨rfl, rfl⟩ := h
        obtain ⟨e1, b1⟩ := rdL_sound H h1 hp
        obtain ⟨e2, b2⟩ := toPVs_sound ρ (live ob) hpv b1
        refine ⟨?_, b2⟩
        have h0 : first.map a.eval = #[] := by
          have : first = #[] := Array.ext' (by simpa using hf)
          subst this; simp
        have h1 : caps.map a.eval = (pv.map (PV.conc ρ)).toArray := by
          apply Array.ext'
          rw [Array.toList_map, e1, e2]
        unfold execOp
        simp only [ho, h0, h1, Instr.makeFunc, Sem.run_bind, Sem.run_pure, Result.andThen_ok, SA.conc, SC.conc]
      · cases h
    · cases h
  · cases h

/-! ## A slice put together; a text of bytes -/

def repKs (l : List SK) : Nat → List SK
  | 0 => []
  | n + 1 => l ++ repKs l n
def semRow (P : Program) (e : TypeId) (len : Nat) (parts : List (Nat × SA)) : Option (List SK) :=
  match P.info? e, zeroKs P e with
  | some ie, some zk => if len * ie.size ≤ 16777216 ∧ len * ie.size ≠ 0 ∧ (flat zk).length = ie.size then fillKs (fun i => some (i * ie.size, ie.size)) (repKs zk len) parts else none
  | _, _ => none
/-- A slice of so many noughts. -/
def semMake (P : Program) (e : TypeId) (x y : Int) : Option (List SK) :=
  match P.info? e, zeroKs P e with
  | some ie, some zk => if (0 ≤ x ∧ x ≤ y) ∧ (y.toNat * ie.size ≤ 16777216 ∧ (ie.bytes : Int) * y ≤ 281474976710656) ∧ (y ≤ 9223372036854775807 ∧ (flat zk).length = ie.size) then some (repKs zk y.toNat) else none
  | _, _ => none
theorem concs_rep (ρ : Nat → Nat) (l : List SK) : ∀ n, concs ρ (repKs l n) = (List.replicate n (concs ρ l)).flatten
  | 0 => rfl
  | n + 1 => by
    have ih := concs_rep ρ l n
    simp only [concs] at ih
    simp [repKs, concs, flat_append, ih, List.replicate_succ]
theorem rows_zero (zc : Array Value) (n : Nat) : ((Array.range (n * zc.size)).map (zc[· % zc.size]!)).toList = (List.replicate n zc.toList).flatten := by
  rcases Nat.eq_zero_or_pos zc.size with h0 | h0
  · have : zc = #[] := Array.eq_empty_of_size_eq_zero h0
    subst this
    have : ∀ n, (List.replicate n ([] : List Value)).flatten = [] := by intro n; induction n <;> simp_all
    simp [this]
  · apply List.ext_getElem
    · simp
    · intro i h1 h2
      simp only [Array.toList_map, Array.toList_range, List.length_map, List.length_range] at h1
      have hmod : i % zc.size < zc.size := Nat.mod_lt _ h0
      have key : ∀ (n i : Nat) (h : i < (List.replicate n zc.toList).flatten.length), (List.replicate n zc.toList).flatten[i] = zc[i % zc.size]'(Nat.mod_lt _ h0) := by
        intro n
        induction n with
        | zero => intro i h; simp at h
        | succ n ih =>
          intro i h
          simp only [List.replicate_succ, List.flatten_cons] at h ⊢
          rw [List.getElem_append]
          split
          · rename_i hl
            simp only [Array.length_toList] at hl
            simp [Nat.mod_eq_of_lt hl]
          · rename_i hl
            simp only [Array.length_toList] at hl ⊢
            rw [ih]
            simp only [Nat.mod_eq_sub_mod (Nat.le_of_not_lt hl)]
      rw [key]
      simp [hmod]
theorem semRow_sound {P : Program} {t e : TypeId} {len : Nat} {parts : List (Nat × SA)} {ks : List SK} (hu : P.underlying t = some (.slice e)) (h : semRow P e len parts = some ks) (ρ : Nat → Nat) (w : World) :
    (Instr.buildSlice t len (parts.map fun p => (p.1, p.2.conc ρ)).toArray).run P w = .ok (.slice (some ⟨w.heap.size, 0, none⟩) len len) (w.alloc (.cells (concs ρ ks).toArray e)) ∧ ∀ n : Nat → Prop, (∀ p ∈ parts, p.2.bnd n) → ∀ k ∈ ks, k.bnd n := by
  unfold semRow at h
  split at h
  case h_2 => cases h
  rename_i ie zk hie hzk
  split at h
  case isFalse => cases h
  rename_i hc
  obtain ⟨c1, c2, c3⟩ := hc
  have hzb := hzk
  unfold zeroKs at hzk
  split at hzk
  case h_2 => cases hzk
  rename_i z hz
  rw [hie] at hz
  simp only [Option.bind_some] at hz
  simp only [Option.some.injEq] at hzk
  have hcz : concs ρ zk = z.cells.toList := by rw [← hzk, litCs_conc]
  have hsz : z.cells.size = ie.size := by
    have := congrArg List.length hcz
    simp only [concs, List.length_map, Array.length_toList] at this
    omega
  have hfill := fillKs_sound ρ h
  refine ⟨run_buildSlice w t e len _ _ ie z hu hie hz (by omega) c2 ?_, fun n hb => fillKs_bnd h ?_ hb⟩
  · simp only [← hfill]
    congr 1
    apply Array.ext'
    rw [← hsz, rows_zero, concs_rep, hcz]
  · intro k hk
    have : ∀ m, ∀ k ∈ repKs zk m, k.bnd n := by
      intro m
      induction m with
      | zero => intro k hk; cases hk
      | succ m ih =>
        intro k hk
        simp only [repKs, List.mem_append] at hk
        rcases hk with hk | hk
        · exact zeroKs_bnd hzb n k hk
        · exact ih k hk
    exact this _ k hk

/-- Bytes told by whole numbers. -/
def bytesI (l : List Int) : ByteArray := l.foldl (fun r n => r.push (UInt8.ofNat n.toNat)) ByteArray.empty
def isBytes (P : Program) (s d : TypeId) : Bool :=
  match P.underlying s, P.underlying d with
  | some (.slice e), some .string => match P.underlying e with
    | some (.int .u8) => true
    | _ => false
  | _, _ => false
theorem isBytes_spec {P : Program} {s d : TypeId} (h : isBytes P s d = true) : ∃ e, P.underlying s = some (.slice e) ∧ P.underlying e = some (.int .u8) ∧ P.underlying d = some .string := by
  unfold isBytes at h
  split at h
  · rename_i e h1 h2
    split at h
    · rename_i h3; exact ⟨e, h1, h3, h2⟩
    · cases h
  · cases h
def semStr (ob : List SO) (x : SA) : VR :=
  match x with
  | .sc (.sl o off len _) =>
    match ob[o]? with
    | some (.cells _ ks _) => match sub ks off len with
      | some cs => if kindAll .u8 cs then some ([], .sc (.val (.string (bytesI (intsL cs))))) else none
      | none => none
    | _ => none
  | .sc (.sls o base lo hi _) =>
    match ob[o]? with
    | some (.cells _ ks _) => match sub ks base hi with
      | some cs => if kindAll .u8 cs then some ([lo ≤ hi], .sc (.val (.string (bytesI ((List.range (hi - lo)).map fun j => selG cs (lo + j)))))) else none
      | none => none
    | _ => none
  | _ => none
theorem run_row_bytes {P : Program} {w : World} {b off n : Nat} {e : TypeId} {row : List Value} (hb : w.heap[b]? = some (.cells row.toArray e (0, 0))) {ns : List Int} (hn : ns.length = n) (h : ∀ j, j < n → row[off + j]? = some (.int .u8 (ns.getD j 0))) :
    (loadCells ⟨b, off, none⟩ n).run P w = .ok (ns.map (Value.int .u8)).toArray w := by
  have := run_loadCells_list (P := P) w ⟨b, off, none⟩ (ns.map (Value.int .u8)) (fun j v hj => by
    rw [List.getElem?_map] at hj
    rcases Nat.lt_or_ge j ns.length with hl | hl
    · rw [List.getElem?_eq_getElem hl, Option.map_some, Option.some.injEq] at hj
      have := h j (by omega)
      simp only [add_addr, World.cell?, hb]
      rw [List.getD_eq_getElem?_getD, List.getElem?_eq_getElem hl, Option.getD_some, hj] at this
      simpa using this
    · rw [List.getElem?_eq_none hl] at hj; cases hj)
  rw [List.length_map, hn] at this
  exact this
theorem semStr_sound {P : Program} {W0 : Base} {ρ : Nat → Nat} {tm : List SV} {ob : List SO} {a : Act} {w : World} (H : Holds W0 ρ tm ob a w) {s d : TypeId} (hb : isBytes P s d = true) {x z : SA} {ps : List Prop} (h : semStr ob x = some (ps, z)) (hp : Ok ps) :
    (convert s d (x.conc ρ)).run P w = .ok (z.conc ρ) w ∧ z.bnd (live ob) := by
  obtain ⟨e, h1, h2, h3⟩ := isBytes_spec hb
  unfold semStr at h
  split at h
  · rename_i o off len cap
    split at h
    · rename_i e' ks sp ho
      split at h
      · rename_i cs hs
        split at h
        · rename_i ha
          simp only [Option.some.injEq, Prod.mk.injEq] at h
          obtain ⟨rfl, rfl⟩ := h
          obtain ⟨_, ⟨rest, _, hrow⟩, _, _⟩ := H.mem.obj o e' ks sp ho
          refine ⟨?_, trivial⟩
          obtain ⟨l1, l2⟩ := concs_sub hs ρ
          have hlen : (flat cs).length = len := by
            obtain ⟨a, b⟩ := sub_flat hs
            rw [b]; simp; omega
          have hil := intsL_length cs ρ .u8 ha
          rw [show SA.conc ρ (.sc (.sl o off len cap)) = .slice (some ⟨ρ o, off, none⟩) len cap from rfl, run_convert_bytes_string w s d e _ _ _ h1 h2 h3]
          refine run_bytesToString w _ len cap (intsL cs) (run_row_bytes hrow (by omega) fun j hj => ?_)
          have := ints_conc ρ .u8 ha
          rw [l2] at this
          rw [List.getElem?_append_left (by omega)]
          have h4 := congrArg (fun l => l[j]?) this
          simp only [List.getElem?_take, if_pos hj, List.getElem?_drop, List.getElem?_map] at h4
          rw [h4, List.getElem?_eq_getElem (by omega), List.getD_eq_getElem?_getD, List.getElem?_eq_getElem (by omega)]
          rfl
        · cases h
      · cases h
    · cases h
  · rename_i o base lo hi cap
    split at h
    · rename_i e' ks sp ho
      split at h
      · rename_i cs hs
        split at h
        · rename_i ha
          simp only [Option.some.injEq, Prod.mk.injEq] at h
          obtain ⟨rfl, rfl⟩ := h
          obtain ⟨hlo, _⟩ := hp
          obtain ⟨_, ⟨rest, _, hrow⟩, _, _⟩ := H.mem.obj o e' ks sp ho
          refine ⟨?_, trivial⟩
          obtain ⟨l1, l2⟩ := concs_sub hs ρ
          have hlen : (flat cs).length = hi := by
            obtain ⟨a, b⟩ := sub_flat hs
            rw [b]; simp; omega
          rw [show SA.conc ρ (.sc (.sls o base lo hi cap)) = .slice (some ⟨ρ o, base + lo, none⟩) (hi - lo) cap from rfl, run_convert_bytes_string w s d e _ _ _ h1 h2 h3]
          refine run_bytesToString w _ (hi - lo) cap _ (run_row_bytes hrow (by simp) fun j hj => ?_)
          have := selG_conc ha ρ (j := lo + j) (by omega)
          rw [l2, List.getElem?_take, if_pos (by omega), List.getElem?_drop] at this
          rw [List.getElem?_append_left (by omega), Nat.add_assoc, this]
          simp [hj]
        · cases h
      · cases h
    · cases h
  · cases h

/-- Which function a value is, and what it has caught. -/
def calleeOf (tm : List SV) (x : Operand) : Option (List Prop × Nat × List PV) :=
  match rd tm x with
  | some (ps, .sc (.fn f caps)) => some (ps, f, caps)
  | _ => none
theorem calleeOf_sound {W0 : Base} {ρ : Nat → Nat} {tm : List SV} {ob : List SO} {a : Act} {w : World} (H : Holds W0 ρ tm ob a w) {x : Operand} {ps : List Prop} {f : Nat} {caps : List PV} (h : calleeOf tm x = some (ps, f, caps)) (hp : Ok ps) :
    a.eval x = .func (.func f) #[] (caps.map (PV.conc ρ)).toArray ∧ ∀ p ∈ caps, p.bnd (live ob) := by
  unfold calleeOf at h
  split at h
  · rename_i p1 f' caps' hr
    simp only [Option.some.injEq, Prod.mk.injEq] at h
    obtain ⟨rfl, rfl, rfl⟩ := h
    obtain ⟨e, b⟩ := rd_sound hr hp H
    exact ⟨e, b⟩
  · cases h
theorem run_call_fn {P : Program} {a : Act} {w : World} {o : Oper} {x : Operand} {args : Array Operand} {ts : Array TypeId} (ho : o.op = .call { callee := .value x, args, argTypes := ts }) {f : Nat} {caps : List Value} (hx : a.eval x = .func (.func f) #[] caps.toArray) {vs : List Value} (hv : args.map a.eval = vs.toArray) :
    (execOp a.eval o).run P w = (callFunc f (vs ++ caps).toArray).run P w := by
  unfold execOp
  simp only [ho, resolve, hv, hx, Deferred.ofValue, Sem.run_bind, Sem.run_pure, Result.andThen_ok, invoke]
  simp

theorem data_extract (b : ByteArray) (n : Nat) (hn : n ≤ b.size) : ((b.extract 0 n).data.map fun c => Value.int .u8 c.toNat).toList = (List.range n).map fun j => Value.int .u8 ((b.data.getD j 0).toNat : Int) := by
  have hs : (b.extract 0 n).data = b.data.extract 0 n := by simp
  rw [hs]
  apply List.ext_getElem
  · simp only [Array.toList_map, List.length_map, Array.length_toList, Array.size_extract, List.length_range]
    have : b.data.size = b.size := rfl
    omega
  · intro j h1 h2
    simp only [List.length_map, List.length_range] at h2
    have : j < b.data.size := by have : b.data.size = b.size := rfl; omega
    simp [Array.getD_eq_getD_getElem?, Array.getElem?_eq_getElem this]

theorem bnd_f {n : Nat → Prop} {k : IntKind} {m : Nat} {g : Nat → Int} : ∀ c ∈ flat [SK.f k m g], c.bnd n := by
  intro c hc
  simp only [flat, SK.cells, List.append_nil, List.mem_map] at hc
  obtain ⟨j, _, rfl⟩ := hc; trivial
theorem fit_f {k : IntKind} {m : Nat} {g : Nat → Int} : ∀ c ∈ flat [SK.f k m g], c.fit = true := by
  intro c hc
  simp only [flat, SK.cells, List.append_nil, List.mem_map] at hc
  obtain ⟨j, _, rfl⟩ := hc; rfl
theorem lay_all {Q : SC → Prop} {ks new r : List SK} {off : Nat} (h : lay ks off new = some r) (h1 : ∀ c ∈ flat ks, Q c) (h2 : ∀ c ∈ flat new, Q c) : ∀ c ∈ flat r, Q c := by
  rw [(lay_flat h).2]
  intro c hc
  simp only [List.mem_append] at hc
  rcases hc with (hc | hc) | hc
  · exact h1 c (List.mem_of_mem_take hc)
  · exact h2 c hc
  · exact h1 c (List.mem_of_mem_drop hc)


/-- A text, copied into a row of bytes: how many, and the blocks behind it. -/
def semCpy (P : Program) (ob : List SO) (ts : List TypeId) (s x : SA) : Option (SA × List SO) :=
  match ts, s, x with
  | t :: _, .sc (.sl o off n _), .sc (.val (.string b)) =>
    match P.underlying t with
    | some (.slice e) =>
      match P.info? e, ob[o]? with
      | some ie, some (.cells e' ks sp) =>
        if ie.size = 1 then
          match sub ks off n with
          | some cs => if kindAll .u8 cs then (lay ks off [.f .u8 n (fun j => if j < b.size then ((b.data.getD j 0).toNat : Int) else selG cs j)]).map fun r => (.sc (.val (.int .i64 ((Nat.min b.size n : Nat) : Int))), ob.set o (.cells e' r sp)) else none
          | none => none
        else none
      | _, _ => none
    | _ => none
  | _, _, _ => none
theorem semCpy_sound {P : Program} {W0 : Base} {ρ : Nat → Nat} {tm : List SV} {ob : List SO} {a : Act} {w : World} (H : Holds W0 ρ tm ob a w) {ts : List TypeId} {ty : TypeId} {s x : SA} {z : SA} {ob1 : List SO} (h : semCpy P ob ts s x = some (z, ob1)) :
    ∃ w', (Builtin.copy_ ts.toArray ty #[s.conc ρ, x.conc ρ]).run P w = .ok (z.conc ρ) w' ∧ z.bnd (live ob1) ∧ Holds W0 ρ tm ob1 a w' := by
  unfold semCpy at h
  split at h
  case h_2 => cases h
  rename_i t ts' o off n cap b
  split at h
  case h_2 => cases h
  rename_i e hu
  split at h
  case h_2 => cases h
  rename_i ie e' ks sp hie ho
  obtain ⟨h1, ⟨rest, hrest, h2⟩, h3, h4⟩ := H.mem.obj o e' ks sp ho
  have hkl : (concs ρ ks).length = (flat ks).length := by simp [concs]
  split at h
  case isFalse => cases h
  rename_i hsz
  split at h
  case h_2 => cases h
  rename_i cs hcs
  split at h
  case isFalse => cases h
  rename_i ha
  obtain ⟨r, hr, he⟩ := Option.map_eq_some_iff.1 h
  simp only [Prod.mk.injEq] at he
  obtain ⟨rfl, rfl⟩ := he
  obtain ⟨l1, l2⟩ := lay_flat hr
  obtain ⟨s1, s2⟩ := concs_sub hcs ρ
  have hlen : (flat cs).length = n := by
    obtain ⟨a, b⟩ := sub_flat hcs
    rw [b]; simp; omega
  have hmin : Nat.min b.size n ≤ b.size := Nat.min_le_left _ _
  have hmin2 : Nat.min b.size n ≤ n := Nat.min_le_right _ _
  have hmin3 : Nat.min b.size n = b.size ∨ Nat.min b.size n = n := by
    rcases Nat.le_total b.size n with h | h
    · exact .inl (Nat.min_eq_left h)
    · exact .inr (Nat.min_eq_right h)
  generalize hm : Nat.min b.size n = m at hmin hmin2 hmin3
  have hcells := data_extract b m hmin
  have hfl : ∀ g, (flat [SK.f .u8 n g]).length = n := fun g => by simp [flat, SK.cells]
  rw [hfl] at l1 l2
  have hst := run_storeCells_at (P := P) (ρ o) off e' ((List.range m).map fun j => Value.int .u8 ((b.data.getD j 0).toNat : Int)) 0 (concs ρ ks ++ rest).toArray w h2 (by simp; omega) (by
    intro v hv
    simp only [List.mem_map] at hv
    obtain ⟨j, _, rfl⟩ := hv
    rfl)
  have hnew : ((concs ρ ks ++ rest).toArray.toList.take (off + 0) ++ ((List.range m).map fun j => Value.int .u8 ((b.data.getD j 0).toNat : Int)) ++ (concs ρ ks ++ rest).toArray.toList.drop (off + 0 + ((List.range m).map fun j => Value.int .u8 ((b.data.getD j 0).toNat : Int)).length)) = concs ρ r ++ rest := by
    have hks : ∀ j, j < n → (concs ρ ks)[off + j]? = some (.int .u8 (selG cs j)) := by
      intro j hj
      have := selG_conc ha ρ (j := j) (by omega)
      rw [s2, List.getElem?_take, if_pos hj, List.getElem?_drop] at this
      exact this
    have hrl : concs ρ r = (concs ρ ks).take off ++ ((List.range n).map fun j => Value.int .u8 (if j < b.size then ((b.data.getD j 0).toNat : Int) else selG cs j)) ++ (concs ρ ks).drop (off + n) := by
      simp only [concs, l2, List.map_append, List.map_take, List.map_drop]
      congr 2
      simp [flat, SK.cells, Function.comp_def, SC.conc]
    rw [hrl]
    simp only [Nat.add_zero, List.length_map, List.length_range]
    rw [List.take_append_of_le_length (by omega), List.drop_append_of_le_length (by omega), List.append_assoc, List.append_assoc, List.append_assoc]
    congr 1
    have hsplit : (concs ρ ks).drop (off + m) = ((List.range (n - m)).map fun j => Value.int .u8 (selG cs (m + j))) ++ (concs ρ ks).drop (off + n) := by
      apply List.ext_getElem?
      intro j
      rw [List.getElem?_drop, List.getElem?_append]
      simp only [List.length_map, List.length_range]
      split
      · rename_i hj
        have := hks (m + j) (by omega)
        rw [← Nat.add_assoc] at this
        rw [this, List.getElem?_map, List.getElem?_range hj]; rfl
      · rename_i hj
        rw [List.getElem?_drop]
        congr 1
        omega
    have hmid : ((List.range n).map fun j => Value.int .u8 (if j < b.size then ((b.data.getD j 0).toNat : Int) else selG cs j)) = ((List.range m).map fun j => Value.int .u8 ((b.data.getD j 0).toNat : Int)) ++ ((List.range (n - m)).map fun j => Value.int .u8 (selG cs (m + j))) := by
      have e : n = m + (n - m) := by omega
      conv => lhs; rw [e, List.range_add]
      rw [List.map_append, List.map_map]
      congr 1
      · apply List.map_congr_left
        intro j hj
        simp only [List.mem_range] at hj
        rw [if_pos (by omega)]
      · apply List.map_congr_left
        intro j hj
        simp only [List.mem_range] at hj
        simp only [Function.comp_apply]
        rw [if_neg (by rcases hmin3 with e | e <;> omega)]
    rw [hsplit, hmid]
    simp only [List.append_assoc]
  have hnew' := congrArg List.toArray hnew
  rw [hnew'] at hst
  refine ⟨_, ?_, trivial, (H.turned ho hrest h2 (bnd_flat.2 (lay_all hr (bnd_flat.1 h3) bnd_f)) (fit_flat.2 (lay_all hr (fit_flat.1 h4) fit_f)))⟩
  rw [show SA.conc ρ (.sc (.sl o off n cap)) = .slice (some ⟨ρ o, off, none⟩) n cap from rfl, show SA.conc ρ (.sc (.val (.string b))) = .string b from rfl]
  have hc2 : List.take m (Array.map (fun c => Value.int .u8 c.toNat) b.data).toList = (List.range m).map fun j => Value.int .u8 ((b.data.getD j 0).toNat : Int) := by
    rw [← hcells]; simp
  generalize ((List.range m).map fun j => Value.int .u8 ((b.data.getD j 0).toNat : Int)) = news at hst hc2
  simp [-Array.toList_map, Builtin.copy_, run_underlying hu, Builtin.lenOf, Builtin.firstCells, run_sizeOf w hie, hm, hc2, goInt, SA.conc, SC.conc, hst]

theorem repKs_bnd {l : List SK} {n : Nat → Prop} (h : ∀ k ∈ l, k.bnd n) : ∀ m, ∀ k ∈ repKs l m, k.bnd n
  | 0, k, hk => by simp [repKs] at hk
  | m + 1, k, hk => by
    rw [repKs, List.mem_append] at hk
    rcases hk with hk | hk
    · exact h k hk
    · exact repKs_bnd h m k hk
theorem semMake_sound {P : Program} {t e : TypeId} {kl kc : IntKind} {x y : Int} {ks : List SK} (hu : P.underlying t = some (.slice e)) (h : semMake P e x y = some ks) (ρ : Nat → Nat) (w : World) :
    (Instr.makeSlice t (.int kl x) (.int kc y)).run P w = .ok (.slice (some ⟨w.heap.size, 0, none⟩) x.toNat y.toNat) (w.alloc (.cells (concs ρ ks).toArray e)) ∧ ∀ n : Nat → Prop, ∀ k ∈ ks, k.bnd n := by
  unfold semMake at h
  split at h
  case h_2 => cases h
  rename_i ie zk hie hzk
  split at h
  case isFalse => cases h
  rename_i hc
  obtain ⟨⟨c1, c2⟩, ⟨c3, c4⟩, c5, c6⟩ := hc
  simp only [Option.some.injEq] at h
  subst h
  have hzb := hzk
  unfold zeroKs at hzk
  split at hzk
  case h_2 => cases hzk
  rename_i z hz
  rw [hie] at hz
  simp only [Option.bind_some] at hz
  simp only [Option.some.injEq] at hzk
  have hcz : concs ρ zk = z.cells.toList := by rw [← hzk, litCs_conc]
  have hsz : z.cells.size = ie.size := by
    have := congrArg List.length hcz
    simp only [concs, List.length_map, Array.length_toList] at this
    omega
  refine ⟨?_, fun n => repKs_bnd (zeroKs_bnd hzb n) _⟩
  have hr := run_makeSlice (P := P) w t e ie z hu hie hz kl kc x y c1 c2 c3 c4 c5
  rw [hr]
  congr 3
  apply Array.ext'
  unfold madeCells
  rw [← hsz, rows_zero, concs_rep, hcz]

/-- An operation: what is owed, what it gives, the blocks behind it. -/
def semOp (P : Program) (cx : Cx) (id : Nat) (tm : List SV) (ob : List SO) (o : Oper) : Option (List Prop × SV × List SO) :=
  match o.op with
  | .move x | .assign x => some ([], ev tm x, ob)
  | .alloc t =>
    match zeroKs P t with
    | some ks => if ks.all SK.fit then (place ob id (.cells t ks 0)).map fun ob' => ([], .one (.sc (.ptr id 0)), ob') else none
    | none => none
  | .box t x =>
    match rd tm x with
    | some (ps, y) => if (toKs y).all SK.fit then (place ob id (.cells t (toKs y) 0)).map fun ob' => (ps, .one (.sc (.ptr id 0)), ob') else none
    | none => none
  | .buildSlice t len parts =>
    match rdP tm parts.toList, P.underlying t with
    | some (ps, ys), some (.slice e) => match semRow P e len ys with
      | some ks => if ks.all SK.fit then (place ob id (.cells e ks 0)).map fun ob' => (ps, .one (.sc (.sl id 0 len len)), ob') else none
      | none => none
    | _, _ => none
  | .makeSlice t l c =>
    match rd tm l, rd tm c, P.underlying t with
    | some (ps, .sc (.num _ x)), some (qs, .sc (.num _ y)), some (.slice e) => match semMake P e x y with
      | some ks => if ks.all SK.fit then (place ob id (.cells e ks 0)).map fun ob' => (ps ++ qs, .one (.sc (.sl id 0 x.toNat y.toNat)), ob') else none
      | none => none
    | _, _, _ => none
  | .load t x =>
    match rd tm x with
    | some (ps, y) => (semLoad P ob t y).map fun z => (ps ++ z.1, .one z.2, ob)
    | none => none
  | .store t x y =>
    match rd tm x, rd tm y with
    | some (ps, xv), some (qs, yv) => (semStore P ob t xv yv).map fun r => (ps ++ (qs ++ r.1), .one (.sc (.val undef)), r.2)
    | _, _ => none
  | .call { callee := .value x, args, .. } =>
    match calleeOf tm x, rdL tm args.toList with
    | some (p0, f, caps), some (ps, ys) => match cx.get f with
      | some s => match s (ys ++ caps.map ofPV) with
        | some (qs, sv) => some (p0 ++ (ps ++ qs), sv, ob)
        | none => none
      | none => none
    | _, _ => none
  | .call { callee := .builtin .copy, args, argTypes } =>
    match rdL tm args.toList with
    | some (ps, [s, x]) => (semCpy P ob argTypes.toList s x).map fun r => (ps, .one r.1, r.2)
    | _ => none
  | .convert s d x => match isBytes P s d with
    | true => match rd tm x with
      | some (ps, y) => (semStr ob y).map fun z => (ps ++ z.1, .one z.2, ob)
      | none => none
    | false => (semVal P tm o).map fun r => (r.1, .one r.2, ob)
  | _ => (semVal P tm o).map fun r => (r.1, .one r.2, ob)

theorem semOp_sound {cx : Cx} (hcx : CxOK P cx) (H : Holds W0 ρ tm ob a w) {id : Nat} {o : Oper} {ps : List Prop} {sv : SV} {ob' : List SO} (h : semOp P cx id tm ob o = some (ps, sv, ob')) (hp : Ok ps)
    {K : Act → World → Prop} {Q : Exit → Act → World → Prop} (hK : ∀ ρ' a' w', Holds W0 ρ' (put tm o.dst sv) ob' a' w' → K a' w') : o.wp P a w K Q := by
  unfold semOp at h
  split at h
  · rename_i x ho
    simp only [Option.some.injEq, Prod.mk.injEq] at h
    obtain ⟨rfl, rfl, rfl⟩ := h
    unfold Oper.wp execOp
    simp only [ho, Sem.run_pure, Oper.upon]
    exact hK ρ _ _ (H.put o.dst (H.ev x).1 (H.ev x).2)
  · rename_i x ho
    simp only [Option.some.injEq, Prod.mk.injEq] at h
    obtain ⟨rfl, rfl, rfl⟩ := h
    unfold Oper.wp execOp
    simp only [ho, Sem.run_pure, Oper.upon]
    exact hK ρ _ _ (H.put o.dst (H.ev x).1 (H.ev x).2)
  · rename_i t ho
    split at h
    case h_2 => cases h
    rename_i ks hz
    split at h
    case isFalse => cases h
    rename_i hf
    obtain ⟨ob2, hpl, he⟩ := Option.map_eq_some_iff.1 h
    simp only [Prod.mk.injEq] at he
    obtain ⟨rfl, rfl, rfl⟩ := he
    obtain ⟨z, hz1, hz2⟩ := run_zero hz w
    unfold Oper.wp execOp
    simp only [ho, Sem.run_bind, Instr.alloc, hz1, Result.andThen_ok, newVar, newRow, run_newObj, Sem.run_pure, hz2 ρ, Oper.upon]
    exact hK _ _ _ (H.place hpl (zeroKs_bnd hz _) (fun k hk => List.all_eq_true.1 hf k hk) o.dst)
  · rename_i t x ho
    split at h
    case h_2 => cases h
    rename_i p1 y hy
    split at h
    case isFalse => cases h
    rename_i hf
    obtain ⟨ob2, hpl, he⟩ := Option.map_eq_some_iff.1 h
    simp only [Prod.mk.injEq] at he
    obtain ⟨rfl, rfl, rfl⟩ := he
    obtain ⟨ex, bx⟩ := rd_sound hy hp H
    unfold Oper.wp execOp
    simp only [ho, Sem.run_bind, Instr.box, ex, newVar, newRow, toKs_conc, run_newObj, Result.andThen_ok, Sem.run_pure, Oper.upon]
    exact hK _ _ _ (H.place hpl (toKs_bnd bx) (fun k hk => List.all_eq_true.1 hf k hk) o.dst)
  · rename_i t len parts ho
    split at h
    case h_2 => cases h
    rename_i p1 ys e hy hu
    split at h
    case h_2 => cases h
    rename_i ks hr
    split at h
    case isFalse => cases h
    rename_i hf
    obtain ⟨ob2, hpl, he⟩ := Option.map_eq_some_iff.1 h
    simp only [Prod.mk.injEq] at he
    obtain ⟨rfl, rfl, rfl⟩ := he
    obtain ⟨e1, b1⟩ := rdP_sound H hy hp
    obtain ⟨r1, r2⟩ := semRow_sound hu hr ρ w
    have hparts : (parts.map fun x => (x.1, a.eval x.2)) = (ys.map fun p => (p.1, p.2.conc ρ)).toArray := by
      apply Array.ext'
      rw [Array.toList_map, e1]
    obtain ⟨H', hl, hg⟩ := H.placed (rest := []) hpl (r2 _ b1) (fun k hk => List.all_eq_true.1 hf k hk)
    rw [List.append_nil] at H'
    unfold Oper.wp execOp
    simp only [ho, hparts, Sem.run_bind, r1, Result.andThen_ok, Sem.run_pure, Oper.upon]
    exact hK _ _ _ (H'.put o.dst (sv := .one (.sc (.sl id 0 len len))) (by simp [SV.rep, SA.conc, SC.conc, hg]) hl)
  · rename_i t l c ho
    split at h
    case h_2 => cases h
    rename_i p1 k1 x p2 k2 y e hl hc hu
    split at h
    case h_2 => cases h
    rename_i ks hr
    split at h
    case isFalse => cases h
    rename_i hf
    obtain ⟨ob2, hpl, he⟩ := Option.map_eq_some_iff.1 h
    simp only [Prod.mk.injEq] at he
    obtain ⟨rfl, rfl, rfl⟩ := he
    obtain ⟨o1, o2⟩ := Ok.append.1 hp
    obtain ⟨el, _⟩ := rd_sound hl o1 H
    obtain ⟨ec, _⟩ := rd_sound hc o2 H
    obtain ⟨r1, r2⟩ := semMake_sound (kl := k1) (kc := k2) hu hr ρ w
    obtain ⟨H', hlv, hg⟩ := H.placed (rest := []) hpl (r2 _) (fun k hk => List.all_eq_true.1 hf k hk)
    rw [List.append_nil] at H'
    have el' : a.eval l = .int k1 x := el
    have ec' : a.eval c = .int k2 y := ec
    unfold Oper.wp execOp
    simp only [ho, el', ec', Sem.run_bind, r1, Result.andThen_ok, Sem.run_pure, Oper.upon]
    exact hK _ _ _ (H'.put o.dst (sv := .one (.sc (.sl id 0 x.toNat y.toNat))) (by simp [SV.rep, SA.conc, SC.conc, hg]) hlv)
  · rename_i t x ho
    split at h
    case h_2 => cases h
    rename_i p1 y hy
    obtain ⟨z, hz, he⟩ := Option.map_eq_some_iff.1 h
    simp only [Prod.mk.injEq] at he
    obtain ⟨rfl, rfl, rfl⟩ := he
    obtain ⟨o1, o2⟩ := Ok.append.1 hp
    obtain ⟨ex, bx⟩ := rd_sound hy o1 H
    obtain ⟨e, b⟩ := semLoad_sound (P := P) H hz o2
    unfold Oper.wp execOp
    simp only [ho, Sem.run_bind, ex, e, Result.andThen_ok, Sem.run_pure, Oper.upon]
    exact hK ρ _ _ (H.put o.dst (sv := .one z.2) rfl b)
  · rename_i t x y ho
    split at h
    case h_2 => cases h
    rename_i p1 xv p2 yv hx hy
    obtain ⟨r, hs, he⟩ := Option.map_eq_some_iff.1 h
    simp only [Prod.mk.injEq] at he
    obtain ⟨rfl, rfl, rfl⟩ := he
    obtain ⟨o1, o2⟩ := Ok.append.1 hp
    obtain ⟨o2, o3⟩ := Ok.append.1 o2
    obtain ⟨ex, bx⟩ := rd_sound hx o1 H
    obtain ⟨ey, bY⟩ := rd_sound hy o2 H
    obtain ⟨w', e, H'⟩ := semStore_sound (P := P) H bY hs o3
    unfold Oper.wp execOp
    simp only [ho, Sem.run_bind, ex, ey, e, Result.andThen_ok, Sem.run_pure, Oper.upon]
    exact hK ρ _ _ (H'.put o.dst (sv := .one (.sc (.val undef))) rfl trivial)
  · rename_i x args argTypes ho
    split at h
    case h_2 => cases h
    rename_i p0 f caps p1 ys h0 h1
    split at h
    case h_2 => cases h
    rename_i s hs
    split at h
    case h_2 => cases h
    rename_i p2 sv' h2
    simp only [Option.some.injEq, Prod.mk.injEq] at h
    obtain ⟨rfl, rfl, rfl⟩ := h
    obtain ⟨o0, o1⟩ := Ok.append.1 hp
    obtain ⟨o1, o2⟩ := Ok.append.1 o1
    obtain ⟨ef, bf⟩ := calleeOf_sound H h0 o0
    obtain ⟨e1, b1⟩ := rdL_sound H h1 o1
    obtain ⟨b0, hfn⟩ := Cx.get_ok hcx hs _ p2 sv' h2 o2
    have hargs : args.map a.eval = (ys.map (SA.conc ρ)).toArray := by
      apply Array.ext'
      rw [Array.toList_map, e1]
    have hcaps : (caps.map ofPV).map (SA.conc ρ) = caps.map (PV.conc ρ) := by
      rw [List.map_map]; exact List.map_congr_left fun p _ => ofPV_conc ρ p
    have hrun : (execOp a.eval o).run P w = (callFunc f ((ys ++ caps.map ofPV).map (SA.conc ρ)).toArray).run P w := by
      rw [run_call_fn ho ef hargs, List.map_append, hcaps]
    unfold Oper.wp
    rw [hrun]
    rcases hfn ρ w with ⟨r, hc⟩ | ⟨v, r, hv⟩
    · rw [r, Oper.upon_enter]
      refine hc.mono ?_
      rintro e w' ⟨v, rfl, hv, hbl⟩
      refine hK ρ _ _ (Holds.put ⟨H.size, H.rep, H.bnd, H.defers, ?_, H.mem.grow hbl (Agree.refl _ _), H.kept⟩ o.dst hv (SV.bnd_mono none0_le b0))
      exact H.below.trans (hbl.mono H.below.size)
    · rw [r, Oper.upon_value]
      exact hK ρ _ _ (H.put o.dst hv (SV.bnd_mono none0_le b0))
  · rename_i args argTypes ho
    split at h
    case h_2 => cases h
    rename_i p1 s x h1
    obtain ⟨r, hr, he⟩ := Option.map_eq_some_iff.1 h
    simp only [Prod.mk.injEq] at he
    obtain ⟨rfl, rfl, rfl⟩ := he
    obtain ⟨e1, b1⟩ := rdL_sound H h1 hp
    obtain ⟨w', hrun, hb, H'⟩ := semCpy_sound (ty := o.type) H hr
    rw [Array.toArray_toList] at hrun
    have hargs : args.map a.eval = #[s.conc ρ, x.conc ρ] := by
      apply Array.ext'
      rw [Array.toList_map, e1]; rfl
    unfold Oper.wp execOp
    simp only [ho, resolve, hargs, Sem.run_bind, Sem.run_pure, Result.andThen_ok, invoke, builtin, hrun, Oper.upon]
    exact hK ρ _ _ (H'.put o.dst (sv := .one r.1) rfl hb)
  · rename_i s d x ho
    split at h
    · rename_i hb
      split at h
      case h_2 => cases h
      rename_i p1 y hy
      obtain ⟨z, hz, he⟩ := Option.map_eq_some_iff.1 h
      simp only [Prod.mk.injEq] at he
      obtain ⟨rfl, rfl, rfl⟩ := he
      obtain ⟨o1, o2⟩ := Ok.append.1 hp
      obtain ⟨ex, bx⟩ := rd_sound hy o1 H
      obtain ⟨e, b⟩ := semStr_sound (P := P) H hb hz o2
      unfold Oper.wp execOp
      simp only [ho, Sem.run_bind, ex, e, Result.andThen_ok, Sem.run_pure, Oper.upon]
      exact hK ρ _ _ (H.put o.dst (sv := .one z.2) rfl b)
    · obtain ⟨r, hr, he⟩ := Option.map_eq_some_iff.1 h
      simp only [Prod.mk.injEq] at he
      obtain ⟨rfl, rfl, rfl⟩ := he
      obtain ⟨e, b⟩ := semVal_sound (P := P) H hr hp
      unfold Oper.wp
      rw [e, Oper.upon_value]
      exact hK ρ _ _ (H.put o.dst (sv := .one r.2) rfl b)
  · obtain ⟨r, hr, he⟩ := Option.map_eq_some_iff.1 h
    simp only [Prod.mk.injEq] at he
    obtain ⟨rfl, rfl, rfl⟩ := he
    obtain ⟨e, b⟩ := semVal_sound (P := P) H hr hp
    unfold Oper.wp
    rw [e, Oper.upon_value]
    exact hK ρ _ _ (H.put o.dst (sv := .one r.2) rfl b)
end

end Go.Sx
end

section
/-
  A calculus of symbolic states for walks over translated Go code, part 9: guards; a region in the text's order.
-/
namespace Go.Sx
open Go.RowKit

/-- Operations that turn no block of the call's own. -/
def eff : Op → Bool
  | .alloc _ | .box .. | .store .. | .buildSlice .. | .makeSlice .. | .call { callee := .builtin .copy, .. } => true
  | _ => false

def guarded (P : Program) (cx : Cx) (id : Nat) (tm : List SV) (ob : List SO) (o : Oper) (g : Bool) : Option (List Prop × SV × List SO) :=
  if eff o.op then none else
  match semOp P cx id tm ob o with
  | some (ps, .one x, _) => some (ps.map (fun p => g = true → p), .gd g x, ob)
  | some (ps, .gd b x, _) => some (((b = true) :: ps).map (fun p => g = true → p), .gd g x, ob)
  | _ => none
/-- An operation under its guard. -/
def semG (P : Program) (cx : Cx) (ops : Array Oper) (id : Nat) (tm : List SV) (ob : List SO) (o : Oper) : Option (List Prop × SV × List SO) :=
  match o.guard with
  | none => semOp P cx id tm ob o
  | some (j, want) =>
    match (ops[j]?).bind (·.dst) with
    | none => none
    | some d =>
      match tm.getD d .any with
      | .one (.sc (.bit b)) => if b == want then semOp P cx id tm ob o else some ([], .one (.sc (.val undef)), ob)
      | .one (.sc (.val (.bool b))) => match want with
        | true => guarded P cx id tm ob o b
        | false => guarded P cx id tm ob o (!b)
      | .gd g (.sc (.bit b)) => if b == want then guarded P cx id tm ob o g else some ([], .one (.sc (.val undef)), ob)
      | .gd g (.sc (.val (.bool b))) => match want with
        | true => guarded P cx id tm ob o (g && b)
        | false => guarded P cx id tm ob o (g && !b)
      | _ => none

theorem semOp_quiet {P : Program} {cx : Cx} {id : Nat} {tm : List SV} {ob ob' : List SO} {o : Oper} {ps : List Prop} {sv : SV} (h : semOp P cx id tm ob o = some (ps, sv, ob')) (he : eff o.op = false) : ob' = ob := by
  unfold semOp at h
  split at h
  all_goals first
    | (rename_i ho; simp [eff, ho] at he; done)
    | skip
  · simp only [Option.some.injEq, Prod.mk.injEq] at h; exact h.2.2.symm
  · simp only [Option.some.injEq, Prod.mk.injEq] at h; exact h.2.2.symm
  · split at h
    · obtain ⟨z, _, e⟩ := Option.map_eq_some_iff.1 h; simp only [Prod.mk.injEq] at e; exact e.2.2.symm
    · cases h
  · split at h
    · split at h
      · split at h
        · simp only [Option.some.injEq, Prod.mk.injEq] at h; exact h.2.2.symm
        · cases h
      · cases h
    · cases h
  · split at h
    · split at h
      · obtain ⟨z, _, e⟩ := Option.map_eq_some_iff.1 h; simp only [Prod.mk.injEq] at e; exact e.2.2.symm
      · cases h
    · obtain ⟨z, _, e⟩ := Option.map_eq_some_iff.1 h; simp only [Prod.mk.injEq] at e; exact e.2.2.symm
  · obtain ⟨z, _, e⟩ := Option.map_eq_some_iff.1 h; simp only [Prod.mk.injEq] at e; exact e.2.2.symm

section
variable {P : Program} {W0 : Base} {ρ : Nat → Nat} {tm : List SV} {ob : List SO} {a : Act} {w : World}

theorem yielded_of {ops : Array Oper} {j : Nat} {d : Tmp} (hd : (ops[j]?).bind (·.dst) = some d) (tmps : Array Value) :
    yielded ops tmps j = match tmps.getD d undef with | .bool b => some b | _ => none := by
  unfold yielded
  rw [hd]
  simp only [Option.bind_some, Array.getD_eq_getD_getElem?]
  cases tmps[d]? with
  | none => rfl
  | some v => cases v <;> rfl

theorem put_rep {tm : List SV} {dst : Option Tmp} {sv sv' : SV} {a : Act} (hs : a.tmps.size = (put tm dst sv).length) (hr : ∀ t : Nat, ((put tm dst sv).getD t .any).rep ρ (a.tmps.getD t undef)) (hb : ∀ t : Nat, ((put tm dst sv).getD t .any).bnd (live ob))
    (h1 : ∀ v, sv.rep ρ v → sv'.rep ρ v) (h2 : sv.bnd (live ob) → sv'.bnd (live ob)) :
    a.tmps.size = (put tm dst sv').length ∧ (∀ t : Nat, ((put tm dst sv').getD t .any).rep ρ (a.tmps.getD t undef)) ∧ (∀ t : Nat, ((put tm dst sv').getD t .any).bnd (live ob)) := by
  cases dst with
  | none => exact ⟨hs, hr, hb⟩
  | some d =>
    refine ⟨by rw [hs, length_put, length_put], fun t => ?_, fun t => ?_⟩
    · have := hr t
      simp only [put, List.getD_eq_getElem?_getD, List.getElem?_set] at this ⊢
      by_cases e : d = t
      · subst e
        by_cases l : d < tm.length
        · simp only [l, if_true, Option.getD_some] at this ⊢; exact h1 _ this
        · simp only [l, if_true, if_false, Option.getD_none] at this ⊢; exact trivial
      · simp only [e, if_false] at this ⊢; exact this
    · have := hb t
      simp only [put, List.getD_eq_getElem?_getD, List.getElem?_set] at this ⊢
      by_cases e : d = t
      · subst e
        by_cases l : d < tm.length
        · simp only [l, if_true, Option.getD_some] at this ⊢; exact h2 this
        · simp only [l, if_true, if_false, Option.getD_none] at this ⊢; exact trivial
      · simp only [e, if_false] at this ⊢; exact this
theorem Holds.as {tm : List SV} {dst : Option Tmp} {sv sv' : SV} (H : Holds W0 ρ (Sx.put tm dst sv) ob a w) (h1 : ∀ v, sv.rep ρ v → sv'.rep ρ v) (h2 : sv.bnd (live ob) → sv'.bnd (live ob)) : Holds W0 ρ (Sx.put tm dst sv') ob a w := by
  obtain ⟨a1, a2, a3⟩ := put_rep H.size H.rep H.bnd h1 h2
  exact ⟨a1, a2, a3, H.defers, H.below, H.mem, H.kept⟩

theorem guarded_sound {cx : Cx} (hcx : CxOK P cx) (H : Holds W0 ρ tm ob a w) {id : Nat} {o : Oper} {g : Bool} {ps : List Prop} {sv : SV} {ob' : List SO} (h : guarded P cx id tm ob o g = some (ps, sv, ob')) (hp : Ok ps)
    {K : Act → World → Prop} {Q : Exit → Act → World → Prop} (hK : ∀ ρ' a' w', Holds W0 ρ' (put tm o.dst sv) ob' a' w' → K a' w') :
    if g then o.wp P a w K Q else K (a.put o.dst undef) w := by
  unfold guarded at h
  split at h
  · cases h
  rename_i he
  have he : eff o.op = false := by simpa using he
  split at h
  · rename_i p1 x ob1 h1
    simp only [Option.some.injEq, Prod.mk.injEq] at h
    obtain ⟨rfl, rfl, rfl⟩ := h
    have hq := semOp_quiet h1 he
    subst hq
    cases g with
    | true =>
      simp only [if_true]
      exact semOp_sound hcx H h1 (Ok_map hp rfl) fun ρ' a' w' H' => hK ρ' a' w' (H'.as (fun v hv => by simpa [SV.rep] using hv) (fun hb _ => hb))
    | false =>
      simp only [Bool.false_eq_true, if_false]
      exact hK ρ _ _ (H.put o.dst (by simp [SV.rep]) (by intro e; cases e))
  · rename_i p1 b x ob1 h1
    simp only [Option.some.injEq, Prod.mk.injEq] at h
    obtain ⟨rfl, rfl, rfl⟩ := h
    have hq := semOp_quiet h1 he
    subst hq
    cases g with
    | true =>
      simp only [if_true]
      have hp' := Ok_map hp rfl
      have hb := hp'.1
      exact semOp_sound hcx H h1 hp'.2 fun ρ' a' w' H' => hK ρ' a' w' (H'.as (fun v hv => by simpa [SV.rep, hb] using hv) (fun hbn _ => hbn hb))
    | false =>
      simp only [Bool.false_eq_true, if_false]
      exact hK ρ _ _ (H.put o.dst (by simp [SV.rep]) (by intro e; cases e))
  · cases h

theorem semG_sound {cx : Cx} (hcx : CxOK P cx) {ops : Array Oper} {id : Nat} (H : Holds W0 ρ tm ob a w) {o : Oper} {ps : List Prop} {sv : SV} {ob' : List SO} (h : semG P cx ops id tm ob o = some (ps, sv, ob')) (hp : Ok ps)
    {K : Act → World → Prop} {Q : Exit → Act → World → Prop} (hK : ∀ ρ' a' w', Holds W0 ρ' (put tm o.dst sv) ob' a' w' → K a' w') :
    if Region.wanted o (yielded ops a.tmps) then o.wp P a w K Q else K (a.put o.dst undef) w := by
  unfold semG at h
  split at h
  · rename_i hg
    simp only [Region.wanted, hg, if_true]
    exact semOp_sound hcx H h hp hK
  rename_i j want hg
  split at h
  · cases h
  rename_i d hd
  have hrep := H.rep d
  have hw : Region.wanted o (yielded ops a.tmps) = ((match a.tmps.getD d undef with | .bool b => some b | _ => none) == some want) := by
    simp only [Region.wanted, hg, yielded_of hd]
  rw [hw]
  split at h
  · rename_i b hb
    rw [hb] at hrep
    simp only [SV.rep, SA.conc, SC.conc] at hrep
    rw [hrep]
    split at h
    · rename_i e
      have : ((some b : Option Bool) == some want) = true := by simpa using e
      simp only [this, if_true]
      exact semOp_sound hcx H h hp hK
    · rename_i e
      have : ((some b : Option Bool) == some want) = false := by simpa using e
      simp only [this, Bool.false_eq_true, if_false]
      simp only [Option.some.injEq, Prod.mk.injEq] at h
      obtain ⟨rfl, rfl, rfl⟩ := h
      exact hK ρ _ _ (H.put o.dst (sv := .one (.sc (.val undef))) rfl trivial)
  · rename_i b hb
    rw [hb] at hrep
    simp only [SV.rep, SA.conc, SC.conc] at hrep
    rw [hrep]
    split at h
    · have := guarded_sound hcx H h hp (Q := Q) hK
      have e : ((some b : Option Bool) == some true) = b := by cases b <;> rfl
      simp only [e]
      exact this
    · have := guarded_sound hcx H h hp (Q := Q) hK
      have e : ((some b : Option Bool) == some false) = !b := by cases b <;> rfl
      simp only [e]
      exact this
  · rename_i g b hb
    rw [hb] at hrep
    simp only [SV.rep, SA.conc, SC.conc] at hrep
    rw [hrep]
    split at h
    · rename_i e
      have e : b = want := by simpa using e
      subst e
      have := guarded_sound hcx H h hp (Q := Q) hK
      cases g
      · simpa [undef] using this
      · simpa using this
    · rename_i e
      simp only [Option.some.injEq, Prod.mk.injEq] at h
      obtain ⟨rfl, rfl, rfl⟩ := h
      have hk : K (a.put o.dst undef) w := hK ρ _ _ (H.put o.dst (sv := .one (.sc (.val undef))) rfl trivial)
      have e : (b == want) = false := by simpa using e
      cases g
      · simpa [undef] using hk
      · simpa [e] using hk
  · rename_i g b hb
    rw [hb] at hrep
    simp only [SV.rep, SA.conc, SC.conc] at hrep
    rw [hrep]
    split at h
    · have := guarded_sound hcx H h hp (Q := Q) hK
      cases g
      · simpa [undef] using this
      · cases b <;> simpa using this
    · have := guarded_sound hcx H h hp (Q := Q) hK
      cases g
      · simpa [undef] using this
      · cases b <;> simpa using this
  · cases h

/-- What is owed, and then the rest. -/
def ands : List Prop → Prop → Prop
  | [], k => k
  | p :: r, k => p ∧ ands r k
theorem ands_iff {ps : List Prop} {k : Prop} : ands ps k ↔ Ok ps ∧ k := by
  induction ps with
  | nil => simp [ands, Ok]
  | cons p r ih => simp [ands, Ok, ih, and_assoc]
/-- Here the calculus knows no more: which operation. -/
inductive Stuck : Oper → Prop
inductive StuckAt : String → Prop
theorem Stuck.no {o : Oper} (h : Stuck o) {p : Prop} : p := by cases h
theorem StuckAt.no {o : String} (h : StuckAt o) {p : Prop} : p := by cases h

end

/-! ## What has died is forgotten -/

def liveB (ob : List SO) (i : Nat) : Bool :=
  match ob[i]? with
  | some (.cells _ _ _) => true
  | _ => false
def PV.bndB (n : Nat → Bool) : PV → Bool
  | .p o _ => n o
  | .v _ => true
def SC.bndB (n : Nat → Bool) : SC → Bool
  | .ptr o _ | .pti o _ _ _ | .sl o _ _ _ | .sls o _ _ _ _ => n o
  | .fn _ caps => caps.all (PV.bndB n)
  | .num _ _ | .bit _ | .val _ => true
def SK.bndB (n : Nat → Bool) : SK → Bool
  | .c s => s.bndB n
  | .u _ | .f _ _ _ => true
def SA.bndB (n : Nat → Bool) : SA → Bool
  | .sc c => c.bndB n
  | .agg ks => ks.all (SK.bndB n)
def SV.bndB (n : Nat → Bool) : SV → Bool
  | .any => true
  | .one x => x.bndB n
  | .tup xs => xs.all (SA.bndB n)
  | .gd _ x => x.bndB n
def obB (n : Nat → Bool) : SO → Bool
  | .gone | .dead => true
  | .cells _ ks _ => ks.all (SK.bndB n)

theorem liveB_iff {ob : List SO} {i : Nat} (h : liveB ob i = true) : live ob i := by
  unfold liveB at h
  split at h
  · exact ⟨_, _, _, by assumption⟩
  · cases h
section
variable {n : Nat → Bool} {m : Nat → Prop} (hm : ∀ i, n i = true → m i)
include hm
theorem PV.bndB_iff : ∀ {c : PV}, c.bndB n = true → c.bnd m
  | .p _ _, h => hm _ h
  | .v _, _ => trivial
theorem SC.bndB_iff : ∀ {c : SC}, c.bndB n = true → c.bnd m
  | .ptr _ _, h | .pti _ _ _ _, h | .sl _ _ _ _, h | .sls _ _ _ _ _, h => hm _ h
  | .fn _ _, h => fun c hc => PV.bndB_iff hm (List.all_eq_true.1 h c hc)
  | .num _ _, _ | .bit _, _ | .val _, _ => trivial
theorem SK.bndB_iff : ∀ {c : SK}, c.bndB n = true → c.bnd m
  | .c _, h => SC.bndB_iff hm h
  | .u _, _ | .f _ _ _, _ => trivial
theorem SA.bndB_iff : ∀ {c : SA}, c.bndB n = true → c.bnd m
  | .sc _, h => SC.bndB_iff hm h
  | .agg _, h => fun k hk => SK.bndB_iff hm (List.all_eq_true.1 h k hk)
theorem SV.bndB_iff : ∀ {c : SV}, c.bndB n = true → c.bnd m
  | .any, _ => trivial
  | .one _, h => SA.bndB_iff hm h
  | .tup _, h => fun k hk => SA.bndB_iff hm (List.all_eq_true.1 h k hk)
  | .gd _ _, h => fun _ => SA.bndB_iff hm h
end
section
variable {n m : Nat → Prop}
theorem PV.bnd_and : ∀ {c : PV}, c.bnd n → c.bnd m → c.bnd fun i => n i ∧ m i
  | .p _ _, h, k => ⟨h, k⟩
  | .v _, _, _ => trivial
theorem SC.bnd_and : ∀ {c : SC}, c.bnd n → c.bnd m → c.bnd fun i => n i ∧ m i
  | .ptr _ _, h, k | .pti _ _ _ _, h, k | .sl _ _ _ _, h, k | .sls _ _ _ _ _, h, k => ⟨h, k⟩
  | .fn _ _, h, k => fun c hc => PV.bnd_and (h c hc) (k c hc)
  | .num _ _, _, _ | .bit _, _, _ | .val _, _, _ => trivial
theorem SK.bnd_and : ∀ {c : SK}, c.bnd n → c.bnd m → c.bnd fun i => n i ∧ m i
  | .c _, h, k => SC.bnd_and h k
  | .u _, _, _ | .f _ _ _, _, _ => trivial
theorem SA.bnd_and : ∀ {c : SA}, c.bnd n → c.bnd m → c.bnd fun i => n i ∧ m i
  | .sc _, h, k => SC.bnd_and h k
  | .agg _, h, k => fun x hx => SK.bnd_and (h x hx) (k x hx)
theorem SV.bnd_and : ∀ {c : SV}, c.bnd n → c.bnd m → c.bnd fun i => n i ∧ m i
  | .any, _, _ => trivial
  | .one _, h, k => SA.bnd_and h k
  | .tup _, h, k => fun x hx => SA.bnd_and (h x hx) (k x hx)
  | .gd _ _, h, k => fun e => SA.bnd_and (h e) (k e)
end

def scrub1 (ob : List SO) (s : SV) : SV :=
  match SV.bndB (liveB ob) s with
  | true => s
  | false => .any
def scrub (ob : List SO) (tm : List SV) : List SV := tm.map (scrub1 ob)
theorem scrub_get (ob : List SO) (tm : List SV) (t : Nat) : (scrub ob tm).getD t .any = .any ∨ ((scrub ob tm).getD t .any = tm.getD t .any ∧ (tm.getD t .any).bnd (live ob)) := by
  unfold scrub
  simp only [List.getD_eq_getElem?_getD, List.getElem?_map]
  cases h : tm[t]? with
  | none => exact .inl rfl
  | some s =>
    simp only [Option.map_some, Option.getD_some, scrub1]
    split
    · rename_i hb; exact .inr ⟨rfl, SV.bndB_iff (fun i => liveB_iff) hb⟩
    · exact .inl rfl
theorem scrub_length (ob : List SO) (tm : List SV) : (scrub ob tm).length = tm.length := by simp [scrub]

section
variable {P : Program} {W0 : Base} {ρ : Nat → Nat} {tm : List SV} {ob : List SO} {a : Act} {w : World}

/-- A frame goes on, where what it knows lies where it lay. -/
theorem Holds.onto {ρ' : Nat → Nat} {ob' : List SO} {w' : World} (H : Holds W0 ρ tm ob a w) (hag : ∀ i, live ob i → live ob' i → ρ' i = ρ i) (hb : Below W0.w.heap.size W0.w w') (hm : Mem W0.w.heap.size ρ' ob' w') (hk : Kept W0 ρ' ob') : Holds W0 ρ' (scrub ob' tm) ob' a w' := by
  refine ⟨by rw [scrub_length]; exact H.size, fun t => ?_, fun t => ?_, H.defers, hb, hm, hk⟩
  · rcases scrub_get ob' tm t with e | ⟨e, hb⟩
    · rw [e]; trivial
    · rw [e]
      exact Agree.sv (n := fun i => live ob i ∧ live ob' i) (fun i hi => hag i hi.1 hi.2) (SV.bnd_and (H.bnd t) hb) (H.rep t)
  · rcases scrub_get ob' tm t with e | ⟨e, hb⟩
    · rw [e]; trivial
    · rw [e]; exact hb

/-! ## When an operation runs -/

inductive When where
  | yes
  | no
  | on (b : Bool)
def whenOf (ops : Array Oper) (tm : List SV) (o : Oper) : Option When :=
  match o.guard with
  | none => some .yes
  | some (j, want) =>
    match (ops[j]?).bind (·.dst) with
    | none => none
    | some d =>
      match tm.getD d .any with
      | .one (.sc (.bit b)) => if b == want then some .yes else some .no
      | .one (.sc (.val (.bool b))) => match want with
        | true => some (.on b)
        | false => some (.on (!b))
      | .gd g (.sc (.bit b)) => if b == want then some (.on g) else some .no
      | .gd g (.sc (.val (.bool b))) => match want with
        | true => some (.on (g && b))
        | false => some (.on (g && !b))
      | _ => none
def When.is : When → Bool → Prop
  | .yes, b => b = true
  | .no, b => b = false
  | .on c, b => b = c
theorem whenOf_sound (H : Holds W0 ρ tm ob a w) {ops : Array Oper} {o : Oper} {x : When} (h : whenOf ops tm o = some x) : x.is (Region.wanted o (yielded ops a.tmps)) := by
  unfold whenOf at h
  split at h
  · rename_i hg
    simp only [Option.some.injEq] at h; subst h
    simp [When.is, Region.wanted, hg]
  rename_i j want hg
  split at h
  · cases h
  rename_i d hd
  have hrep := H.rep d
  have hw : Region.wanted o (yielded ops a.tmps) = ((match a.tmps.getD d undef with | .bool b => some b | _ => none) == some want) := by
    simp only [Region.wanted, hg, yielded_of hd]
  rw [hw]
  split at h
  · rename_i b hb
    rw [hb] at hrep
    simp only [SV.rep, SA.conc, SC.conc] at hrep
    rw [hrep]
    split at h <;> rename_i e <;> simp only [Option.some.injEq] at h <;> subst h
    · simpa [When.is] using e
    · simpa [When.is] using e
  · rename_i b hb
    rw [hb] at hrep
    simp only [SV.rep, SA.conc, SC.conc] at hrep
    rw [hrep]
    split at h <;> simp only [Option.some.injEq] at h <;> subst h <;> cases b <;> rfl
  · rename_i g b hb
    rw [hb] at hrep
    simp only [SV.rep, SA.conc, SC.conc] at hrep
    rw [hrep]
    split at h <;> rename_i e <;> simp only [Option.some.injEq] at h <;> subst h
    · have e : b = want := by simpa using e
      subst e
      cases g <;> simp [When.is, undef]
    · have e : (b == want) = false := by simpa using e
      cases g <;> simp [When.is, undef, e]
  · rename_i g b hb
    rw [hb] at hrep
    simp only [SV.rep, SA.conc, SC.conc] at hrep
    rw [hrep]
    split at h <;> simp only [Option.some.injEq] at h <;> subst h <;> cases g <;> cases b <;> simp [When.is, undef]
  · cases h

/-! ## What takes more than one step: calls run in place, append, copy -/

/-- A call run in place: of a function, its arguments and the blocks. -/
abbrev Inl := Nat → List SA → List SO → (SV → List SO → Prop) → Prop
inductive Special where
  | call (ps : List Prop) (f : Nat) (args : List SA)
  | app (ps : List Prop) (ts : List TypeId) (s x : SA)
  | cpy (ps : List Prop) (ts : List TypeId) (s x : SA)
def special (cx : Cx) (tm : List SV) (o : Oper) : Option Special :=
  match o.op with
  | .call { callee := .value x, args, .. } =>
    match calleeOf tm x, rdL tm args.toList with
    | some (p0, f, caps), some (ps, ys) => match cx.get f with
      | some _ => none
      | none => some (.call (p0 ++ ps) f (ys ++ caps.map ofPV))
    | _, _ => none
  | .call { callee := .builtin .append, args, argTypes } =>
    match rdL tm args.toList with
    | some (ps, [s, x]) => some (.app ps argTypes.toList s x)
    | _ => none
  | .call { callee := .builtin .copy, args, argTypes } =>
    match rdL tm args.toList with
    | some (_, [_, .sc (.val _)]) => none
    | some (ps, [s, x]) => some (.cpy ps argTypes.toList s x)
    | _ => none
  | _ => none

/-- What lies in a slice that is handed to append. -/
def tailOf (ob : List SO) (size : Nat) (x : SA) : Option (Nat × List SK) :=
  match x with
  | .sc (.sl o off m _) =>
    match ob[o]? with
    | some (.cells _ ks _) => (sub ks off (m * size)).map fun r => (m, r)
    | _ => none
  | _ => none
/-- What lies in the slice that grows: how many, what is owed, the cells, and the blocks without it. -/
def headOf (ob : List SO) (size : Nat) (e : TypeId) (x : SA) : Option (Nat × List Prop × List SK × List SO) :=
  match x with
  | .sc (.val (.slice none 0 0)) => some (0, [], [], ob)
  | .sc (.sl o 0 n cap) =>
    match ob[o]? with
    | some (.cells e' ks sp) => if Nat.beq e' e ∧ Nat.beq (flat ks).length (n * size) then some (n, [n ≤ cap ∧ cap ≤ maxLen ∧ cap * size = n * size + sp], ks, ob.set o .dead) else none
    | _ => none
  | _ => none
/-- The plan of an append: what is owed, elements' type, how many cells one has, how many there will be, their cells, the blocks without the old one. -/
def appPlan (P : Program) (ob : List SO) (ts : List TypeId) (s x : SA) : Option (List Prop × TypeId × Nat × Nat × List SK × List SO) :=
  match ts with
  | [t, t'] =>
    if Nat.beq t t' then
      match P.underlying t with
      | some (.slice e) =>
        match P.info? e with
        | some ie =>
          match ie.zero with
          | some z =>
            match tailOf ob ie.size x, headOf ob ie.size e s with
            | some (m, new), some (n, qs, old, ob1) =>
              if z.cells.size = ie.size ∧ 0 < ie.size ∧ m ≠ 0 ∧ n + m ≤ maxLen ∧ (n + m) * ie.bytes ≤ 140737488355328 ∧ new.all SK.fit = true ∧ old.all SK.fit = true ∧
                (old ++ new).all (SK.bndB (liveB ob1)) = true ∧ ob1.all (obB (liveB ob1)) = true then some (qs, e, ie.size, n + m, old ++ new, ob1) else none
            | _, _ => none
          | none => none
        | none => none
      | _ => none
    else none
  | _ => none

/-- A copy into a row of cells: what is owed, how many, and the blocks behind it. -/
def cpyPlan (P : Program) (ob : List SO) (ts : List TypeId) (s x : SA) : Option (List Prop × SA × List SO) :=
  match ts with
  | t :: _ =>
    match P.underlying t with
    | some (.slice e) =>
      match P.info? e with
      | some ie =>
        match s with
        | .sc (.sl o off n _) =>
          match ob[o]? with
          | some (.cells e' ks sp) =>
            match x with
            | .sc (.sl o2 off2 m _) =>
              match ob[o2]? with
              | some (.cells _ ks2 _) =>
                match sub ks2 off2 (Nat.min m n * ie.size) with
                | some new => if new.all SK.fit then (lay ks off new).map fun r => ([], .sc (.num .i64 ((Nat.min m n : Nat) : Int)), ob.set o (.cells e' r sp)) else none
                | none => none
              | _ => none
            | _ => none
          | _ => none
        | _ => none
      | none => none
    | _ => none
  | _ => none

def doSpecial (P : Program) (inl : Inl) (ob : List SO) (k : SV → List SO → Prop) : Special → Prop
  | .call ps f args => ands ps (inl f args ob k)
  | .app ps ts s x => match appPlan P ob ts s x with
    | some (qs, e, size, n, ks, ob1) => ands (ps ++ qs) (∀ c : Nat, n + c ≤ maxLen → k (.one (.sc (.sl ob1.length 0 n (n + c)))) (ob1 ++ [.cells e ks (c * size)]))
    | none => StuckAt "append"
  | .cpy ps ts s x => match cpyPlan P ob ts s x with
    | some (qs, z, ob1) => ands (ps ++ qs) (k (.one z) ob1)
    | none => StuckAt "copy"

/-- A region in the text's order. d: new blocks come to lie at places kept for them, one an operation (else behind the last). -/
def runs (P : Program) (cx : Cx) (inl : Inl) (ops : Array Oper) (d : Bool) : Nat → List Oper → List SV → List SO → (List SV → List SO → Prop) → Prop
  | _, [], tm, ob, K => K tm ob
  | i, o :: r, tm, ob, K =>
    match d, special cx tm o with
    | false, some sp =>
      match whenOf ops tm o with
      | some .yes => doSpecial P inl ob (fun sv ob' => runs P cx inl ops d (i + 1) r (put (scrub ob' tm) o.dst sv) ob' K) sp
      | some .no => runs P cx inl ops d (i + 1) r (put tm o.dst (.one (.sc (.val undef)))) ob K
      | some (.on b) => (b = true → doSpecial P inl ob (fun sv ob' => runs P cx inl ops d (i + 1) r (put (scrub ob' tm) o.dst sv) ob' K) sp) ∧ (b = false → runs P cx inl ops d (i + 1) r (put tm o.dst (.one (.sc (.val undef)))) ob K)
      | none => Stuck o
    | _, _ =>
      match semG P cx ops (match d with | true => i | false => ob.length) tm ob o with
      | some (ps, sv, ob') => ands ps (runs P cx inl ops d (i + 1) r (put tm o.dst sv) ob' K)
      | none => Stuck o

/-- A call run in place is a call. -/
def InlOK (P : Program) (inl : Inl) : Prop := ∀ f args ob k, inl f args ob k → ∀ {Z : Base} {ρ : Nat → Nat} {tm : List SV} {a : Act} {w : World}, Holds Z ρ tm ob a w → (∀ x ∈ args, x.bnd (live ob)) →
  (callFunc f (args.map (SA.conc ρ)).toArray).run P w = .ok (.enter f (args.map (SA.conc ρ)).toArray) w ∧
    Calls P f (args.map (SA.conc ρ)).toArray w fun e w' => ∃ v, e = .returned v ∧ ∃ ρ' sv ob', k sv ob' ∧ sv.rep ρ' v ∧ sv.bnd (live ob') ∧ Holds Z ρ' (scrub ob' tm) ob' a w'
def noInl : Inl := fun _ _ _ _ => StuckAt "depth"
theorem noInl_ok (P : Program) : InlOK P noInl := fun _ _ _ _ h => h.no
end

end Go.Sx
end
