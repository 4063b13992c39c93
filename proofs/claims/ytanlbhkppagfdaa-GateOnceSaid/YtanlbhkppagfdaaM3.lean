/-
  Texts: Sx8.
-/
import Derived.Test.YtanlbhkppagfdaaM1
import Derived.Test.YtanlbhkppagfdaaM2
import Derived.Laws.MakeOwn
import Derived.Great.BuildSlice
import Derived.Laws.BytesString
import Derived.Laws.IdiomStrings
section
namespace Go.Sx
open Go.RowKit
abbrev FSpec := List SA → Option (List Prop × SV)
structure WSpec where
  e : TypeId
  k : IntKind
  of : List SA → Int → Option (List Prop × SV × Int)
def noteO (e : TypeId) (k : IntKind) (n : Int) : SO := .cells e [.c (.val (.int k n))] 0
def FnOKw (P : Program) (gl : Globs) (f : Nat) (s : WSpec) : Prop :=
  ∀ args n ps sv m, s.of args n = some (ps, sv, m) → Ok ps → sv.bnd none0 ∧ ∀ (Z : World) (ρ : Rho) (w : World), Below Z.heap.size Z w → Mem Z.heap.size ρ [noteO s.e s.k n] w → GlobsOK gl ρ.fz → (∀ x ∈ args, x.bnd (lv ρ [noteO s.e s.k n])) → ∀ keep : Nat → Obj → Prop, Keeps keep ρ [noteO s.e s.k n] w →
    (callFunc f (args.map (SA.conc ρ)).toArray).run P w = .ok (.enter f (args.map (SA.conc ρ)).toArray) w ∧
      Calls P f (args.map (SA.conc ρ)).toArray w fun r w' => ∃ v ρ', r = .returned v ∧ sv.rep ρ v ∧ Below Z.heap.size Z w' ∧ Mem Z.heap.size ρ' [noteO s.e s.k m] w' ∧ ρ' 0 = ρ 0 ∧ (∀ b o u, ρ.fz b o u → ρ'.fz b o u) ∧ Keeps keep ρ' [noteO s.e s.k m] w'
structure Cx where
  fns : List (Nat × FSpec)
  gl : Globs := []
  kn : Nat := 0
  wf : List (Nat × WSpec) := []
instance : Coe (List (Nat × FSpec)) Cx := ⟨fun l => ⟨l, [], 0, []⟩⟩
abbrev Cx.none : Cx := ⟨[], [], 0, []⟩
def getS : List (Nat × FSpec) → Nat → Option FSpec
  | [], _ => none
  | (g, s) :: r, f => match Nat.beq g f with
    | true => some s
    | false => getS r f
def Cx.get (cx : Cx) (f : Nat) : Option FSpec := getS cx.fns f
def FzOK (fz : Nat → Nat → Value → Prop) (w : World) : Prop := ∀ b o v, fz b o v → w.cell? ⟨b, o, none⟩ = some v
def FnOKg (P : Program) (gl : Globs) (f : Nat) (s : FSpec) : Prop :=
  ∀ args ps sv, s args = some (ps, sv) → Ok ps → sv.bnd none0 ∧ ∀ (ρ : Rho) (w : World), FzOK ρ.fz w → GlobsOK gl ρ.fz → (∀ x ∈ args, x.bnd ⟨fun _ => True, ρ.fz⟩) →
    ((callFunc f (args.map (SA.conc ρ)).toArray).run P w = .ok (.enter f (args.map (SA.conc ρ)).toArray) w ∧
      Calls P f (args.map (SA.conc ρ)).toArray w fun e w' => ∃ v, e = .returned v ∧ sv.rep ρ v ∧ Below w.heap.size w w') ∨
    ∃ v, (callFunc f (args.map (SA.conc ρ)).toArray).run P w = .ok (.value v) w ∧ sv.rep ρ v
abbrev FnOK (P : Program) (f : Nat) (s : FSpec) : Prop := FnOKg P [] f s
def CxOK (P : Program) (cx : Cx) : Prop := (∀ p ∈ cx.fns, FnOKg P cx.gl p.1 p.2) ∧ ∀ p ∈ cx.wf, FnOKw P cx.gl p.1 p.2
theorem getS_ok {P : Program} {gl : Globs} : ∀ {l : List (Nat × FSpec)} {f : Nat} {s : FSpec}, (∀ p ∈ l, FnOKg P gl p.1 p.2) → getS l f = some s → FnOKg P gl f s
  | [], _, _, _, h => by simp [getS] at h
  | (g, s') :: r, f, s, hc, h => by
    simp only [getS] at h
    split at h
    · rename_i hg
      simp only [Option.some.injEq] at h; subst h
      have : g = f := Nat.eq_of_beq_eq_true hg
      subst this
      exact hc (g, s') (by simp)
    · exact getS_ok (fun p hp => hc p (by simp [hp])) h
theorem Cx.get_ok {P : Program} {cx : Cx} {f : Nat} {s : FSpec} (hcx : CxOK P cx) (h : cx.get f = some s) : FnOKg P cx.gl f s := getS_ok hcx.1 h
def rd1 (tm : List SV) (x : Operand) (f : SA → VR) : VR :=
  match rd tm x with
  | some (ps, y) => match f y with
    | some (qs, z) => some (ps ++ qs, z)
    | none => none
  | none => none
def rd2 (tm : List SV) (x y : Operand) (f : SA → SA → VR) : VR := rd1 tm x fun a => rd1 tm y fun b => f a b
theorem rd1_sound {tm : List SV} {x : Operand} {f : SA → VR} {ps : List Prop} {z : SA} (h : rd1 tm x f = some (ps, z)) (hp : Ok ps) :
    ∃ p1 y p2, rd tm x = some (p1, y) ∧ f y = some (p2, z) ∧ Ok p1 ∧ Ok p2 := by
  unfold rd1 at h
  split at h
  · rename_i p1 y hy
    split at h
    · rename_i p2 z' hz
      simp only [Option.some.injEq, Prod.mk.injEq] at h
      obtain ⟨rfl, rfl⟩ := h
      obtain ⟨o1, o2⟩ := Ok.append.1 hp
      exact ⟨p1, y, p2, hy, hz, o1, o2⟩
    · cases h
  · cases h
def pickRes (b bx by' : Bool) (xv yv : SA) : SA :=
  match yv, xv with
  | .sc (.bit false), _ => .sc (.val (.bool (b && bx)))
  | _, .sc (.bit true) => .sc (.val (.bool (b || by')))
  | _, _ => .sc (.val (.bool (if b then bx else by')))
theorem pickRes_sound {b bx by' : Bool} {xv yv : SA} (hx : asB xv = some bx) (hy : asB yv = some by') (ρ : Rho) (n : Env) :
    (pickRes b bx by' xv yv).conc ρ = .bool (if b then bx else by') ∧ (pickRes b bx by' xv yv).bnd n := by
  unfold pickRes
  split
  · simp only [asB, Option.some.injEq] at hy
    subst hy
    refine ⟨?_, trivial⟩
    cases b <;> rfl
  · simp only [asB, Option.some.injEq] at hx
    subst hx
    refine ⟨?_, trivial⟩
    cases b <;> rfl
  · exact ⟨rfl, trivial⟩
def isUn : SA → Bool
  | .sc (.val (.tuple _)) => true
  | _ => false
def semPick (tm : List SV) (c x y : Operand) : VR :=
  rd1 tm c fun cv =>
    match cv with
    | .sc (.bit true) => rd1 tm x fun z => some ([], z)
    | .sc (.bit false) => rd1 tm y fun z => some ([], z)
    | .sc (.val (.bool b)) =>
      match rd tm x, rd tm y with
      | some (p1, xv), some (p2, yv) =>
        match asB xv, asB yv with
        | some bx, some by' =>
          some (p1.map (fun p => b = true → p) ++ p2.map (fun p => b = false → p), pickRes b bx by' xv yv)
        | none, some _ => match isUn xv with
          | true => some ((b = false) :: p2, yv)
          | false => none
        | some _, none => match isUn yv with
          | true => some ((b = true) :: p1, xv)
          | false => none
        | none, none => none
      | _, _ => none
    | _ => none
theorem Ok_map {ps : List Prop} {q : Prop} (h : Ok (ps.map fun p => q → p)) (hq : q) : Ok ps := by
  induction ps with
  | nil => trivial
  | cons p r ih => exact ⟨h.1 hq, ih h.2⟩
def rdL (tm : List SV) : List Operand → Option (List Prop × List SA)
  | [] => some ([], [])
  | x :: r =>
    match rd tm x, rdL tm r with
    | some (ps, y), some (qs, ys) => some (ps ++ qs, y :: ys)
    | _, _ => none
def rdP (tm : List SV) : List (Nat × Operand) → Option (List Prop × List (Nat × SA))
  | [] => some ([], [])
  | (i, x) :: r =>
    match rd tm x, rdP tm r with
    | some (ps, y), some (qs, ys) => some (ps ++ qs, (i, y) :: ys)
    | _, _ => none
section
variable {W0 : Base} {ρ : Rho} {tm : List SV} {ob : List SO} {a : Act} {w : World}
theorem rdL_sound (H : Holds W0 ρ tm ob a w) : ∀ {xs : List Operand} {ps : List Prop} {ys : List SA}, rdL tm xs = some (ps, ys) → Ok ps → xs.map a.eval = ys.map (SA.conc ρ) ∧ ∀ y ∈ ys, y.bnd (lv ρ ob)
  | [], ps, ys, h, _ => by simp only [rdL, Option.some.injEq, Prod.mk.injEq] at h; obtain ⟨rfl, rfl⟩ := h; simp
  | x :: r, ps, ys, h, hp => by
    simp only [rdL] at h
    split at h
    · rename_i p1 y p2 ys' h1 h2
      simp only [Option.some.injEq, Prod.mk.injEq] at h
      obtain ⟨rfl, rfl⟩ := h
      obtain ⟨o1, o2⟩ := Ok.append.1 hp
      obtain ⟨e1, b1⟩ := rd_sound h1 o1 H
      obtain ⟨e2, b2⟩ := rdL_sound H h2 o2
      exact ⟨by simp [e1, e2], fun z hz => by rcases List.mem_cons.1 hz with rfl | hz; exact b1; exact b2 z hz⟩
    · cases h
theorem rdP_sound (H : Holds W0 ρ tm ob a w) : ∀ {xs : List (Nat × Operand)} {ps : List Prop} {ys : List (Nat × SA)}, rdP tm xs = some (ps, ys) → Ok ps →
    xs.map (fun p => (p.1, a.eval p.2)) = ys.map (fun p => (p.1, p.2.conc ρ)) ∧ ∀ y ∈ ys, y.2.bnd (lv ρ ob)
  | [], ps, ys, h, _ => by simp only [rdP, Option.some.injEq, Prod.mk.injEq] at h; obtain ⟨rfl, rfl⟩ := h; simp
  | (i, x) :: r, ps, ys, h, hp => by
    simp only [rdP] at h
    split at h
    · rename_i p1 y p2 ys' h1 h2
      simp only [Option.some.injEq, Prod.mk.injEq] at h
      obtain ⟨rfl, rfl⟩ := h
      obtain ⟨o1, o2⟩ := Ok.append.1 hp
      obtain ⟨e1, b1⟩ := rd_sound h1 o1 H
      obtain ⟨e2, b2⟩ := rdP_sound H h2 o2
      exact ⟨by simp [e1, e2], fun z hz => by rcases List.mem_cons.1 hz with rfl | hz; exact b1; exact b2 z hz⟩
    · cases h
end
def semLen (P : Program) (ts : Array TypeId) (t : TypeId) (xs : List SA) : VR :=
  match xs with
  | [.sc (.sl _ _ len _)] =>
    match ts[0]? with
    | some st => match P.underlying st with
      | some (.slice _) => some ([], .sc (.num .i64 (len : Int)))
      | _ => none
    | none => none
  | [.sc (.sls _ _ lo hi _)] =>
    match ts[0]? with
    | some st => match P.underlying st with
      | some (.slice _) => some ([], .sc (.val (.int .i64 ((hi - lo : Nat) : Int))))
      | _ => none
    | none => none
  | [.sc (.slw _ _ _ len _)] | [.sc (.xs _ len _ _ _)] =>
    match ts[0]? with
    | some st => match P.underlying st with
      | some (.slice _) => some ([], .sc (.val (.int .i64 (len : Int))))
      | _ => none
    | none => none
  | [x] =>
    match asV x with
    | some v => (evalS P (Builtin.len_ ts t #[v])).map fun r => ([], ofV (isLit x || (match v with | .slice none _ _ => true | _ => false)) r)
    | none => none
  | _ => none
theorem semLen_sound {P : Program} {ts : Array TypeId} {t : TypeId} {xs : List SA} {ps : List Prop} {z : SA} (h : semLen P ts t xs = some (ps, z)) (ρ : Rho) (n : Env) (w : World) :
    (Builtin.len_ ts t (xs.map (SA.conc ρ)).toArray).run P w = .ok (z.conc ρ) w ∧ z.bnd n := by
  unfold semLen at h
  split at h
  · rename_i o off len cap
    split at h
    · rename_i st hs
      split at h
      · rename_i e hu
        simp only [Option.some.injEq, Prod.mk.injEq] at h
        obtain ⟨rfl, rfl⟩ := h
        refine ⟨?_, trivial⟩
        simp [Builtin.len_, hs, run_underlying hu, SA.conc, SC.conc, goInt]
      · cases h
    · cases h
  · rename_i o base lo hi cap
    split at h
    · rename_i st hs
      split at h
      · rename_i e hu
        simp only [Option.some.injEq, Prod.mk.injEq] at h
        obtain ⟨rfl, rfl⟩ := h
        refine ⟨?_, trivial⟩
        simp [Builtin.len_, hs, run_underlying hu, SA.conc, SC.conc, goInt]
      · cases h
    · cases h
  · rename_i o k off len cap
    split at h
    · rename_i st hs
      split at h
      · rename_i e hu
        simp only [Option.some.injEq, Prod.mk.injEq] at h
        obtain ⟨rfl, rfl⟩ := h
        refine ⟨?_, trivial⟩
        simp [Builtin.len_, hs, run_underlying hu, SA.conc, SC.conc, goInt]
      · cases h
    · cases h
  · rename_i a len cap k g
    split at h
    · rename_i st hs
      split at h
      · rename_i e hu
        simp only [Option.some.injEq, Prod.mk.injEq] at h
        obtain ⟨rfl, rfl⟩ := h
        refine ⟨?_, trivial⟩
        simp [Builtin.len_, hs, run_underlying hu, SA.conc, SC.conc, goInt]
      · cases h
    · cases h
  · rename_i x _ _ _ _
    split at h
    case h_2 => cases h
    rename_i v hv
    simp only [Option.map_eq_some_iff, Prod.mk.injEq] at h
    obtain ⟨r, hr, rfl, rfl⟩ := h
    refine ⟨?_, ofV_bnd _ _ _⟩
    have : (List.map (SA.conc ρ) [x]).toArray = #[v] := by simp [asV_sound hv ρ]
    rw [this, evalS_sound w hr, ofV_conc]
  · cases h
def semCap (P : Program) (ts : Array TypeId) (xs : List SA) : VR :=
  match xs with
  | [.sc (.sl _ _ _ cap)] | [.sc (.slw _ _ _ _ cap)] | [.sc (.xs _ _ cap _ _)] =>
    match ts[0]? with
    | some st => match P.underlying st with
      | some (.slice _) => some ([], .sc (.val (.int .i64 (cap : Int))))
      | _ => none
    | none => none
  | [.sc (.val (.slice none 0 0))] =>
    match ts[0]? with
    | some st => match P.underlying st with
      | some (.slice _) => some ([], .sc (.num .i64 0))
      | _ => none
    | none => none
  | _ => none
theorem semCap_sound {P : Program} {ts : Array TypeId} {t : TypeId} {xs : List SA} {ps : List Prop} {z : SA} (h : semCap P ts xs = some (ps, z)) (ρ : Rho) (n : Env) (w : World) :
    (Builtin.cap_ ts t (xs.map (SA.conc ρ)).toArray).run P w = .ok (z.conc ρ) w ∧ z.bnd n := by
  unfold semCap at h
  split at h
  case h_5 => cases h
  all_goals
    split at h
    · rename_i st hs
      split at h
      · rename_i e hu
        simp only [Option.some.injEq, Prod.mk.injEq] at h
        obtain ⟨rfl, rfl⟩ := h
        refine ⟨?_, trivial⟩
        simp [Builtin.cap_, hs, run_underlying hu, SA.conc, SC.conc, goInt]
      · cases h
    · cases h
def asNat : SA → Option Nat
  | .sc (.num _ (.ofNat n)) => some n
  | _ => none
def endOf (x : Option SA) (d : Nat) : Option Nat :=
  match x with
  | none => some d
  | some a => asNat a
theorem asNat_sound {x : SA} {n : Nat} (h : asNat x = some n) (ρ : Rho) : ∃ k, x.conc ρ = .int k (n : Int) := by
  unfold asNat at h
  split at h
  · simp only [Option.some.injEq] at h; subst h; exact ⟨_, rfl⟩
  · cases h
theorem run_sliceBound {P : Program} (w : World) (k : IntKind) (i : Int) (y : Nat) (code : BoundsCode) (h : 0 ≤ i ∧ i ≤ y) : (Instr.sliceBound (.int k i) y code).run P w = .ok i.toNat w := by
  simp [Instr.sliceBound, asIntOf, h]
def moved (off l size h m : Nat) : Option Nat :=
  match l with
  | 0 => some off
  | l + 1 => if l + 1 < h then some (off + (l + 1) * size) else some (if m = l + 1 then off else off + (l + 1) * size)
theorem moved_sound {off l size h r m b : Nat} (hm : moved off l size h m = some r) (hle : h ≤ m) : (if m = l then (⟨b, off, none⟩ : Addr) else (⟨b, off, none⟩ : Addr).add (l * size)) = ⟨b, r, none⟩ := by
  unfold moved at hm
  split at hm
  · simp only [Option.some.injEq] at hm; subst hm; simp [Addr.add]
  · rename_i l
    split at hm
    · simp only [Option.some.injEq] at hm; subst hm
      rw [if_neg (by omega), add_addr]
    · simp only [Option.some.injEq] at hm; subst hm
      split
      · rfl
      · rw [add_addr]
def semSlice1 (P : Program) (t : TypeId) (x : SA) (lo hi mx : Option SA) : VR :=
  match x, P.underlying t with
  | .sc (.ptr o off), some (.array n e) =>
    match lo with
    | some (.sc (.val (.int _ l))) =>
      match hi, mx with
      | none, none => if P.cellsOf e = 1 then some ([0 ≤ l ∧ l < (n : Int)], .sc (.sls o off l.toNat n (n - l.toNat))) else none
      | _, _ => none
    | _ =>
      match endOf lo 0, endOf mx n with
      | some l, some m => match endOf hi n with
        | some h => if l ≤ h ∧ h ≤ m ∧ m ≤ n ∧ (mx.isSome = true → hi.isSome = true) ∧ (P.info? e).isSome then (moved off l (P.cellsOf e) h m).map fun r => ([], .sc (.sl o r (h - l) (m - l))) else none
        | none => none
      | _, _ => none
  | .sc (.sl o off len cap), some (.slice e) =>
    match endOf lo 0, endOf hi len, mx with
    | some l, some h, none => if l ≤ h ∧ (P.info? e).isSome then (moved off l (P.cellsOf e) h cap).map fun r => ([h ≤ cap], .sc (.sl o r (h - l) (cap - l))) else none
    | some l, some h, some mv => match asNat mv with
      | some m => if l ≤ h ∧ h ≤ m ∧ hi.isSome ∧ (P.info? e).isSome then (moved off l (P.cellsOf e) h m).map fun r => ([m ≤ cap], .sc (.sl o r (h - l) (m - l))) else none
      | none => none
    | _, _, _ => none
  | .sc (.val (.slice none 0 0)), some (.slice e) =>
    match lo, endOf hi 0, mx with
    | none, some 0, none => if (P.info? e).isSome then some ([], .sc (.val (.slice none 0 0))) else none
    | _, _, _ => none
  | .sc (.val (.string s)), some .string =>
    match (match lo with | none => some 0 | some a => (asI a).map (·.2)), (match hi with | none => some (s.size : Int) | some a => (asI a).map (·.2)), mx with
    | some l, some h, none => some ([0 ≤ l ∧ l ≤ h ∧ h ≤ (s.size : Int)], .sc (.val (.string (s.extract l.toNat h.toNat))))
    | _, _, _ => none
  | _, _ => none
theorem run_bounds {P : Program} (w : World) (b : Bool) (len cap l h m : Nat) (lo hi mx : Option SA) (ρ : Rho) (hl : endOf lo 0 = some l) (hh : endOf hi len = some h) (hm : endOf mx cap = some m)
    (h1 : l ≤ h) (h2 : h ≤ m) (h3 : m ≤ cap) (h4 : mx.isSome = true → hi.isSome = true) :
    (Instr.sliceBounds b len cap (lo.map (SA.conc ρ)) (hi.map (SA.conc ρ)) (mx.map (SA.conc ρ))).run P w = .ok (l, h, m) w := by
  have M : ∀ {x : Option SA} {d n : Nat}, endOf x d = some n → (x = none ∧ d = n) ∨ ∃ a k, x = some a ∧ a.conc ρ = .int k (n : Int) := by
    intro x d n hx
    unfold endOf at hx
    split at hx
    · simp only [Option.some.injEq] at hx; exact .inl ⟨rfl, hx⟩
    · obtain ⟨k, hk⟩ := asNat_sound hx ρ; exact .inr ⟨_, k, rfl, hk⟩
  have B : ∀ (k : IntKind) (n y : Nat) (code : BoundsCode), n ≤ y → (Instr.sliceBound (.int k (n : Int)) y code).run P w = .ok n w := fun k n y code hle => by
    rw [run_sliceBound w k n y code (by omega)]; simp
  unfold Instr.sliceBounds
  rcases M hm with ⟨rfl, rfl⟩ | ⟨ma, mk, rfl, em⟩
  · rcases M hh with ⟨rfl, rfl⟩ | ⟨ha, hk, rfl, eh⟩
    · rcases M hl with ⟨rfl, rfl⟩ | ⟨la, lk, rfl, el⟩
      · simp
      · simp [el, B, h1]
    · rcases M hl with ⟨rfl, rfl⟩ | ⟨la, lk, rfl, el⟩
      · simp [eh, B, h2]
      · simp [el, eh, B, h1, h2]
  · rcases M hh with ⟨rfl, rfl⟩ | ⟨ha, hk, rfl, eh⟩
    · simp at h4
    · rcases M hl with ⟨rfl, rfl⟩ | ⟨la, lk, rfl, el⟩
      · simp [eh, em, B, h2, h3]
      · simp [el, eh, em, B, h1, h2, h3]
theorem semSlice1_sound {P : Program} {t : TypeId} {x : SA} {lo hi mx : Option SA} {ps : List Prop} {z : SA} (h : semSlice1 P t x lo hi mx = some (ps, z)) (hp : Ok ps) (ρ : Rho) (n : Env) (hb : x.bnd n) (w : World) :
    (Instr.sliceAt t (x.conc ρ) (lo.map (SA.conc ρ)) (hi.map (SA.conc ρ)) (mx.map (SA.conc ρ))).run P w = .ok (z.conc ρ) w ∧ z.bnd n := by
  unfold semSlice1 at h
  split at h
  · rename_i o off m e hu
    split at h
    · rename_i k l
      split at h
      · split at h
        · rename_i he
          simp only [Option.some.injEq, Prod.mk.injEq] at h
          obtain ⟨rfl, rfl⟩ := h
          obtain ⟨⟨h0, h1⟩, _⟩ := hp
          obtain ⟨i, hi⟩ := info_of_cells he
          refine ⟨?_, hb⟩
          have hB := run_sliceBound (P := P) w k l m .sliceB ⟨h0, by omega⟩
          simp only [Instr.sliceAt, Sem.run_bind, run_underlying hu, Result.andThen_ok, SA.conc, SC.conc, Instr.sureAddr, Sem.run_pure, Instr.sliceBounds, Option.map_some, Option.map_none, Option.isSome_none, Bool.false_eq_true, if_false, hB, run_sizeOf w hi, he, Nat.mul_one]
          rw [if_neg (by omega), add_addr]
        · cases h
      · cases h
    · split at h
      · rename_i l mm hl hm
        split at h
        · rename_i hh' hh
          split at h
          · rename_i hc
            obtain ⟨c1, c2, c3, c4, c5⟩ := hc
            obtain ⟨r, hr, he⟩ := Option.map_eq_some_iff.1 h
            simp only [Prod.mk.injEq] at he
            obtain ⟨rfl, rfl⟩ := he
            obtain ⟨i, hi⟩ := Option.isSome_iff_exists.1 c5
            refine ⟨?_, hb⟩
            simp only [Instr.sliceAt, Sem.run_bind, run_underlying hu, Result.andThen_ok, SA.conc, SC.conc, Instr.sureAddr, Sem.run_pure, run_bounds w false m m _ _ _ lo _ mx ρ hl hh hm c1 c2 c3 c4, run_sizeOf w hi, moved_sound hr c2]
          · cases h
        · cases h
      · cases h
  · rename_i o off len cap e hu
    have hslice : (Instr.sliceAt t (SA.conc ρ (.sc (.sl o off len cap))) (lo.map (SA.conc ρ)) (hi.map (SA.conc ρ)) (mx.map (SA.conc ρ))).run P w =
        (Instr.slice t (.slice (some ⟨ρ o, off, none⟩) len cap) (lo.map (SA.conc ρ)) (hi.map (SA.conc ρ)) (mx.map (SA.conc ρ))).run P w := by
      simp only [Instr.sliceAt, Sem.run_bind, run_underlying hu, Result.andThen_ok]; rfl
    rw [hslice]
    split at h
    · rename_i l hh hl hhh
      split at h
      · rename_i hc
        obtain ⟨c1, c5⟩ := hc
        obtain ⟨r, hr, he⟩ := Option.map_eq_some_iff.1 h
        simp only [Prod.mk.injEq] at he
        obtain ⟨rfl, rfl⟩ := he
        obtain ⟨i, hi⟩ := Option.isSome_iff_exists.1 c5
        obtain ⟨hcap, _⟩ := hp
        refine ⟨?_, hb⟩
        have hmv := moved_sound (b := ρ o) hr hcap
        have hB := run_bounds (P := P) w true len cap _ _ cap lo _ none ρ hl hhh rfl c1 hcap (Nat.le_refl _) (by simp)
        simp only [Option.map_none] at hB
        simp only [Instr.slice, Sem.run_bind, run_underlying hu, Result.andThen_ok, Sem.run_pure, Option.map_none, hB, run_sizeOf w hi, SA.conc, SC.conc, Option.map_some]
        rw [← hmv]
        split <;> rfl
      · cases h
    · rename_i l hh mv hl hhh
      split at h
      · rename_i mm hm
        split at h
        · rename_i hc
          obtain ⟨c1, c2, c3, c5⟩ := hc
          obtain ⟨r, hr, he⟩ := Option.map_eq_some_iff.1 h
          simp only [Prod.mk.injEq] at he
          obtain ⟨rfl, rfl⟩ := he
          obtain ⟨i, hi⟩ := Option.isSome_iff_exists.1 c5
          obtain ⟨hcap, _⟩ := hp
          refine ⟨?_, hb⟩
          have hmv := moved_sound (b := ρ o) hr c2
          have hB := run_bounds (P := P) w true len cap _ _ mm lo _ (some mv) ρ hl hhh hm c1 c2 hcap (fun _ => c3)
          simp only [Option.map_some] at hB
          simp only [Option.map_some]
          generalize SA.conc ρ mv = mvv at hB ⊢
          simp only [Instr.slice, Sem.run_bind, run_underlying hu, Result.andThen_ok, Sem.run_pure, hB, run_sizeOf w hi, Option.map_some]
          rw [show SA.conc ρ (.sc (.sl o r (hh - l) (mm - l))) = .slice (some ⟨ρ o, r, none⟩) (hh - l) (mm - l) from rfl, ← hmv]
          split <;> rfl
        · cases h
      · cases h
    · cases h
  · rename_i e hu
    split at h
    case h_2 => cases h
    rename_i hhh
    split at h
    case isFalse => cases h
    rename_i hie
    simp only [Option.some.injEq, Prod.mk.injEq] at h
    obtain ⟨rfl, rfl⟩ := h
    obtain ⟨i, hi'⟩ := Option.isSome_iff_exists.1 hie
    refine ⟨?_, trivial⟩
    have hB := run_bounds (P := P) w true 0 0 0 0 0 none _ none ρ rfl hhh rfl (Nat.le_refl _) (Nat.le_refl _) (Nat.le_refl _) (by simp)
    simp only [Option.map_none] at hB
    have hslice : (Instr.sliceAt t (.slice none 0 0) none (hi.map (SA.conc ρ)) none).run P w = (Instr.slice t (.slice none 0 0) none (hi.map (SA.conc ρ)) none).run P w := by
      simp only [Instr.sliceAt, Sem.run_bind, run_underlying hu, Result.andThen_ok]
    show (Instr.sliceAt t (.slice none 0 0) none (hi.map (SA.conc ρ)) none).run P w = .ok (.slice none 0 0) w
    rw [hslice]
    simp only [Instr.slice, Sem.run_bind, run_underlying hu, Result.andThen_ok, Sem.run_pure, hB, run_sizeOf w hi', Option.map_none]
    simp
  · rename_i s hu
    split at h
    · rename_i l hh hl hhh
      simp only [Option.some.injEq, Prod.mk.injEq] at h
      obtain ⟨rfl, rfl⟩ := h
      obtain ⟨⟨h0, h1, h2⟩, _⟩ := hp
      refine ⟨?_, trivial⟩
      have L : (lo = none ∧ l = 0) ∨ ∃ a k, lo = some a ∧ a.conc ρ = .int k l := by
        cases lo with
        | none => simp only [Option.some.injEq] at hl; exact .inl ⟨rfl, hl.symm⟩
        | some a =>
          simp only [Option.map_eq_some_iff] at hl
          obtain ⟨⟨k, l'⟩, ha, rfl⟩ := hl
          exact .inr ⟨a, k, rfl, asI_sound ha ρ⟩
      have R : (hi = none ∧ hh = (s.size : Int)) ∨ ∃ a k, hi = some a ∧ a.conc ρ = .int k hh := by
        cases hi with
        | none => simp only [Option.some.injEq] at hhh; exact .inl ⟨rfl, hhh.symm⟩
        | some a =>
          simp only [Option.map_eq_some_iff] at hhh
          obtain ⟨⟨k, l'⟩, ha, rfl⟩ := hhh
          exact .inr ⟨a, k, rfl, asI_sound ha ρ⟩
      have B : ∀ (k : IntKind) (n : Int) (y : Nat) (code : BoundsCode), 0 ≤ n → n ≤ y → (Instr.sliceBound (.int k n) y code).run P w = .ok n.toNat w := fun k n y code ha hle => run_sliceBound w k n y code ⟨ha, hle⟩
      have ht : ((hh.toNat : Nat) : Int) = hh := Int.toNat_of_nonneg (by omega)
      have E : ∀ s : ByteArray, SA.conc ρ (.sc (.val (.string s))) = .string s := fun _ => rfl
      rw [E, E]
      rcases L with ⟨rfl, rfl⟩ | ⟨la, lk, rfl, el⟩ <;> rcases R with ⟨rfl, rfl⟩ | ⟨ha, hk, rfl, eh⟩
      · simp [Instr.sliceAt, Instr.slice, run_underlying hu, Instr.sliceBounds]
      · simp [Instr.sliceAt, Instr.slice, run_underlying hu, Instr.sliceBounds, eh, B, h1, h2]
      · simp [Instr.sliceAt, Instr.slice, run_underlying hu, Instr.sliceBounds, el, B, h0, h1]
      · simp [Instr.sliceAt, Instr.slice, run_underlying hu, Instr.sliceBounds, el, eh, B, h0, h1, h2, ht, show (0 : Int) ≤ hh by omega]
    · cases h
  · cases h
def endN (x : Option SA) (d : Nat) : Option (Int × Nat) :=
  match x with
  | none => some ((d : Int), d)
  | some a => match asI a with
    | some (_, n) => some (n, n.toNat)
    | none => none
theorem endN_spec {x : Option SA} {d : Nat} {l : Int} {n : Nat} (h : endN x d = some (l, n)) (ρ : Rho) : n = l.toNat ∧ ((x = none ∧ l = d) ∨ ∃ a k, x = some a ∧ a.conc ρ = .int k l) := by
  unfold endN at h
  split at h
  · simp only [Option.some.injEq, Prod.mk.injEq] at h
    obtain ⟨rfl, rfl⟩ := h
    exact ⟨by simp, .inl ⟨rfl, rfl⟩⟩
  · rename_i a
    split at h
    · rename_i k m h1
      simp only [Option.some.injEq, Prod.mk.injEq] at h
      obtain ⟨rfl, rfl⟩ := h
      exact ⟨rfl, .inr ⟨a, k, rfl, asI_sound h1 ρ⟩⟩
    · cases h
theorem run_boundsN {P : Program} (w : World) (b : Bool) (len cap : Nat) (l h : Int) (ln hn : Nat) (lo hi : Option SA) (ρ : Rho) (hl : endN lo 0 = some (l, ln)) (hh : endN hi len = some (h, hn)) (hc : 0 ≤ l ∧ l ≤ h ∧ h ≤ (cap : Int)) :
    (Instr.sliceBounds b len cap (lo.map (SA.conc ρ)) (hi.map (SA.conc ρ)) none).run P w = .ok (ln, hn, cap) w := by
  obtain ⟨h0, h1, h2⟩ := hc
  obtain ⟨rfl, L⟩ := endN_spec hl ρ
  obtain ⟨rfl, R⟩ := endN_spec hh ρ
  have hB := fun k code => run_sliceBound (P := P) w k h cap code ⟨by omega, h2⟩
  have hA := fun k code => run_sliceBound (P := P) w k l h.toNat code ⟨h0, by omega⟩
  rcases L with ⟨rfl, rfl⟩ | ⟨a, k, rfl, ea⟩ <;> rcases R with ⟨rfl, rfl⟩ | ⟨c, k', rfl, ec⟩
  · simp [Instr.sliceBounds]
  · simp only [Instr.sliceBounds, Option.map_some, Option.map_none, ec, hB, Sem.run_bind, Sem.run_pure, Result.andThen_ok]; rfl
  · simp only [Instr.sliceBounds, Option.map_some, Option.map_none, ea, Sem.run_bind, Sem.run_pure, Result.andThen_ok, Option.isSome_none, Bool.false_eq_true, if_false]
    have := hA k .sliceB
    simp only [Int.toNat_natCast] at this ⊢
    rw [this]; rfl
  · simp only [Instr.sliceBounds, Option.map_some, ea, ec, hB, hA, Sem.run_bind, Sem.run_pure, Result.andThen_ok, Option.isSome_none, Bool.false_eq_true, if_false]
def offS (cap l off : Nat) : Nat := if cap = l then off else off + l
def adS (cap l w : Nat) (a : Option Addr) : Option Addr := if cap = l then a else a.map (·.add (l * w))
def semSlice2 (P : Program) (t : TypeId) (x : SA) (lo hi mx : Option SA) : VR :=
  match mx with
  | some _ => none
  | none =>
    match x, P.underlying t with
    | .sc (.ptr o off), some (.array n e) =>
      match endN lo 0, endN hi n with
      | some (l, ln), some (h, hn) => if P.cellsOf e = 1 then some ([0 ≤ l ∧ l ≤ h ∧ h ≤ (n : Int), lo.isSome = true → l < (n : Int)], .sc (.sls o off ln hn (n - ln))) else none
      | _, _ => none
    | .sc (.sl o off len cap), some (.slice e) =>
      match endN lo 0, endN hi len with
      | some (l, ln), some (h, hn) => if P.cellsOf e = 1 then some ([0 ≤ l ∧ l ≤ h ∧ h ≤ (cap : Int), lo.isSome = true → l < (cap : Int)], .sc (.sls o off ln hn (cap - ln))) else none
      | _, _ => none
    | .sc (.sls o base lo0 hi0 cap), some (.slice e) =>
      match endN lo 0, endN hi (hi0 - lo0) with
      | some (l, ln), some (h, hn) => if P.cellsOf e = 1 then some ([0 ≤ l ∧ l ≤ h ∧ h ≤ (cap : Int), lo.isSome = true → l < (cap : Int)], .sc (.sls o base (lo0 + ln) (lo0 + hn) (cap - ln))) else none
      | _, _ => none
    | .sc (.slw o w off len cap), some (.slice e) =>
      match endN lo 0, endN hi len with
      | some (l, ln), some (h, hn) => if P.cellsOf e = w ∧ (P.info? e).isSome then (match lo with
        | none => some ([0 ≤ h ∧ h ≤ (cap : Int)], .sc (.slw o w off hn cap))
        | some _ => some ([0 ≤ l ∧ l ≤ h ∧ h ≤ (cap : Int)], .sc (.slw o w (offS cap ln off) (hn - ln) (cap - ln)))) else none
      | _, _ => none
    | .sc (.xs a len cap w g), some (.slice e) =>
      match endN lo 0, endN hi len with
      | some (l, ln), some (h, hn) => if P.cellsOf e = w ∧ (P.info? e).isSome then (match lo with
        | none => some ([0 ≤ h ∧ h ≤ (len : Int)], .sc (.xs a hn cap w g))
        | some _ => some ([0 ≤ l ∧ l ≤ h ∧ h ≤ (len : Int)], .sc (.xs (adS cap ln w a) (hn - ln) (cap - ln) w (fun i c => g (ln + i) c)))) else none
      | _, _ => none
    | _, _ => none
theorem slice_sls {b base ln cap : Nat} {l : Int} {lo : Option SA} (hln : ln = l.toNat) (h0 : 0 ≤ l) (hl : (lo = none ∧ l = 0) ∨ ∃ a, lo = some a) (hs : lo.isSome = true → l < (cap : Int)) :
    (if cap = ln then (⟨b, base, none⟩ : Addr) else (⟨b, base, none⟩ : Addr).add (ln * 1)) = ⟨b, base + ln, none⟩ := by
  rw [Nat.mul_one]
  rcases hl with ⟨rfl, rfl⟩ | ⟨a, rfl⟩
  · subst hln
    split
    · rfl
    · rw [add_addr]
  · have := hs rfl
    rw [if_neg (by omega), add_addr]
theorem xs_slice {n : Env} {a : Option Addr} {len cap w : Nat} {g : Nat → Nat → SC} (hb : (SC.xs a len cap w g).bnd n) {l h : Nat} (h1 : l ≤ h) (h2 : h ≤ len) : (SC.xs (adS cap l w a) (h - l) (cap - l) w (fun i c => g (l + i) c)).bnd n := by
  obtain ⟨k1, k2, k3⟩ := hb
  refine ⟨fun e => ?_, by omega, fun b hb => ?_⟩
  · have ha : a = none := by
      unfold adS at e
      split at e
      · exact e
      · simpa using e
    obtain ⟨rfl, rfl⟩ := k1 ha
    omega
  · unfold adS at hb
    split at hb
    · rename_i hc
      obtain ⟨q1, q2⟩ := k3 b hb
      exact ⟨fun _ => q1 (by omega), fun i hi => by omega⟩
    · obtain ⟨c, rfl, rfl⟩ := Option.map_eq_some_iff.1 hb
      obtain ⟨q1, q2⟩ := k3 c rfl
      refine ⟨fun _ => add_spot (q1 (by omega)) _, fun i hi d hd => ?_⟩
      obtain ⟨r1, r2, r3⟩ := q2 (l + i) (by omega) d hd
      refine ⟨r1, r2, ?_⟩
      rw [add_block, add_off]
      rw [show c.off + l * w + (i * w + d) = c.off + ((l + i) * w + d) by rw [Nat.add_mul]; omega]
      exact r3
theorem semSlice2_sound {P : Program} {t : TypeId} {x : SA} {lo hi mx : Option SA} {ps : List Prop} {z : SA} (h : semSlice2 P t x lo hi mx = some (ps, z)) (hp : Ok ps) (ρ : Rho) (n : Env) (hb : x.bnd n) (w : World) :
    (Instr.sliceAt t (x.conc ρ) (lo.map (SA.conc ρ)) (hi.map (SA.conc ρ)) (mx.map (SA.conc ρ))).run P w = .ok (z.conc ρ) w ∧ z.bnd n := by
  have los : ∀ {l : Int} {ln : Nat}, endN lo 0 = some (l, ln) → ln = l.toNat ∧ ((lo = none ∧ l = 0) ∨ ∃ a, lo = some a) := by
    intro l ln h
    obtain ⟨h1, h2⟩ := endN_spec h ρ
    refine ⟨h1, ?_⟩
    rcases h2 with ⟨a, b⟩ | ⟨a, _, b, _⟩
    · exact .inl ⟨a, b⟩
    · exact .inr ⟨a, b⟩
  unfold semSlice2 at h
  split at h
  case h_1 => cases h
  split at h
  · rename_i o off m e hu
    split at h
    case h_2 => cases h
    rename_i l ln hh hn hl hhi
    split at h
    case isFalse => cases h
    rename_i he
    simp only [Option.some.injEq, Prod.mk.injEq] at h
    obtain ⟨rfl, rfl⟩ := h
    obtain ⟨hc, hs, _⟩ := hp
    obtain ⟨i, hi'⟩ := info_of_cells he
    refine ⟨?_, hb⟩
    have hB := run_boundsN (P := P) w false m m l hh ln hn lo hi ρ hl hhi hc
    obtain ⟨e1, e2⟩ := los hl
    have := slice_sls (b := ρ o) (base := off) (cap := m) e1 hc.1 e2 hs
    simp only [Option.map_none, Instr.sliceAt, Sem.run_bind, run_underlying hu, Result.andThen_ok, SA.conc, SC.conc, Instr.sureAddr, Sem.run_pure, hB, run_sizeOf w hi', he]
    rw [this]
  · rename_i o off len cap e hu
    split at h
    case h_2 => cases h
    rename_i l ln hh hn hl hhi
    split at h
    case isFalse => cases h
    rename_i he
    simp only [Option.some.injEq, Prod.mk.injEq] at h
    obtain ⟨rfl, rfl⟩ := h
    obtain ⟨hc, hs, _⟩ := hp
    obtain ⟨i, hi'⟩ := info_of_cells he
    refine ⟨?_, hb⟩
    have hB := run_boundsN (P := P) w true len cap l hh ln hn lo hi ρ hl hhi hc
    obtain ⟨e1, e2⟩ := los hl
    have := slice_sls (b := ρ o) (base := off) (cap := cap) e1 hc.1 e2 hs
    simp only [Option.map_none, Instr.sliceAt, Sem.run_bind, run_underlying hu, Result.andThen_ok, SA.conc, SC.conc, Instr.slice, Sem.run_pure, hB, run_sizeOf w hi', he]
    rw [← this]
    split <;> rfl
  · rename_i o base lo0 hi0 cap e hu
    split at h
    case h_2 => cases h
    rename_i l ln hh hn hl hhi
    split at h
    case isFalse => cases h
    rename_i he
    simp only [Option.some.injEq, Prod.mk.injEq] at h
    obtain ⟨rfl, rfl⟩ := h
    obtain ⟨hc, hs, _⟩ := hp
    obtain ⟨i, hi'⟩ := info_of_cells he
    refine ⟨?_, hb⟩
    have hB := run_boundsN (P := P) w true (hi0 - lo0) cap l hh ln hn lo hi ρ hl hhi hc
    obtain ⟨e1, e2⟩ := los hl
    have := slice_sls (b := ρ o) (base := base + lo0) (cap := cap) e1 hc.1 e2 hs
    simp only [Option.map_none, Instr.sliceAt, Sem.run_bind, run_underlying hu, Result.andThen_ok, SA.conc, SC.conc, Instr.slice, Sem.run_pure, hB, run_sizeOf w hi', he]
    rw [← Nat.add_assoc, ← this, Nat.add_sub_add_left]
    split <;> rfl
  · rename_i o k off len cap e hu
    split at h
    case h_2 => cases h
    rename_i l ln hh hn hl hhi
    split at h
    case isFalse => cases h
    rename_i he
    obtain ⟨he, hi'⟩ := he
    obtain ⟨i, hi'⟩ := Option.isSome_iff_exists.1 hi'
    split at h
    · simp only [Option.some.injEq, Prod.mk.injEq] at h
      obtain ⟨rfl, rfl⟩ := h
      obtain ⟨hc, _⟩ := hp
      refine ⟨?_, hb⟩
      have hl' := hl
      simp only [endN, Option.some.injEq, Prod.mk.injEq] at hl'
      obtain ⟨rfl, rfl⟩ := hl'
      have hB := run_boundsN (P := P) w true len cap _ hh _ hn none hi ρ hl hhi ⟨by omega, hc.1, hc.2⟩
      simp only [Option.map_none] at hB
      simp only [Option.map_none, Instr.sliceAt, Sem.run_bind, run_underlying hu, Result.andThen_ok, SA.conc, SC.conc, Instr.slice, Sem.run_pure, hB, run_sizeOf w hi', Nat.sub_zero, Nat.zero_mul, Option.map_some]
      split <;> rfl
    · simp only [Option.some.injEq, Prod.mk.injEq] at h
      obtain ⟨rfl, rfl⟩ := h
      obtain ⟨hc, _⟩ := hp
      refine ⟨?_, hb⟩
      have hB := run_boundsN (P := P) w true len cap l hh ln hn _ hi ρ hl hhi hc
      simp only [Option.map_none, Instr.sliceAt, Sem.run_bind, run_underlying hu, Result.andThen_ok, SA.conc, SC.conc, Instr.slice, Sem.run_pure, hB, run_sizeOf w hi', he, offS]
      split
      · rfl
      · simp only [Option.map_some, add_addr, Nat.add_mul]
  · rename_i a len cap k g e hu
    split at h
    case h_2 => cases h
    rename_i l ln hh hn hl hhi
    split at h
    case isFalse => cases h
    rename_i he
    obtain ⟨he, hi'⟩ := he
    obtain ⟨i, hi'⟩ := Option.isSome_iff_exists.1 hi'
    have hmn : len ≤ cap := hb.2.1
    split at h
    · simp only [Option.some.injEq, Prod.mk.injEq] at h
      obtain ⟨rfl, rfl⟩ := h
      obtain ⟨hc, _⟩ := hp
      have hl' := hl
      simp only [endN, Option.some.injEq, Prod.mk.injEq] at hl'
      obtain ⟨rfl, rfl⟩ := hl'
      obtain ⟨e3, _⟩ := endN_spec hhi ρ
      have hB := run_boundsN (P := P) w true len cap _ hh _ hn none hi ρ hl hhi ⟨by omega, hc.1, by omega⟩
      simp only [Option.map_none] at hB
      refine ⟨?_, ?_⟩
      · simp only [Option.map_none, Instr.sliceAt, Sem.run_bind, run_underlying hu, Result.andThen_ok, SA.conc, SC.conc, Instr.slice, Sem.run_pure, hB, run_sizeOf w hi', Nat.sub_zero, Nat.zero_mul]
        split
        · rfl
        · cases a <;> rfl
      · obtain ⟨k1, k2, k3⟩ := hb
        refine ⟨fun ha => ?_, by omega, fun b hb => ⟨fun _ => (k3 b hb).1 (by omega), fun i hi => (k3 b hb).2 i (by omega)⟩⟩
        obtain ⟨rfl, rfl⟩ := k1 ha
        omega
    · simp only [Option.some.injEq, Prod.mk.injEq] at h
      obtain ⟨rfl, rfl⟩ := h
      obtain ⟨hc, _⟩ := hp
      obtain ⟨e1, _⟩ := endN_spec hl ρ
      obtain ⟨e3, _⟩ := endN_spec hhi ρ
      have hB := run_boundsN (P := P) w true len cap l hh ln hn _ hi ρ hl hhi ⟨hc.1, hc.2.1, by omega⟩
      refine ⟨?_, xs_slice hb (by omega) (by omega)⟩
      simp only [Option.map_none, Instr.sliceAt, Sem.run_bind, run_underlying hu, Result.andThen_ok, SA.conc, SC.conc, Instr.slice, Sem.run_pure, hB, run_sizeOf w hi', he, adS]
  · cases h
def semSlice3 (P : Program) (t : TypeId) (x : SA) (hi mx : SA) : VR :=
  match x, P.underlying t with
  | .sc (.slw o w off len cap), some (.slice e) =>
    match endN (some hi) len, endN (some mx) cap with
    | some (h, hn), some (m, mn) => if (P.info? e).isSome then some ([0 ≤ h ∧ h ≤ m ∧ m ≤ (cap : Int)], .sc (.slw o w off hn mn)) else none
    | _, _ => none
  | .sc (.xs a len cap w g), some (.slice e) =>
    match endN (some hi) len, endN (some mx) cap with
    | some (h, hn), some (m, mn) => if (P.info? e).isSome then some ([0 ≤ h ∧ h ≤ m ∧ m ≤ (cap : Int) ∧ h ≤ (len : Int)], .sc (.xs a hn mn w g)) else none
    | _, _ => none
  | _, _ => none
theorem run_bounds3 {P : Program} (w : World) (b : Bool) (len cap : Nat) (h m : Int) (hn mn : Nat) (hi mx : SA) (ρ : Rho) (hh : endN (some hi) len = some (h, hn)) (hm : endN (some mx) cap = some (m, mn)) (hc : 0 ≤ h ∧ h ≤ m ∧ m ≤ (cap : Int)) :
    (Instr.sliceBounds b len cap none (some (hi.conc ρ)) (some (mx.conc ρ))).run P w = .ok (0, hn, mn) w := by
  obtain ⟨h0, h1, h2⟩ := hc
  obtain ⟨rfl, L⟩ := endN_spec hh ρ
  obtain ⟨rfl, R⟩ := endN_spec hm ρ
  have hB := fun k code => run_sliceBound (P := P) w k m cap code ⟨by omega, h2⟩
  have hA := fun k code => run_sliceBound (P := P) w k h m.toNat code ⟨h0, by omega⟩
  rcases L with ⟨c, _⟩ | ⟨a, k, ea, ea'⟩
  · cases c
  rcases R with ⟨c, _⟩ | ⟨c, k', ec, ec'⟩
  · cases c
  cases ea
  cases ec
  simp only [Instr.sliceBounds, ea', ec', hB, hA, Sem.run_bind, Sem.run_pure, Result.andThen_ok]
theorem semSlice3_sound {P : Program} {t : TypeId} {x : SA} {hi mx : SA} {ps : List Prop} {z : SA} (h : semSlice3 P t x hi mx = some (ps, z)) (hp : Ok ps) (ρ : Rho) (n : Env) (hb : x.bnd n) (w : World) :
    (Instr.sliceAt t (x.conc ρ) none (some (hi.conc ρ)) (some (mx.conc ρ))).run P w = .ok (z.conc ρ) w ∧ z.bnd n := by
  unfold semSlice3 at h
  split at h
  · rename_i o k off len cap e hu
    split at h
    case h_2 => cases h
    rename_i hh hn m mn h1 h2
    split at h
    case isFalse => cases h
    rename_i he
    obtain ⟨i, hi'⟩ := Option.isSome_iff_exists.1 he
    simp only [Option.some.injEq, Prod.mk.injEq] at h
    obtain ⟨rfl, rfl⟩ := h
    obtain ⟨hc, _⟩ := hp
    refine ⟨?_, hb⟩
    have hB := run_bounds3 (P := P) w true len cap hh m hn mn hi mx ρ h1 h2 hc
    generalize hi.conc ρ = vh at hB ⊢
    generalize mx.conc ρ = vm at hB ⊢
    simp only [Instr.sliceAt, Sem.run_bind, run_underlying hu, Result.andThen_ok, SA.conc, SC.conc, Instr.slice, Sem.run_pure, hB, run_sizeOf w hi', Nat.sub_zero, Nat.zero_mul, Option.map_some]
    split <;> rfl
  · rename_i a len cap k g e hu
    split at h
    case h_2 => cases h
    rename_i hh hn m mn h1 h2
    split at h
    case isFalse => cases h
    rename_i he
    obtain ⟨i, hi'⟩ := Option.isSome_iff_exists.1 he
    simp only [Option.some.injEq, Prod.mk.injEq] at h
    obtain ⟨rfl, rfl⟩ := h
    obtain ⟨hc, _⟩ := hp
    obtain ⟨e1, _⟩ := endN_spec h1 ρ
    obtain ⟨e2, _⟩ := endN_spec h2 ρ
    have hB := run_bounds3 (P := P) w true len cap hh m hn mn hi mx ρ h1 h2 ⟨hc.1, hc.2.1, hc.2.2.1⟩
    generalize hi.conc ρ = vh at hB ⊢
    generalize mx.conc ρ = vm at hB ⊢
    refine ⟨?_, ?_⟩
    · simp only [Instr.sliceAt, Sem.run_bind, run_underlying hu, Result.andThen_ok, SA.conc, SC.conc, Instr.slice, Sem.run_pure, hB, run_sizeOf w hi', Nat.sub_zero, Nat.zero_mul]
      split
      · rfl
      · cases a <;> rfl
    · obtain ⟨k1, k2, k3⟩ := hb
      refine ⟨fun ha => ?_, by omega, fun b hb => ⟨fun _ => (k3 b hb).1 (by omega), fun i hi => (k3 b hb).2 i (by omega)⟩⟩
      obtain ⟨rfl, rfl⟩ := k1 ha
      omega
  · cases h
def semSlice4 (P : Program) (t : TypeId) (x : SA) (lo hi mx : SA) : VR :=
  match x, P.underlying t with
  | .sc (.xs a len cap w g), some (.slice e) =>
    match endN (some lo) 0, endN (some hi) len, endN (some mx) cap with
    | some (l, ln), some (h, hn), some (m, mn) => if P.cellsOf e = w ∧ (P.info? e).isSome then some ([0 ≤ l ∧ l ≤ h ∧ h ≤ m ∧ m ≤ (cap : Int) ∧ h ≤ (len : Int)], .sc (.xs (adS mn ln w a) (hn - ln) (mn - ln) w (fun i c => g (ln + i) c))) else none
    | _, _, _ => none
  | _, _ => none
theorem run_bounds4 {P : Program} (w : World) (b : Bool) (len cap : Nat) (l h m : Int) (ln hn mn : Nat) (lo hi mx : SA) (ρ : Rho) (hl : endN (some lo) 0 = some (l, ln)) (hh : endN (some hi) len = some (h, hn)) (hm : endN (some mx) cap = some (m, mn)) (hc : 0 ≤ l ∧ l ≤ h ∧ h ≤ m ∧ m ≤ (cap : Int)) :
    (Instr.sliceBounds b len cap (some (lo.conc ρ)) (some (hi.conc ρ)) (some (mx.conc ρ))).run P w = .ok (ln, hn, mn) w := by
  obtain ⟨h0, h1, h2, h3⟩ := hc
  obtain ⟨rfl, K⟩ := endN_spec hl ρ
  obtain ⟨rfl, L⟩ := endN_spec hh ρ
  obtain ⟨rfl, R⟩ := endN_spec hm ρ
  have hB := fun k code => run_sliceBound (P := P) w k m cap code ⟨by omega, h3⟩
  have hA := fun k code => run_sliceBound (P := P) w k h m.toNat code ⟨by omega, by omega⟩
  have hZ := fun k code => run_sliceBound (P := P) w k l h.toNat code ⟨h0, by omega⟩
  rcases K with ⟨c, _⟩ | ⟨a1, k1, ea, ea'⟩
  · cases c
  rcases L with ⟨c, _⟩ | ⟨a2, k2, eb, eb'⟩
  · cases c
  rcases R with ⟨c, _⟩ | ⟨a3, k3, ec, ec'⟩
  · cases c
  cases ea
  cases eb
  cases ec
  simp only [Instr.sliceBounds, ea', eb', ec', hB, hA, hZ, Sem.run_bind, Sem.run_pure, Result.andThen_ok, Option.isSome_some, if_true]
theorem semSlice4_sound {P : Program} {t : TypeId} {x : SA} {lo hi mx : SA} {ps : List Prop} {z : SA} (h : semSlice4 P t x lo hi mx = some (ps, z)) (hp : Ok ps) (ρ : Rho) (n : Env) (hb : x.bnd n) (w : World) :
    (Instr.sliceAt t (x.conc ρ) (some (lo.conc ρ)) (some (hi.conc ρ)) (some (mx.conc ρ))).run P w = .ok (z.conc ρ) w ∧ z.bnd n := by
  unfold semSlice4 at h
  split at h
  · rename_i a len cap k g e hu
    split at h
    case h_2 => cases h
    rename_i l ln hh hn m mn h0 h1 h2
    split at h
    case isFalse => cases h
    rename_i he
    obtain ⟨he, hi'⟩ := he
    obtain ⟨i, hi'⟩ := Option.isSome_iff_exists.1 hi'
    simp only [Option.some.injEq, Prod.mk.injEq] at h
    obtain ⟨rfl, rfl⟩ := h
    obtain ⟨hc, _⟩ := hp
    obtain ⟨e0, _⟩ := endN_spec h0 ρ
    obtain ⟨e1, _⟩ := endN_spec h1 ρ
    obtain ⟨e2, _⟩ := endN_spec h2 ρ
    have hB := run_bounds4 (P := P) w true len cap l hh m ln hn mn lo hi mx ρ h0 h1 h2 ⟨hc.1, hc.2.1, hc.2.2.1, hc.2.2.2.1⟩
    generalize lo.conc ρ = vl at hB ⊢
    generalize hi.conc ρ = vh at hB ⊢
    generalize mx.conc ρ = vm at hB ⊢
    have hb1 : (SC.xs a hn mn k g).bnd n := by
      obtain ⟨k1, k2, k3⟩ := hb
      refine ⟨fun ha => ?_, by omega, fun b hb => ⟨fun _ => (k3 b hb).1 (by omega), fun i hi => (k3 b hb).2 i (by omega)⟩⟩
      obtain ⟨rfl, rfl⟩ := k1 ha
      omega
    refine ⟨?_, xs_slice hb1 (by omega) (Nat.le_refl _)⟩
    simp only [Instr.sliceAt, Sem.run_bind, run_underlying hu, Result.andThen_ok, SA.conc, SC.conc, Instr.slice, Sem.run_pure, hB, run_sizeOf w hi', he, adS]
  · cases h
def semSlice (P : Program) (t : TypeId) (x : SA) (lo hi mx : Option SA) : VR :=
  match semSlice1 P t x lo hi mx with
  | some r => some r
  | none => match lo, hi, mx with
    | none, some h, some m => semSlice3 P t x h m
    | some l, some h, some m => semSlice4 P t x l h m
    | _, _, _ => semSlice2 P t x lo hi mx
theorem semSlice_sound {P : Program} {t : TypeId} {x : SA} {lo hi mx : Option SA} {ps : List Prop} {z : SA} (h : semSlice P t x lo hi mx = some (ps, z)) (hp : Ok ps) (ρ : Rho) (n : Env) (hb : x.bnd n) (w : World) :
    (Instr.sliceAt t (x.conc ρ) (lo.map (SA.conc ρ)) (hi.map (SA.conc ρ)) (mx.map (SA.conc ρ))).run P w = .ok (z.conc ρ) w ∧ z.bnd n := by
  unfold semSlice at h
  split at h
  · rename_i r hr
    simp only [Option.some.injEq] at h
    subst h
    exact semSlice1_sound hr hp ρ n hb w
  · split at h
    · exact semSlice3_sound h hp ρ n hb w
    · exact semSlice4_sound h hp ρ n hb w
    · exact semSlice2_sound h hp ρ n hb w
def semArr (P : Program) (t : TypeId) (x : SA) : VR :=
  match x, P.underlying t with
  | .sc (.sl o off len _), some (.array n _) => if n ≤ len then some ([], .sc (.ptr o off)) else none
  | _, _ => none
theorem semArr_sound {P : Program} {t : TypeId} {x : SA} {ps : List Prop} {z : SA} (h : semArr P t x = some (ps, z)) (ρ : Rho) (n : Env) (hb : x.bnd n) (w : World) :
    (Instr.arrayAt t (x.conc ρ)).run P w = .ok (z.conc ρ) w ∧ z.bnd n := by
  unfold semArr at h
  split at h
  · rename_i o off len cap m e hu
    split at h
    · rename_i hle
      simp only [Option.some.injEq, Prod.mk.injEq] at h
      obtain ⟨rfl, rfl⟩ := h
      refine ⟨?_, hb⟩
      simp [Instr.arrayAt, run_underlying hu, SA.conc, SC.conc, Nat.not_lt.2 hle]
    · cases h
  · cases h
def toPV : SA → Option PV
  | .sc (.ptr o off) => some (.p o off)
  | x => (asV x).map .v
theorem toPV_sound {x : SA} {p : PV} (h : toPV x = some p) (ρ : Rho) (n : Env) (hb : x.bnd n) : x.conc ρ = p.conc ρ ∧ p.bnd n := by
  unfold toPV at h
  split at h
  · simp only [Option.some.injEq] at h; subst h; exact ⟨rfl, hb⟩
  · obtain ⟨v, hv, rfl⟩ := Option.map_eq_some_iff.1 h
    exact ⟨asV_sound hv ρ, trivial⟩
def toPVs : List SA → Option (List PV)
  | [] => some []
  | x :: r => match toPV x, toPVs r with
    | some p, some ps => some (p :: ps)
    | _, _ => none
theorem toPVs_sound (ρ : Rho) (n : Env) : ∀ {xs : List SA} {ps : List PV}, toPVs xs = some ps → (∀ x ∈ xs, x.bnd n) → xs.map (SA.conc ρ) = ps.map (PV.conc ρ) ∧ ∀ p ∈ ps, p.bnd n
  | [], ps, h, _ => by simp only [toPVs, Option.some.injEq] at h; subst h; simp
  | x :: r, ps, h, hb => by
    simp only [toPVs] at h
    split at h
    · rename_i p ps' h1 h2
      simp only [Option.some.injEq] at h; subst h
      obtain ⟨a1, a2⟩ := toPV_sound h1 ρ n (hb x (by simp))
      obtain ⟨b1, b2⟩ := toPVs_sound ρ n h2 (fun y hy => hb y (by simp [hy]))
      exact ⟨by simp [a1, b1], fun q hq => by rcases List.mem_cons.1 hq with rfl | hq; exact a2; exact b2 q hq⟩
    · cases h
def ofPV : PV → SA
  | .v x => .sc (.val x)
  | .p o off => .sc (.ptr o off)
theorem ofPV_conc (ρ : Rho) (p : PV) : (ofPV p).conc ρ = p.conc ρ := by cases p <;> rfl
theorem ofPV_bnd {n : Env} {p : PV} (h : p.bnd n) : (ofPV p).bnd n := by cases p; trivial; exact h
def rdO (tm : List SV) : Option Operand → Option (List Prop × Option SA)
  | none => some ([], none)
  | some x => (rd tm x).map fun r => (r.1, some r.2)
def semMinMax (P : Program) (f : Array TypeId → TypeId → Array Value → Sem Value) (ts : Array TypeId) (t : TypeId) (xs : List SA) : VR :=
  match xs with
  | [x, y] =>
    match asV x, asV y with
    | some v, some w => (evalS P (f ts t #[v, w])).map fun r => ([], ofV (isLit x && isLit y) r)
    | _, _ => none
  | _ => none
def isIfcT (P : Program) (t : TypeId) : Bool :=
  match P.underlying t with
  | some (.interface _) | none => true
  | some _ => false
def semIfc (P : Program) (t : TypeId) (x : SA) : VR :=
  match isIfcT P t with
  | true => none
  | false => match x with
    | .sc (.ptr o off) => some ([], .sc (.ifc t o off))
    | x => match asV x with
      | some v => some ([], .sc (.val (.iface t v)))
      | none => none
theorem semIfc_sound {P : Program} {t : TypeId} {x z : SA} {ps : List Prop} (h : semIfc P t x = some (ps, z)) (ρ : Rho) {n : Env} (hb : x.bnd n) (w : World) :
    (Instr.makeInterface t (x.conc ρ)).run P w = .ok (z.conc ρ) w ∧ z.bnd n := by
  unfold semIfc at h
  split at h
  · cases h
  · rename_i hi
    have hm : ∀ v : Value, (Instr.makeInterface t v).run P w = .ok (.iface t v) w := by
      intro v
      unfold isIfcT at hi
      split at hi
      · cases hi
      · cases hi
      · rename_i u h1 h2
        unfold Instr.makeInterface
        simp only [Sem.run_bind, run_underlying h2, Result.andThen_ok]
        cases u <;> first | rfl | exact (h1 _ rfl).elim
    rw [hm]
    split at h
    · simp only [Option.some.injEq, Prod.mk.injEq] at h
      obtain ⟨_, rfl⟩ := h
      exact ⟨rfl, hb⟩
    · split at h
      · rename_i v hv
        simp only [Option.some.injEq, Prod.mk.injEq] at h
        obtain ⟨_, rfl⟩ := h
        rw [asV_sound hv ρ]
        exact ⟨rfl, trivial⟩
      · cases h
def semVal (P : Program) (tm : List SV) (o : Oper) : VR :=
  match o.op with
  | .binOp op t x y _ => rd2 tm x y (semBin P op t x y)
  | .unOp op _ x => rd1 tm x (semUn P op)
  | .convert s d x => rd1 tm x (semConv P s d)
  | .index t x i => rd2 tm x i (semIndex P t)
  | .field t x f => rd1 tm x (semField P t f)
  | .indexAddr t x i => rd2 tm x i (semIdxAddr P t)
  | .fieldAddr t x f => rd1 tm x (semFldAddr P t f)
  | .nilCheck x => rd1 tm x fun y => match y with
    | .sc (.ptr o off) => some ([], .sc (.ptr o off))
    | .sc (.ptw o w i c) => some ([], .sc (.ptw o w i c))
    | _ => none
  | .pick c x y => semPick tm c x y
  | .extract x i => match ev tm x with
    | .tup xs => (xs[i]?).map fun y => ([], y)
    | _ => none
  | .build t parts => match rdP tm parts.toList with
    | some (ps, ys) => match semBuild P t ys with
      | some (qs, z) => some (ps ++ qs, z)
      | none => none
    | none => none
  | .call { callee := .builtin .len, args, argTypes } => match rdL tm args.toList with
    | some (ps, ys) => match semLen P argTypes o.type ys with
      | some (qs, z) => some (ps ++ qs, z)
      | none => none
    | none => none
  | .call { callee := .builtin .cap, args, argTypes } => match rdL tm args.toList with
    | some (ps, ys) => match semCap P argTypes ys with
      | some (qs, z) => some (ps ++ qs, z)
      | none => none
    | none => none
  | .call { callee := .builtin .min, args, argTypes } => match rdL tm args.toList with
    | some (ps, ys) => match semMinMax P Builtin.min_ argTypes o.type ys with
      | some (qs, z) => some (ps ++ qs, z)
      | none => none
    | none => none
  | .call { callee := .builtin .max, args, argTypes } => match rdL tm args.toList with
    | some (ps, ys) => match semMinMax P Builtin.max_ argTypes o.type ys with
      | some (qs, z) => some (ps ++ qs, z)
      | none => none
    | none => none
  | .slice t x lo hi mx => match rd tm x, rdO tm lo, rdO tm hi, rdO tm mx with
    | some (p1, y), some (p2, l), some (p3, h), some (p4, m) => match semSlice P t y l h m with
      | some (qs, z) => some (p1 ++ (p2 ++ (p3 ++ (p4 ++ qs))), z)
      | none => none
    | _, _, _, _ => none
  | .sliceToArrayPointer t x => rd1 tm x (semArr P t)
  | .makeFunc (.func f) first caps => match first.toList, rdL tm caps.toList with
    | [], some (ps, ys) => match toPVs ys with
      | some pv => some (ps, .sc (.fn f pv))
      | none => none
    | _, _ => none
  | .makeInterface t x => rd1 tm x (semIfc P t)
  | _ => none
section
variable {P : Program} {W0 : Base} {ρ : Rho} {tm : List SV} {ob : List SO} {a : Act} {w : World}
theorem rdO_sound (H : Holds W0 ρ tm ob a w) {x : Option Operand} {ps : List Prop} {y : Option SA} (h : rdO tm x = some (ps, y)) (hp : Ok ps) : x.map a.eval = y.map (SA.conc ρ) := by
  cases x with
  | none => simp only [rdO, Option.some.injEq, Prod.mk.injEq] at h; obtain ⟨_, rfl⟩ := h; rfl
  | some x =>
    simp only [rdO, Option.map_eq_some_iff] at h
    obtain ⟨⟨p, z⟩, hr, he⟩ := h
    simp only [Prod.mk.injEq] at he
    obtain ⟨rfl, rfl⟩ := he
    simp [(rd_sound hr hp H).1]
theorem semMinMax_sound {f : Array TypeId → TypeId → Array Value → Sem Value} {ts : Array TypeId} {t : TypeId} {xs : List SA} {ps : List Prop} {z : SA} (h : semMinMax P f ts t xs = some (ps, z)) (ρ : Rho) (n : Env) (w : World) :
    (f ts t (xs.map (SA.conc ρ)).toArray).run P w = .ok (z.conc ρ) w ∧ z.bnd n := by
  unfold semMinMax at h
  split at h
  · rename_i x y
    split at h
    · rename_i v v' hv hv'
      simp only [Option.map_eq_some_iff, Prod.mk.injEq] at h
      obtain ⟨r, hr, rfl, rfl⟩ := h
      refine ⟨?_, ofV_bnd _ _ _⟩
      have : (List.map (SA.conc ρ) [x, y]).toArray = #[v, v'] := by simp [asV_sound hv ρ, asV_sound hv' ρ]
      rw [this, evalS_sound w hr, ofV_conc]
    · cases h
  · cases h
theorem semPick_sound (H : Holds W0 ρ tm ob a w) {c x y : Operand} {ps : List Prop} {z : SA} (h : semPick tm c x y = some (ps, z)) (hp : Ok ps) (w' : World) :
    (do pure (Next.value (if ← asBool (a.eval c) then a.eval x else a.eval y)) : Sem Next).run P w' = .ok (.value (z.conc ρ)) w' ∧ z.bnd (lv ρ ob) := by
  obtain ⟨p1, cv, p2, h1, h2, o1, o2⟩ := rd1_sound h hp
  have ec := (rd_sound h1 o1 H).1
  rw [ec]
  clear ec
  split at h2
  · obtain ⟨q1, xv, q2, g1, g2, r1, r2⟩ := rd1_sound h2 o2
    simp only [Option.some.injEq, Prod.mk.injEq] at g2
    obtain ⟨rfl, rfl⟩ := g2
    obtain ⟨ex, bx⟩ := rd_sound g1 r1 H
    simp [SA.conc, SC.conc, asBool, ex]
    exact bx
  · obtain ⟨q1, xv, q2, g1, g2, r1, r2⟩ := rd1_sound h2 o2
    simp only [Option.some.injEq, Prod.mk.injEq] at g2
    obtain ⟨rfl, rfl⟩ := g2
    obtain ⟨ex, bx⟩ := rd_sound g1 r1 H
    simp [SA.conc, SC.conc, asBool, ex]
    exact bx
  · rename_i b
    split at h2
    case h_2 => cases h2
    rename_i q1 xv q2 yv hx hy
    split at h2
    · rename_i bx bY hbx hby
      simp only [Option.some.injEq, Prod.mk.injEq] at h2
      obtain ⟨rfl, rfl⟩ := h2
      obtain ⟨r1, r2⟩ := Ok.append.1 o2
      have val : (do pure (Next.value (if ← asBool (SA.conc ρ (.sc (.val (.bool b)))) then a.eval x else a.eval y)) : Sem Next).run P w' = .ok (.value (.bool (if b then bx else bY))) w' := by
        cases b with
        | true =>
          obtain ⟨ex, _⟩ := rd_sound hx (Ok_map r1 rfl) H
          simp [SA.conc, SC.conc, asBool]
          rw [ex]; exact asB_sound hbx ρ
        | false =>
          obtain ⟨ey, _⟩ := rd_sound hy (Ok_map r2 rfl) H
          simp [SA.conc, SC.conc, asBool]
          rw [ey]; exact asB_sound hby ρ
      rw [val, (pickRes_sound hbx hby ρ (lv ρ ob)).1]
      exact ⟨rfl, (pickRes_sound hbx hby ρ (lv ρ ob)).2⟩
    · split at h2
      · simp only [Option.some.injEq, Prod.mk.injEq] at h2
        obtain ⟨rfl, rfl⟩ := h2
        obtain ⟨hb, r2⟩ := o2
        obtain ⟨ey, by'⟩ := rd_sound hy r2 H
        subst hb
        simp [SA.conc, SC.conc, asBool, ey]
        exact by'
      · cases h2
    · split at h2
      · simp only [Option.some.injEq, Prod.mk.injEq] at h2
        obtain ⟨rfl, rfl⟩ := h2
        obtain ⟨hb, r1⟩ := o2
        obtain ⟨ex, bx'⟩ := rd_sound hx r1 H
        subst hb
        simp [SA.conc, SC.conc, asBool, ex]
        exact bx'
      · cases h2
    · cases h2
  · cases h2
theorem semVal_all (H : Holds W0 ρ tm ob a w) {o : Oper} {ps : List Prop} {z : SA} (h : semVal P tm o = some (ps, z)) (hp : Ok ps) (w' : World) :
    (execOp a.eval o).run P w' = .ok (.value (z.conc ρ)) w' ∧ z.bnd (lv ρ ob) := by
  unfold semVal at h
  split at h
  · rename_i op t x y yt ho
    obtain ⟨p1, xv, p2, h1, h2, o1, o2⟩ := rd1_sound h hp
    obtain ⟨q1, yv, q2, g1, g2, r1, r2⟩ := rd1_sound h2 o2
    obtain ⟨ex, _⟩ := rd_sound h1 o1 H
    obtain ⟨ey, _⟩ := rd_sound g1 r1 H
    obtain ⟨e, b⟩ := semBin_sound g2 r2 ρ (lv ρ ob) w'
    refine ⟨?_, b⟩
    unfold execOp
    simp only [ho, ex, ey]
    rw [Sem.run_bind]
    erw [e]
    rfl
  · rename_i op t x ho
    obtain ⟨p1, xv, p2, h1, h2, o1, o2⟩ := rd1_sound h hp
    obtain ⟨ex, _⟩ := rd_sound h1 o1 H
    obtain ⟨e, b⟩ := semUn_sound h2 ρ (lv ρ ob) w'
    refine ⟨?_, b⟩
    unfold execOp
    simp only [ho, ex, Sem.run_bind, e, Result.andThen_ok, Sem.run_pure]
  · rename_i s d x ho
    obtain ⟨p1, xv, p2, h1, h2, o1, o2⟩ := rd1_sound h hp
    obtain ⟨ex, _⟩ := rd_sound h1 o1 H
    obtain ⟨e, b⟩ := semConv_sound h2 ρ (lv ρ ob) w'
    refine ⟨?_, b⟩
    unfold execOp
    simp only [ho, ex, Sem.run_bind, e, Result.andThen_ok, Sem.run_pure]
  · rename_i t x i ho
    obtain ⟨p1, xv, p2, h1, h2, o1, o2⟩ := rd1_sound h hp
    obtain ⟨q1, yv, q2, g1, g2, r1, r2⟩ := rd1_sound h2 o2
    obtain ⟨ex, bx⟩ := rd_sound h1 o1 H
    obtain ⟨ey, _⟩ := rd_sound g1 r1 H
    obtain ⟨e, b⟩ := semIndex_sound g2 r2 ρ (lv ρ ob) bx w'
    refine ⟨?_, b⟩
    unfold execOp
    simp only [ho, ex, ey, Sem.run_bind, e, Result.andThen_ok, Sem.run_pure]
  · rename_i t x f ho
    obtain ⟨p1, xv, p2, h1, h2, o1, o2⟩ := rd1_sound h hp
    obtain ⟨ex, bx⟩ := rd_sound h1 o1 H
    obtain ⟨e, b⟩ := semField_sound h2 ρ (lv ρ ob) bx w'
    refine ⟨?_, b⟩
    unfold execOp
    simp only [ho, ex, Sem.run_bind, e, Result.andThen_ok, Sem.run_pure]
  · rename_i t x i ho
    obtain ⟨p1, xv, p2, h1, h2, o1, o2⟩ := rd1_sound h hp
    obtain ⟨q1, yv, q2, g1, g2, r1, r2⟩ := rd1_sound h2 o2
    obtain ⟨ex, bx⟩ := rd_sound h1 o1 H
    obtain ⟨ey, _⟩ := rd_sound g1 r1 H
    obtain ⟨e, b⟩ := semIdxAddr_sound g2 r2 ρ (lv ρ ob) bx w'
    refine ⟨?_, b⟩
    unfold execOp
    simp only [ho, ex, ey, Sem.run_bind, e, Result.andThen_ok, Sem.run_pure]
  · rename_i t x f ho
    obtain ⟨p1, xv, p2, h1, h2, o1, o2⟩ := rd1_sound h hp
    obtain ⟨ex, bx⟩ := rd_sound h1 o1 H
    obtain ⟨e, b⟩ := semFldAddr_sound h2 ρ (lv ρ ob) bx w'
    refine ⟨?_, b⟩
    unfold execOp
    simp only [ho, ex, Sem.run_bind, e, Result.andThen_ok, Sem.run_pure]
  · rename_i x ho
    obtain ⟨p1, xv, p2, h1, h2, o1, o2⟩ := rd1_sound h hp
    obtain ⟨ex, bx⟩ := rd_sound h1 o1 H
    split at h2
    · simp only [Option.some.injEq, Prod.mk.injEq] at h2
      obtain ⟨rfl, rfl⟩ := h2
      refine ⟨?_, bx⟩
      unfold execOp
      simp only [ho, ex, SA.conc, SC.conc, Sem.run_pure]
    · simp only [Option.some.injEq, Prod.mk.injEq] at h2
      obtain ⟨rfl, rfl⟩ := h2
      refine ⟨?_, bx⟩
      unfold execOp
      simp only [ho, ex, SA.conc, SC.conc, Sem.run_pure]
    · cases h2
  · rename_i c x y ho
    obtain ⟨e, b⟩ := semPick_sound (P := P) H h hp w'
    refine ⟨?_, b⟩
    unfold execOp
    simp only [ho]
    exact e
  · rename_i x i ho
    split at h
    · rename_i xs hx
      obtain ⟨y, hy, he⟩ := Option.map_eq_some_iff.1 h
      simp only [Prod.mk.injEq] at he
      obtain ⟨rfl, rfl⟩ := he
      have hr := (H.ev x).1
      have hb := (H.ev x).2
      rw [hx] at hr hb
      simp only [SV.rep] at hr
      refine ⟨?_, hb y (List.mem_of_getElem? hy)⟩
      unfold execOp
      simp only [ho, hr, Instr.extract, Sem.run_bind]
      simp [hy]
    · cases h
  · rename_i t parts ho
    split at h
    case h_2 => cases h
    rename_i p1 ys h1
    split at h
    case h_2 => cases h
    rename_i p2 z' h2
    simp only [Option.some.injEq, Prod.mk.injEq] at h
    obtain ⟨rfl, rfl⟩ := h
    obtain ⟨o1, o2⟩ := Ok.append.1 hp
    obtain ⟨e1, b1⟩ := rdP_sound H h1 o1
    obtain ⟨e, b⟩ := semBuild_sound h2 ρ (lv ρ ob) b1 w'
    refine ⟨?_, b⟩
    unfold execOp
    have : (parts.map fun x => (x.1, a.eval x.2)) = (ys.map fun p => (p.1, p.2.conc ρ)).toArray := by
      apply Array.ext'
      rw [Array.toList_map, e1]
    simp only [ho, this, Sem.run_bind, e, Result.andThen_ok, Sem.run_pure]
  · rename_i args argTypes ho
    split at h
    case h_2 => cases h
    rename_i p1 ys h1
    split at h
    case h_2 => cases h
    rename_i p2 z' h2
    simp only [Option.some.injEq, Prod.mk.injEq] at h
    obtain ⟨rfl, rfl⟩ := h
    obtain ⟨o1, o2⟩ := Ok.append.1 hp
    obtain ⟨e1, b1⟩ := rdL_sound H h1 o1
    obtain ⟨e, b⟩ := semLen_sound h2 ρ (lv ρ ob) w'
    refine ⟨?_, b⟩
    have : args.map a.eval = (ys.map (SA.conc ρ)).toArray := by
      apply Array.ext'
      rw [Array.toList_map, e1]
    unfold execOp
    simp only [ho, resolve, this, Sem.run_bind, Sem.run_pure, Result.andThen_ok, invoke, builtin, e]
  · rename_i args argTypes ho
    split at h
    case h_2 => cases h
    rename_i p1 ys h1
    split at h
    case h_2 => cases h
    rename_i p2 z' h2
    simp only [Option.some.injEq, Prod.mk.injEq] at h
    obtain ⟨rfl, rfl⟩ := h
    obtain ⟨o1, o2⟩ := Ok.append.1 hp
    obtain ⟨e1, b1⟩ := rdL_sound H h1 o1
    obtain ⟨e, b⟩ := semCap_sound (t := o.type) h2 ρ (lv ρ ob) w'
    refine ⟨?_, b⟩
    have : args.map a.eval = (ys.map (SA.conc ρ)).toArray := by
      apply Array.ext'
      rw [Array.toList_map, e1]
    unfold execOp
    simp only [ho, resolve, this, Sem.run_bind, Sem.run_pure, Result.andThen_ok, invoke, builtin, e]
  · rename_i args argTypes ho
    split at h
    case h_2 => cases h
    rename_i p1 ys h1
    split at h
    case h_2 => cases h
    rename_i p2 z' h2
    simp only [Option.some.injEq, Prod.mk.injEq] at h
    obtain ⟨rfl, rfl⟩ := h
    obtain ⟨o1, o2⟩ := Ok.append.1 hp
    obtain ⟨e1, b1⟩ := rdL_sound H h1 o1
    obtain ⟨e, b⟩ := semMinMax_sound h2 ρ (lv ρ ob) w'
    refine ⟨?_, b⟩
    have : args.map a.eval = (ys.map (SA.conc ρ)).toArray := by
      apply Array.ext'
      rw [Array.toList_map, e1]
    unfold execOp
    simp only [ho, resolve, this, Sem.run_bind, Sem.run_pure, Result.andThen_ok, invoke, builtin, e]
  · rename_i args argTypes ho
    split at h
    case h_2 => cases h
    rename_i p1 ys h1
    split at h
    case h_2 => cases h
    rename_i p2 z' h2
    simp only [Option.some.injEq, Prod.mk.injEq] at h
    obtain ⟨rfl, rfl⟩ := h
    obtain ⟨o1, o2⟩ := Ok.append.1 hp
    obtain ⟨e1, b1⟩ := rdL_sound H h1 o1
    obtain ⟨e, b⟩ := semMinMax_sound h2 ρ (lv ρ ob) w'
    refine ⟨?_, b⟩
    have : args.map a.eval = (ys.map (SA.conc ρ)).toArray := by
      apply Array.ext'
      rw [Array.toList_map, e1]
    unfold execOp
    simp only [ho, resolve, this, Sem.run_bind, Sem.run_pure, Result.andThen_ok, invoke, builtin, e]
  · rename_i t x lo hi mx ho
    split at h
    case h_2 => cases h
    rename_i p1 y p2 l p3 h' p4 m h1 h2 h3 h4
    split at h
    case h_2 => cases h
    rename_i qs z' hz
    simp only [Option.some.injEq, Prod.mk.injEq] at h
    obtain ⟨rfl, rfl⟩ := h
    obtain ⟨o1, o2⟩ := Ok.append.1 hp
    obtain ⟨o2, o3⟩ := Ok.append.1 o2
    obtain ⟨o3, o4⟩ := Ok.append.1 o3
    obtain ⟨o4, o5⟩ := Ok.append.1 o4
    obtain ⟨ex, bx⟩ := rd_sound h1 o1 H
    obtain ⟨e, b⟩ := semSlice_sound hz o5 ρ (lv ρ ob) bx w'
    refine ⟨?_, b⟩
    unfold execOp
    simp only [ho, ex, rdO_sound H h2 o2, rdO_sound H h3 o3, rdO_sound H h4 o4, Sem.run_bind, e, Result.andThen_ok, Sem.run_pure]
  · rename_i t x ho
    obtain ⟨p1, xv, p2, h1, h2, o1, o2⟩ := rd1_sound h hp
    obtain ⟨ex, bx⟩ := rd_sound h1 o1 H
    obtain ⟨e, b⟩ := semArr_sound h2 ρ (lv ρ ob) bx w'
    refine ⟨?_, b⟩
    unfold execOp
    simp only [ho, ex, Sem.run_bind, e, Result.andThen_ok, Sem.run_pure]
  · rename_i f first caps ho
    split at h
    · rename_i p1 ys hf h1
      split at h
      · rename_i pv hpv
        simp only [Option.some.injEq, Prod.mk.injEq] at h
        obtain ⟨rfl, rfl⟩ := h
        obtain ⟨e1, b1⟩ := rdL_sound H h1 hp
        obtain ⟨e2, b2⟩ := toPVs_sound ρ (lv ρ ob) hpv b1
        refine ⟨?_, b2⟩
        have h0 : first.map a.eval = #[] := by
          have : first = #[] := Array.ext' (by simpa using hf)
          subst this; simp
        have h1 : caps.map a.eval = (pv.map (PV.conc ρ)).toArray := by
          apply Array.ext'
          rw [Array.toList_map, e1, e2]
        unfold execOp
        simp only [ho, h0, h1, Instr.makeFunc, Sem.run_bind, Sem.run_pure, Result.andThen_ok, SA.conc, SC.conc]
      · cases h
    · cases h
  · rename_i t x ho
    obtain ⟨p1, xv, p2, h1, h2, o1, o2⟩ := rd1_sound h hp
    obtain ⟨ex, bx⟩ := rd_sound h1 o1 H
    obtain ⟨e, b⟩ := semIfc_sound h2 ρ bx w'
    refine ⟨?_, b⟩
    unfold execOp
    simp only [ho, ex, Sem.run_bind, e, Result.andThen_ok, Sem.run_pure]
  · cases h
theorem semVal_sound (H : Holds W0 ρ tm ob a w) {o : Oper} {ps : List Prop} {z : SA} (h : semVal P tm o = some (ps, z)) (hp : Ok ps) :
    (execOp a.eval o).run P w = .ok (.value (z.conc ρ)) w ∧ z.bnd (lv ρ ob) := semVal_all H h hp w
def repKs (l : List SK) : Nat → List SK
  | 0 => []
  | n + 1 => l ++ repKs l n
def semRow (P : Program) (e : TypeId) (len : Nat) (parts : List (Nat × SA)) : Option (List SK) :=
  match P.info? e, zeroKs P e with
  | some ie, some zk => if Nat.beq len 0 ∧ parts.isEmpty = true then some [] else if len * ie.size ≤ 16777216 ∧ len * ie.size ≠ 0 ∧ (flat zk).length = ie.size then fillKs (fun i => some (i * ie.size, ie.size)) (repKs zk len) parts else none
  | _, _ => none
def semMake (P : Program) (e : TypeId) (x y : Int) : Option (List SK) :=
  match P.info? e, zeroKs P e with
  | some ie, some zk => if (0 ≤ x ∧ x ≤ y) ∧ (y.toNat * ie.size ≤ 16777216 ∧ (ie.bytes : Int) * y ≤ 281474976710656) ∧ (y ≤ 9223372036854775807 ∧ (flat zk).length = ie.size) then some (repKs zk y.toNat) else none
  | _, _ => none
theorem concs_rep (ρ : Rho) (l : List SK) : ∀ n, concs ρ (repKs l n) = (List.replicate n (concs ρ l)).flatten
  | 0 => rfl
  | n + 1 => by
    have ih := concs_rep ρ l n
    simp only [concs] at ih
    simp [repKs, concs, flat_append, ih, List.replicate_succ]
theorem rows_zero (zc : Array Value) (n : Nat) : ((Array.range (n * zc.size)).map (zc[· % zc.size]!)).toList = (List.replicate n zc.toList).flatten := by
  rcases Nat.eq_zero_or_pos zc.size with h0 | h0
  · have : zc = #[] := Array.eq_empty_of_size_eq_zero h0
    subst this
    have : ∀ n, (List.replicate n ([] : List Value)).flatten = [] := by intro n; induction n <;> simp_all
    simp [this]
  · apply List.ext_getElem
    · simp
    · intro i h1 h2
      simp only [Array.toList_map, Array.toList_range, List.length_map, List.length_range] at h1
      have hmod : i % zc.size < zc.size := Nat.mod_lt _ h0
      have key : ∀ (n i : Nat) (h : i < (List.replicate n zc.toList).flatten.length), (List.replicate n zc.toList).flatten[i] = zc[i % zc.size]'(Nat.mod_lt _ h0) := by
        intro n
        induction n with
        | zero => intro i h; simp at h
        | succ n ih =>
          intro i h
          simp only [List.replicate_succ, List.flatten_cons] at h ⊢
          rw [List.getElem_append]
          split
          · rename_i hl
            simp only [Array.length_toList] at hl
            simp [Nat.mod_eq_of_lt hl]
          · rename_i hl
            simp only [Array.length_toList] at hl ⊢
            rw [ih]
            simp only [Nat.mod_eq_sub_mod (Nat.le_of_not_lt hl)]
      rw [key]
      simp [hmod]
theorem semRow_sound {P : Program} {t e : TypeId} {len : Nat} {parts : List (Nat × SA)} {ks : List SK} (hu : P.underlying t = some (.slice e)) (h : semRow P e len parts = some ks) (ρ : Rho) (w : World) :
    (Instr.buildSlice t len (parts.map fun p => (p.1, p.2.conc ρ)).toArray).run P w = .ok (.slice (some ⟨w.heap.size, 0, none⟩) len len) (w.alloc (.cells (concs ρ ks).toArray e)) ∧ ∀ n : Env, (∀ p ∈ parts, p.2.bnd n) → ∀ k ∈ ks, k.bnd n := by
  unfold semRow at h
  split at h
  case h_2 => cases h
  rename_i ie zk hie hzk
  split at h
  · rename_i hc
    obtain ⟨c1, c2⟩ := hc
    have c1 := Nat.eq_of_beq_eq_true c1
    subst c1
    simp only [Option.some.injEq] at h
    subst h
    cases parts with
    | cons _ _ => simp at c2
    | nil =>
      refine ⟨?_, fun _ _ k hk => by cases hk⟩
      simp [Instr.buildSlice, run_underlying hu, sizeOf, typeInfo, hie, Instr.fill, newRow, concs, flat]
      have h0 : ∀ x : Value, Array.map (fun _ : Nat => x) (Array.range 0) = #[] := fun x => Array.eq_empty_of_size_eq_zero (by simp)
      rw [h0]
  split at h
  case isFalse => cases h
  rename_i hc
  obtain ⟨c1, c2, c3⟩ := hc
  have hzb := hzk
  unfold zeroKs at hzk
  split at hzk
  case h_2 => cases hzk
  rename_i z hz
  rw [hie] at hz
  simp only [Option.bind_some] at hz
  simp only [Option.some.injEq] at hzk
  have hcz : concs ρ zk = z.cells.toList := by rw [← hzk, litCs_conc]
  have hsz : z.cells.size = ie.size := by
    have := congrArg List.length hcz
    simp only [concs, List.length_map, Array.length_toList] at this
    omega
  have hfill := fillKs_sound ρ h
  refine ⟨run_buildSlice w t e len _ _ ie z hu hie hz (by omega) c2 ?_, fun n hb => fillKs_bnd h ?_ hb⟩
  · simp only [← hfill]
    congr 1
    apply Array.ext'
    rw [← hsz, rows_zero, concs_rep, hcz]
  · intro k hk
    have : ∀ m, ∀ k ∈ repKs zk m, k.bnd n := by
      intro m
      induction m with
      | zero => intro k hk; cases hk
      | succ m ih =>
        intro k hk
        simp only [repKs, List.mem_append] at hk
        rcases hk with hk | hk
        · exact zeroKs_bnd hzb n k hk
        · exact ih k hk
    exact this _ k hk
def bytesI (l : List Int) : ByteArray := l.foldl (fun r n => r.push (UInt8.ofNat n.toNat)) ByteArray.empty
def isBytes (P : Program) (s d : TypeId) : Bool :=
  match P.underlying s, P.underlying d with
  | some (.slice e), some .string => match P.underlying e with
    | some (.int .u8) => true
    | _ => false
  | _, _ => false
theorem isBytes_spec {P : Program} {s d : TypeId} (h : isBytes P s d = true) : ∃ e, P.underlying s = some (.slice e) ∧ P.underlying e = some (.int .u8) ∧ P.underlying d = some .string := by
  unfold isBytes at h
  split at h
  · rename_i e h1 h2
    split at h
    · rename_i h3; exact ⟨e, h1, h3, h2⟩
    · cases h
  · cases h
def isKind (k : IntKind) (s : SC) : Prop :=
  match asI (.sc s) with
  | some (k', _) => if k = k' then True else False
  | none => False
theorem isKind_sound {k : IntKind} {s : SC} (h : isKind k s) (ρ : Rho) : s.conc ρ = .int k (intsC s) := by
  unfold isKind at h
  split at h
  · rename_i k' n hn
    split at h
    · rename_i e
      subst e
      have := asI_sound hn ρ
      simp only [SA.conc] at this
      rw [this]
      simp only [intsC, hn]
    · exact h.elim
  · exact h.elim
def semStr (ob : List SO) (x : SA) : VR :=
  match x with
  | .sc (.slw o w off len _) =>
    match ob[o]? with
    | some (.row _ w' n g _) => if w = 1 ∧ w' = 1 then some ([off + len ≤ n, ∀ j, isKind .u8 (g j 0)], .sc (.val (.string (bytesI ((List.range len).map fun j => intsC (g (off + j) 0)))))) else none
    | _ => none
  | .sc (.xs _ len _ w g) => if w = 1 then some ([∀ j, isKind .u8 (g j 0)], .sc (.val (.string (bytesI ((List.range len).map fun j => intsC (g j 0)))))) else none
  | .sc (.sl o off len _) =>
    match ob[o]? with
    | some (.cells _ ks _) => match sub ks off len with
      | some cs => if kindAll .u8 cs then some ([], .sc (.val (.string (bytesI (intsL cs))))) else none
      | none => none
    | _ => none
  | .sc (.sls o base lo hi _) =>
    match ob[o]? with
    | some (.cells _ ks _) => match sub ks base hi with
      | some cs => if kindAll .u8 cs then some ([lo ≤ hi], .sc (.val (.string (bytesI ((List.range (hi - lo)).map fun j => selG cs (lo + j)))))) else none
      | none => none
    | _ => none
  | _ => none
theorem run_row_bytes {P : Program} {w : World} {b off n : Nat} {e : TypeId} {row : List Value} (hb : w.heap[b]? = some (.cells row.toArray e (0, 0))) {ns : List Int} (hn : ns.length = n) (h : ∀ j, j < n → row[off + j]? = some (.int .u8 (ns.getD j 0))) :
    (loadCells ⟨b, off, none⟩ n).run P w = .ok (ns.map (Value.int .u8)).toArray w := by
  have := run_loadCells_list (P := P) w ⟨b, off, none⟩ (ns.map (Value.int .u8)) (fun j v hj => by
    rw [List.getElem?_map] at hj
    rcases Nat.lt_or_ge j ns.length with hl | hl
    · rw [List.getElem?_eq_getElem hl, Option.map_some, Option.some.injEq] at hj
      have := h j (by omega)
      simp only [add_addr, World.cell?, hb]
      rw [List.getD_eq_getElem?_getD, List.getElem?_eq_getElem hl, Option.getD_some, hj] at this
      simpa using this
    · rw [List.getElem?_eq_none hl] at hj; cases hj)
  rw [List.length_map, hn] at this
  exact this
theorem fz_add {a : Addr} (hs : a.spot = none) (d : Nat) : a.add d = ⟨a.block, a.off + d, none⟩ := by
  rw [← add_block a d, ← add_off a d, ← add_spot hs d]
theorem semStr_sound {P : Program} {W0 : Base} {ρ : Rho} {tm : List SV} {ob : List SO} {a : Act} {w : World} (H : Holds W0 ρ tm ob a w) {s d : TypeId} (hb : isBytes P s d = true) {x z : SA} (hx : x.bnd (lv ρ ob)) {ps : List Prop} (h : semStr ob x = some (ps, z)) (hp : Ok ps) :
    (convert s d (x.conc ρ)).run P w = .ok (z.conc ρ) w ∧ z.bnd (lv ρ ob) := by
  obtain ⟨e, h1, h2, h3⟩ := isBytes_spec hb
  unfold semStr at h
  split at h
  · rename_i o k off len cap
    split at h
    · rename_i e' k' n g sp ho
      split at h
      · rename_i hk
        obtain ⟨rfl, rfl⟩ := hk
        simp only [Option.some.injEq, Prod.mk.injEq] at h
        obtain ⟨rfl, rfl⟩ := h
        obtain ⟨hn, hk, _⟩ := hp
        obtain ⟨_, ⟨rest, _, hrow⟩, hok⟩ := H.mem.rows ho
        refine ⟨?_, trivial⟩
        rw [show SA.conc ρ (.sc (.slw o 1 off len cap)) = .slice (some ⟨ρ o, off * 1, none⟩) len cap from rfl, run_convert_bytes_string w s d e _ _ _ h1 h2 h3]
        refine run_bytesToString w _ len cap _ (run_row_bytes hrow (by simp) fun j hj => ?_)
        have := rowc_get (w := 1) (n := n) (g := g) (i := off + j) (c := 0) (by omega) (by omega)
        rw [Nat.mul_one, Nat.add_zero] at this
        rw [List.getElem?_append_left (by rw [rowc_length]; omega), Nat.mul_one, this, isKind_sound (hk _) Rho.nil]
        simp [hj]
      · cases h
    · cases h
  · rename_i ad len cap k g
    split at h
    · rename_i hk
      subst hk
      simp only [Option.some.injEq, Prod.mk.injEq] at h
      obtain ⟨rfl, rfl⟩ := h
      obtain ⟨hk, _⟩ := hp
      obtain ⟨q1, q2, q3⟩ := hx
      refine ⟨?_, trivial⟩
      rw [show SA.conc ρ (.sc (.xs ad len cap 1 g)) = .slice ad len cap from rfl, run_convert_bytes_string w s d e _ _ _ h1 h2 h3]
      cases ad with
      | none =>
        obtain ⟨rfl, rfl⟩ := q1 rfl
        rfl
      | some b =>
        obtain ⟨r1, r2⟩ := q3 b rfl
        refine run_bytesToString w _ len cap _ ?_
        have := run_loadCells_list (P := P) w b (((List.range len).map fun j => intsC (g j 0)).map (Value.int .u8)) (fun j v hj => by
          rw [List.getElem?_map, List.getElem?_map] at hj
          obtain ⟨m, hm, rfl⟩ := Option.map_eq_some_iff.1 hj
          obtain ⟨i, hi, rfl⟩ := Option.map_eq_some_iff.1 hm
          obtain ⟨hlt, rfl⟩ := List.getElem?_eq_some_iff.1 hi
          simp only [List.length_range] at hlt
          simp only [List.getElem_range]
          obtain ⟨_, _, p3⟩ := r2 j hlt 0 (by omega)
          have := (H.mem.frz _ _ _ p3).1
          rw [Nat.mul_one, Nat.add_zero] at this
          rw [fz_add (r1 (by omega)), this, isKind_sound (hk j) Rho.nil])
        simpa using this
    · cases h
  · rename_i o off len cap
    split at h
    · rename_i e' ks sp ho
      split at h
      · rename_i cs hs
        split at h
        · rename_i ha
          simp only [Option.some.injEq, Prod.mk.injEq] at h
          obtain ⟨rfl, rfl⟩ := h
          obtain ⟨_, ⟨rest, _, hrow⟩, _, _⟩ := H.mem.obj o e' ks sp ho
          refine ⟨?_, trivial⟩
          obtain ⟨l1, l2⟩ := concs_sub hs ρ
          have hlen : (flat cs).length = len := by
            obtain ⟨a, b⟩ := sub_flat hs
            rw [b]; simp; omega
          have hil := intsL_length cs ρ .u8 ha
          rw [show SA.conc ρ (.sc (.sl o off len cap)) = .slice (some ⟨ρ o, off, none⟩) len cap from rfl, run_convert_bytes_string w s d e _ _ _ h1 h2 h3]
          refine run_bytesToString w _ len cap (intsL cs) (run_row_bytes hrow (by omega) fun j hj => ?_)
          have := ints_conc ρ .u8 ha
          rw [l2] at this
          rw [List.getElem?_append_left (by omega)]
          have h4 := congrArg (fun l => l[j]?) this
          simp only [List.getElem?_take, if_pos hj, List.getElem?_drop, List.getElem?_map] at h4
          rw [h4, List.getElem?_eq_getElem (by omega), List.getD_eq_getElem?_getD, List.getElem?_eq_getElem (by omega)]
          rfl
        · cases h
      · cases h
    · cases h
  · rename_i o base lo hi cap
    split at h
    · rename_i e' ks sp ho
      split at h
      · rename_i cs hs
        split at h
        · rename_i ha
          simp only [Option.some.injEq, Prod.mk.injEq] at h
          obtain ⟨rfl, rfl⟩ := h
          obtain ⟨hlo, _⟩ := hp
          obtain ⟨_, ⟨rest, _, hrow⟩, _, _⟩ := H.mem.obj o e' ks sp ho
          refine ⟨?_, trivial⟩
          obtain ⟨l1, l2⟩ := concs_sub hs ρ
          have hlen : (flat cs).length = hi := by
            obtain ⟨a, b⟩ := sub_flat hs
            rw [b]; simp; omega
          rw [show SA.conc ρ (.sc (.sls o base lo hi cap)) = .slice (some ⟨ρ o, base + lo, none⟩) (hi - lo) cap from rfl, run_convert_bytes_string w s d e _ _ _ h1 h2 h3]
          refine run_bytesToString w _ (hi - lo) cap _ (run_row_bytes hrow (by simp) fun j hj => ?_)
          have := selG_conc ha ρ (j := lo + j) (by omega)
          rw [l2, List.getElem?_take, if_pos (by omega), List.getElem?_drop] at this
          rw [List.getElem?_append_left (by omega), Nat.add_assoc, this]
          simp [hj]
        · cases h
      · cases h
    · cases h
  · cases h
def calleeOf (tm : List SV) (x : Operand) : Option (List Prop × Nat × List PV) :=
  match rd tm x with
  | some (ps, .sc (.fn f caps)) => some (ps, f, caps)
  | _ => none
theorem calleeOf_sound {W0 : Base} {ρ : Rho} {tm : List SV} {ob : List SO} {a : Act} {w : World} (H : Holds W0 ρ tm ob a w) {x : Operand} {ps : List Prop} {f : Nat} {caps : List PV} (h : calleeOf tm x = some (ps, f, caps)) (hp : Ok ps) :
    a.eval x = .func (.func f) #[] (caps.map (PV.conc ρ)).toArray ∧ ∀ p ∈ caps, p.bnd (lv ρ ob) := by
  unfold calleeOf at h
  split at h
  · rename_i p1 f' caps' hr
    simp only [Option.some.injEq, Prod.mk.injEq] at h
    obtain ⟨rfl, rfl, rfl⟩ := h
    obtain ⟨e, b⟩ := rd_sound hr hp H
    exact ⟨e, b⟩
  · cases h
theorem run_call_fn {P : Program} {a : Act} {w : World} {o : Oper} {x : Operand} {args : Array Operand} {ts : Array TypeId} (ho : o.op = .call { callee := .value x, args, argTypes := ts }) {f : Nat} {caps : List Value} (hx : a.eval x = .func (.func f) #[] caps.toArray) {vs : List Value} (hv : args.map a.eval = vs.toArray) :
    (execOp a.eval o).run P w = (callFunc f (vs ++ caps).toArray).run P w := by
  unfold execOp
  simp only [ho, resolve, hv, hx, Deferred.ofValue, Sem.run_bind, Sem.run_pure, Result.andThen_ok, invoke]
  simp
theorem data_extract (b : ByteArray) (n : Nat) (hn : n ≤ b.size) : ((b.extract 0 n).data.map fun c => Value.int .u8 c.toNat).toList = (List.range n).map fun j => Value.int .u8 ((b.data.getD j 0).toNat : Int) := by
  have hs : (b.extract 0 n).data = b.data.extract 0 n := by simp
  rw [hs]
  apply List.ext_getElem
  · simp only [Array.toList_map, List.length_map, Array.length_toList, Array.size_extract, List.length_range]
    have : b.data.size = b.size := rfl
    omega
  · intro j h1 h2
    simp only [List.length_map, List.length_range] at h2
    have : j < b.data.size := by have : b.data.size = b.size := rfl; omega
    simp [Array.getD_eq_getD_getElem?, Array.getElem?_eq_getElem this]
theorem bnd_f {n : Env} {k : IntKind} {m : Nat} {g : Nat → Int} : ∀ c ∈ flat [SK.f k m g], c.bnd n := by
  intro c hc
  simp only [flat, SK.cells, List.append_nil, List.mem_map] at hc
  obtain ⟨j, _, rfl⟩ := hc; trivial
theorem fit_f {k : IntKind} {m : Nat} {g : Nat → Int} : ∀ c ∈ flat [SK.f k m g], c.fit = true := by
  intro c hc
  simp only [flat, SK.cells, List.append_nil, List.mem_map] at hc
  obtain ⟨j, _, rfl⟩ := hc; rfl
theorem lay_all {Q : SC → Prop} {ks new r : List SK} {off : Nat} (h : lay ks off new = some r) (h1 : ∀ c ∈ flat ks, Q c) (h2 : ∀ c ∈ flat new, Q c) : ∀ c ∈ flat r, Q c := by
  rw [(lay_flat h).2]
  intro c hc
  simp only [List.mem_append] at hc
  rcases hc with (hc | hc) | hc
  · exact h1 c (List.mem_of_mem_take hc)
  · exact h2 c hc
  · exact h1 c (List.mem_of_mem_drop hc)
def semCpy (P : Program) (ob : List SO) (ts : List TypeId) (s x : SA) : Option (SA × List SO) :=
  match ts, s, x with
  | t :: _, .sc (.sl o off n _), .sc (.val (.string b)) =>
    match P.underlying t with
    | some (.slice e) =>
      match P.info? e, ob[o]? with
      | some ie, some (.cells e' ks sp) =>
        if ie.size = 1 then
          match sub ks off n with
          | some cs => if kindAll .u8 cs then (lay ks off [.f .u8 n (fun j => if j < b.size then ((b.data.getD j 0).toNat : Int) else selG cs j)]).map fun r => (.sc (.val (.int .i64 ((Nat.min b.size n : Nat) : Int))), ob.set o (.cells e' r sp)) else none
          | none => none
        else none
      | _, _ => none
    | _ => none
  | _, _, _ => none
theorem semCpy_sound {P : Program} {W0 : Base} {ρ : Rho} {tm : List SV} {ob : List SO} {a : Act} {w : World} (H : Holds W0 ρ tm ob a w) {ts : List TypeId} {ty : TypeId} {s x : SA} {z : SA} {ob1 : List SO} (h : semCpy P ob ts s x = some (z, ob1)) :
    ∃ w', (Builtin.copy_ ts.toArray ty #[s.conc ρ, x.conc ρ]).run P w = .ok (z.conc ρ) w' ∧ z.bnd (lv ρ ob1) ∧ Holds W0 ρ tm ob1 a w' := by
  unfold semCpy at h
  split at h
  case h_2 => cases h
  rename_i t ts' o off n cap b
  split at h
  case h_2 => cases h
  rename_i e hu
  split at h
  case h_2 => cases h
  rename_i ie e' ks sp hie ho
  obtain ⟨h1, ⟨rest, hrest, h2⟩, h3, h4⟩ := H.mem.obj o e' ks sp ho
  have hkl : (concs ρ ks).length = (flat ks).length := by simp [concs]
  split at h
  case isFalse => cases h
  rename_i hsz
  split at h
  case h_2 => cases h
  rename_i cs hcs
  split at h
  case isFalse => cases h
  rename_i ha
  obtain ⟨r, hr, he⟩ := Option.map_eq_some_iff.1 h
  simp only [Prod.mk.injEq] at he
  obtain ⟨rfl, rfl⟩ := he
  obtain ⟨l1, l2⟩ := lay_flat hr
  obtain ⟨s1, s2⟩ := concs_sub hcs ρ
  have hlen : (flat cs).length = n := by
    obtain ⟨a, b⟩ := sub_flat hcs
    rw [b]; simp; omega
  have hmin : Nat.min b.size n ≤ b.size := Nat.min_le_left _ _
  have hmin2 : Nat.min b.size n ≤ n := Nat.min_le_right _ _
  have hmin3 : Nat.min b.size n = b.size ∨ Nat.min b.size n = n := by
    rcases Nat.le_total b.size n with h | h
    · exact .inl (Nat.min_eq_left h)
    · exact .inr (Nat.min_eq_right h)
  generalize hm : Nat.min b.size n = m at hmin hmin2 hmin3
  have hcells := data_extract b m hmin
  have hfl : ∀ g, (flat [SK.f .u8 n g]).length = n := fun g => by simp [flat, SK.cells]
  rw [hfl] at l1 l2
  have hst := run_storeCells_at (P := P) (ρ o) off e' ((List.range m).map fun j => Value.int .u8 ((b.data.getD j 0).toNat : Int)) 0 (concs ρ ks ++ rest).toArray w h2 (by simp; omega) (by
    intro v hv
    simp only [List.mem_map] at hv
    obtain ⟨j, _, rfl⟩ := hv
    rfl)
  have hnew : ((concs ρ ks ++ rest).toArray.toList.take (off + 0) ++ ((List.range m).map fun j => Value.int .u8 ((b.data.getD j 0).toNat : Int)) ++ (concs ρ ks ++ rest).toArray.toList.drop (off + 0 + ((List.range m).map fun j => Value.int .u8 ((b.data.getD j 0).toNat : Int)).length)) = concs ρ r ++ rest := by
    have hks : ∀ j, j < n → (concs ρ ks)[off + j]? = some (.int .u8 (selG cs j)) := by
      intro j hj
      have := selG_conc ha ρ (j := j) (by omega)
      rw [s2, List.getElem?_take, if_pos hj, List.getElem?_drop] at this
      exact this
    have hrl : concs ρ r = (concs ρ ks).take off ++ ((List.range n).map fun j => Value.int .u8 (if j < b.size then ((b.data.getD j 0).toNat : Int) else selG cs j)) ++ (concs ρ ks).drop (off + n) := by
      simp only [concs, l2, List.map_append, List.map_take, List.map_drop]
      congr 2
      simp [flat, SK.cells, Function.comp_def, SC.conc]
    rw [hrl]
    simp only [Nat.add_zero, List.length_map, List.length_range]
    rw [List.take_append_of_le_length (by omega), List.drop_append_of_le_length (by omega), List.append_assoc, List.append_assoc, List.append_assoc]
    congr 1
    have hsplit : (concs ρ ks).drop (off + m) = ((List.range (n - m)).map fun j => Value.int .u8 (selG cs (m + j))) ++ (concs ρ ks).drop (off + n) := by
      apply List.ext_getElem?
      intro j
      rw [List.getElem?_drop, List.getElem?_append]
      simp only [List.length_map, List.length_range]
      split
      · rename_i hj
        have := hks (m + j) (by omega)
        rw [← Nat.add_assoc] at this
        rw [this, List.getElem?_map, List.getElem?_range hj]; rfl
      · rename_i hj
        rw [List.getElem?_drop]
        congr 1
        omega
    have hmid : ((List.range n).map fun j => Value.int .u8 (if j < b.size then ((b.data.getD j 0).toNat : Int) else selG cs j)) = ((List.range m).map fun j => Value.int .u8 ((b.data.getD j 0).toNat : Int)) ++ ((List.range (n - m)).map fun j => Value.int .u8 (selG cs (m + j))) := by
      have e : n = m + (n - m) := by omega
      conv => lhs; rw [e, List.range_add]
      rw [List.map_append, List.map_map]
      congr 1
      · apply List.map_congr_left
        intro j hj
        simp only [List.mem_range] at hj
        rw [if_pos (by omega)]
      · apply List.map_congr_left
        intro j hj
        simp only [List.mem_range] at hj
        simp only [Function.comp_apply]
        rw [if_neg (by rcases hmin3 with e | e <;> omega)]
    rw [hsplit, hmid]
    simp only [List.append_assoc]
  have hnew' := congrArg List.toArray hnew
  rw [hnew'] at hst
  refine ⟨_, ?_, trivial, (H.turned ho hrest h2 (bnd_flat.2 (lay_all hr (bnd_flat.1 h3) bnd_f)) (fit_flat.2 (lay_all hr (fit_flat.1 h4) fit_f)))⟩
  rw [show SA.conc ρ (.sc (.sl o off n cap)) = .slice (some ⟨ρ o, off, none⟩) n cap from rfl, show SA.conc ρ (.sc (.val (.string b))) = .string b from rfl]
  have hc2 : List.take m (Array.map (fun c => Value.int .u8 c.toNat) b.data).toList = (List.range m).map fun j => Value.int .u8 ((b.data.getD j 0).toNat : Int) := by
    rw [← hcells]; simp
  generalize ((List.range m).map fun j => Value.int .u8 ((b.data.getD j 0).toNat : Int)) = news at hst hc2
  simp [-Array.toList_map, Builtin.copy_, run_underlying hu, Builtin.lenOf, Builtin.firstCells, run_sizeOf w hie, hm, hc2, goInt, SA.conc, SC.conc, hst]
theorem repKs_bnd {l : List SK} {n : Env} (h : ∀ k ∈ l, k.bnd n) : ∀ m, ∀ k ∈ repKs l m, k.bnd n
  | 0, k, hk => by simp [repKs] at hk
  | m + 1, k, hk => by
    rw [repKs, List.mem_append] at hk
    rcases hk with hk | hk
    · exact h k hk
    · exact repKs_bnd h m k hk
theorem semMake_sound {P : Program} {t e : TypeId} {kl kc : IntKind} {x y : Int} {ks : List SK} (hu : P.underlying t = some (.slice e)) (h : semMake P e x y = some ks) (ρ : Rho) (w : World) :
    (Instr.makeSlice t (.int kl x) (.int kc y)).run P w = .ok (.slice (some ⟨w.heap.size, 0, none⟩) x.toNat y.toNat) (w.alloc (.cells (concs ρ ks).toArray e)) ∧ ∀ n : Env, ∀ k ∈ ks, k.bnd n := by
  unfold semMake at h
  split at h
  case h_2 => cases h
  rename_i ie zk hie hzk
  split at h
  case isFalse => cases h
  rename_i hc
  obtain ⟨⟨c1, c2⟩, ⟨c3, c4⟩, c5, c6⟩ := hc
  simp only [Option.some.injEq] at h
  subst h
  have hzb := hzk
  unfold zeroKs at hzk
  split at hzk
  case h_2 => cases hzk
  rename_i z hz
  rw [hie] at hz
  simp only [Option.bind_some] at hz
  simp only [Option.some.injEq] at hzk
  have hcz : concs ρ zk = z.cells.toList := by rw [← hzk, litCs_conc]
  have hsz : z.cells.size = ie.size := by
    have := congrArg List.length hcz
    simp only [concs, List.length_map, Array.length_toList] at this
    omega
  refine ⟨?_, fun n => repKs_bnd (zeroKs_bnd hzb n) _⟩
  have hr := run_makeSlice (P := P) w t e ie z hu hie hz kl kc x y c1 c2 c3 c4 c5
  rw [hr]
  congr 3
  apply Array.ext'
  unfold madeCells
  rw [← hsz, rows_zero, concs_rep, hcz]
def semMakeW (P : Program) (ob : List SO) (id : Nat) (e : TypeId) (x y : Int) : Option (List Prop × Nat × List SO) :=
  match P.info? e, zeroKs P e with
  | some ie, some zk => if (flat zk).length = ie.size ∧ (flat zk).all bareC = true ∧ 0 < ie.size then
      (place ob id (.row e ie.size x.toNat (fun _ c => (flat zk).getD c (.bit false)) ((y.toNat - x.toNat) * ie.size))).map fun ob' => ([0 ≤ x ∧ x ≤ y ∧ (ie.bytes : Int) * y ≤ 281474976710656 ∧ y ≤ 9223372036854775807], ie.size, ob')
    else none
  | _, _ => none
theorem rep_rowc (l : List SC) (n : Nat) : (List.replicate n (l.map (SC.conc Rho.nil))).flatten = rowc l.length n (fun _ c => l.getD c (.bit false)) := by
  have h1 : ∀ l : List SC, l.map (SC.conc Rho.nil) = (List.range l.length).map fun c => (l.getD c (.bit false)).conc Rho.nil := by
    intro l
    apply List.ext_getElem?
    intro j
    simp only [List.getElem?_map]
    rcases Nat.lt_or_ge j l.length with h | h
    · rw [List.getElem?_range h, List.getElem?_eq_getElem h]; simp [List.getD_eq_getElem?_getD, h]
    · rw [List.getElem?_eq_none h, List.getElem?_eq_none (by simpa using h)]; rfl
  show _ = (List.range n).flatMap fun _ => (List.range l.length).map fun c => (l.getD c (.bit false)).conc Rho.nil
  rw [← h1]
  generalize l.map (SC.conc Rho.nil) = L
  induction n with
  | zero => rfl
  | succ n ih => rw [List.replicate_succ, List.flatten_cons, ih, List.range_succ_eq_map, List.flatMap_cons, List.flatMap_map]
theorem semMakeW_sound {P : Program} {W0 : Base} {ρ : Rho} {tm : List SV} {ob ob' : List SO} {a : Act} {w : World} (H : Holds W0 ρ tm ob a w) {t e : TypeId} {kl kc : IntKind} {id : Nat} {x y : Int} {ps : List Prop} {k : Nat} (hu : P.underlying t = some (.slice e)) (h : semMakeW P ob id e x y = some (ps, k, ob')) (hp : Ok ps) :
    ∃ w', (Instr.makeSlice t (.int kl x) (.int kc y)).run P w = .ok (.slice (some ⟨w.heap.size, 0, none⟩) x.toNat y.toNat) w' ∧ Holds W0 (grown ρ id w.heap.size) tm ob' a w' ∧ live ob' id ∧ grown ρ id w.heap.size id = w.heap.size := by
  unfold semMakeW at h
  split at h
  case h_2 => cases h
  rename_i ie zk hie hzk
  split at h
  case isFalse => cases h
  rename_i hc
  obtain ⟨c1, c2, c3⟩ := hc
  obtain ⟨ob2, hpl, he⟩ := Option.map_eq_some_iff.1 h
  simp only [Prod.mk.injEq] at he
  obtain ⟨rfl, rfl, rfl⟩ := he
  obtain ⟨⟨p1, p2, p3, p4⟩, _⟩ := hp
  have hzk' := hzk
  unfold zeroKs at hzk'
  split at hzk'
  case h_2 => cases hzk'
  rename_i z hz
  rw [hie] at hz
  simp only [Option.bind_some] at hz
  simp only [Option.some.injEq] at hzk'
  have hcz : concs Rho.nil zk = z.cells.toList := by rw [← hzk', litCs_conc]
  have hsz : z.cells.size = ie.size := by
    have := congrArg List.length hcz
    simp only [concs, List.length_map, Array.length_toList] at this
    omega
  have hr := run_make (P := P) w t e ie z hu hie hz kl kc x y p1 p2 p3 p4
  have hok : (SO.row e ie.size x.toNat (fun _ c => (flat zk).getD c (.bit false)) ((y.toNat - x.toNat) * ie.size)).ok (lv ρ ob) := by
    intro i hi c hc
    have hm : (flat zk).getD c (.bit false) ∈ flat zk := by
      rw [List.getD_eq_getElem?_getD, List.getElem?_eq_getElem (by omega)]; exact List.getElem_mem _
    exact bareC_ok (List.all_eq_true.1 c2 _ hm) (flat_bnd (zeroKs_bnd hzk _) _ hm)
  obtain ⟨H', h1, h2⟩ := H.placedO (x := .row e ie.size x.toNat (fun _ c => (flat zk).getD c (.bit false)) ((y.toNat - x.toNat) * ie.size)) (rest := rowc ie.size (y.toNat - x.toNat) (fun _ c => (flat zk).getD c (.bit false))) rfl (by rw [rowc_length]; rfl) hpl hok
  refine ⟨_, hr, ?_, h1, h2⟩
  have e1 : madeCells z.cells (y.toNat * ie.size) = ((SO.row e ie.size x.toNat (fun _ c => (flat zk).getD c (.bit false)) ((y.toNat - x.toNat) * ie.size)).vals ρ ++ rowc ie.size (y.toNat - x.toNat) (fun _ c => (flat zk).getD c (.bit false))).toArray := by
    apply Array.ext'
    unfold madeCells
    rw [← hsz, rows_zero, ← hcz]
    show _ = rowc z.cells.size x.toNat _ ++ rowc z.cells.size _ _
    rw [hsz, ← c1, ← rep_rowc, ← rep_rowc, ← List.flatten_append, List.replicate_append_replicate]
    rw [show x.toNat + (y.toNat - x.toNat) = y.toNat by omega]
    rfl
  rw [e1]
  exact H'
def semOp (P : Program) (cx : Cx) (id : Nat) (tm : List SV) (ob : List SO) (o : Oper) : Option (List Prop × SV × List SO) :=
  match o.op with
  | .move x | .assign x => some ([], ev tm x, ob)
  | .alloc t =>
    match zeroKs P t with
    | some ks => if ks.all SK.fit then (place ob id (.cells t ks 0)).map fun ob' => ([], .one (.sc (.ptr id 0)), ob') else none
    | none => none
  | .box t x =>
    match rd tm x with
    | some (ps, y) => if (toKs y).all SK.fit then (place ob id (.cells t (toKs y) 0)).map fun ob' => (ps, .one (.sc (.ptr id 0)), ob') else none
    | none => none
  | .buildSlice t len parts =>
    match rdP tm parts.toList, P.underlying t with
    | some (ps, ys), some (.slice e) => match semRow P e len ys with
      | some ks => if ks.all SK.fit then (place ob id (.cells e ks 0)).map fun ob' => (ps, .one (.sc (.sl id 0 len len)), ob') else none
      | none => none
    | _, _ => none
  | .makeSlice t l c =>
    match rd tm l, rd tm c, P.underlying t with
    | some (ps, .sc (.num _ x)), some (qs, .sc (.num _ y)), some (.slice e) => match semMake P e x y with
      | some ks => if ks.all SK.fit then (place ob id (.cells e ks 0)).map fun ob' => (ps ++ qs, .one (.sc (.sl id 0 x.toNat y.toNat)), ob') else none
      | none => none
    | some (ps, xv), some (qs, yv), some (.slice e) => match asI xv, asI yv with
      | some (_, x), some (_, y) => (semMakeW P ob id e x y).map fun r => (ps ++ (qs ++ r.1), .one (.sc (.slw id r.2.1 0 x.toNat y.toNat)), r.2.2)
      | _, _ => none
    | _, _, _ => none
  | .load t x =>
    match rd tm x with
    | some (ps, y) => (semLoad P cx.gl ob t y).map fun z => (ps ++ z.1, .one z.2, ob)
    | none => none
  | .store t x y =>
    match rd tm x, rd tm y with
    | some (ps, xv), some (qs, yv) => (semStore P ob t xv yv).map fun r => (ps ++ (qs ++ r.1), .one (.sc (.val undef)), r.2)
    | _, _ => none
  | .call { callee := .value x, args, .. } =>
    match calleeOf tm x, rdL tm args.toList with
    | some (p0, f, caps), some (ps, ys) => match cx.get f with
      | some s => match s (ys ++ caps.map ofPV) with
        | some (qs, sv) => some (p0 ++ (ps ++ qs), sv, ob)
        | none => none
      | none => none
    | _, _ => none
  | .call { callee := .builtin .copy, args, argTypes } =>
    match rdL tm args.toList with
    | some (ps, [s, x]) => (semCpy P ob argTypes.toList s x).map fun r => (ps, .one r.1, r.2)
    | _ => none
  | .convert s d x => match isBytes P s d with
    | true => match rd tm x with
      | some (ps, y) => (semStr ob y).map fun z => (ps ++ z.1, .one z.2, ob)
      | none => none
    | false => (semVal P tm o).map fun r => (r.1, .one r.2, ob)
  | _ => (semVal P tm o).map fun r => (r.1, .one r.2, ob)
theorem lv_all {ρ : Rho} {ob : List SO} : Env.le (lv ρ ob) ⟨fun _ => True, ρ.fz⟩ := ⟨fun _ _ => True.intro, fun _ _ _ k => k⟩
theorem semOp_sound {cx : Cx} (hcx : CxOK P cx) (hgl : cx.gl = W0.gl) (H : Holds W0 ρ tm ob a w) {id : Nat} {o : Oper} {ps : List Prop} {sv : SV} {ob' : List SO} (h : semOp P cx id tm ob o = some (ps, sv, ob')) (hp : Ok ps)
    {K : Act → World → Prop} {Q : Exit → Act → World → Prop} (hK : ∀ ρ' a' w', Holds W0 ρ' (put tm o.dst sv) ob' a' w' → K a' w') : o.wp P a w K Q := by
  unfold semOp at h
  split at h
  · rename_i x ho
    simp only [Option.some.injEq, Prod.mk.injEq] at h
    obtain ⟨rfl, rfl, rfl⟩ := h
    unfold Oper.wp execOp
    simp only [ho, Sem.run_pure, Oper.upon]
    exact hK ρ _ _ (H.put o.dst (H.ev x).1 (H.ev x).2)
  · rename_i x ho
    simp only [Option.some.injEq, Prod.mk.injEq] at h
    obtain ⟨rfl, rfl, rfl⟩ := h
    unfold Oper.wp execOp
    simp only [ho, Sem.run_pure, Oper.upon]
    exact hK ρ _ _ (H.put o.dst (H.ev x).1 (H.ev x).2)
  · rename_i t ho
    split at h
    case h_2 => cases h
    rename_i ks hz
    split at h
    case isFalse => cases h
    rename_i hf
    obtain ⟨ob2, hpl, he⟩ := Option.map_eq_some_iff.1 h
    simp only [Prod.mk.injEq] at he
    obtain ⟨rfl, rfl, rfl⟩ := he
    obtain ⟨z, hz1, hz2⟩ := run_zero hz w
    unfold Oper.wp execOp
    simp only [ho, Sem.run_bind, Instr.alloc, hz1, Result.andThen_ok, newVar, newRow, run_newObj, Sem.run_pure, hz2 ρ, Oper.upon]
    exact hK _ _ _ (H.place hpl (zeroKs_bnd hz _) (fun k hk => List.all_eq_true.1 hf k hk) o.dst)
  · rename_i t x ho
    split at h
    case h_2 => cases h
    rename_i p1 y hy
    split at h
    case isFalse => cases h
    rename_i hf
    obtain ⟨ob2, hpl, he⟩ := Option.map_eq_some_iff.1 h
    simp only [Prod.mk.injEq] at he
    obtain ⟨rfl, rfl, rfl⟩ := he
    obtain ⟨ex, bx⟩ := rd_sound hy hp H
    unfold Oper.wp execOp
    simp only [ho, Sem.run_bind, Instr.box, ex, newVar, newRow, toKs_conc, run_newObj, Result.andThen_ok, Sem.run_pure, Oper.upon]
    exact hK _ _ _ (H.place hpl (toKs_bnd bx) (fun k hk => List.all_eq_true.1 hf k hk) o.dst)
  · rename_i t len parts ho
    split at h
    case h_2 => cases h
    rename_i p1 ys e hy hu
    split at h
    case h_2 => cases h
    rename_i ks hr
    split at h
    case isFalse => cases h
    rename_i hf
    obtain ⟨ob2, hpl, he⟩ := Option.map_eq_some_iff.1 h
    simp only [Prod.mk.injEq] at he
    obtain ⟨rfl, rfl, rfl⟩ := he
    obtain ⟨e1, b1⟩ := rdP_sound H hy hp
    obtain ⟨r1, r2⟩ := semRow_sound hu hr ρ w
    have hparts : (parts.map fun x => (x.1, a.eval x.2)) = (ys.map fun p => (p.1, p.2.conc ρ)).toArray := by
      apply Array.ext'
      rw [Array.toList_map, e1]
    obtain ⟨H', hl, hg⟩ := H.placed (rest := []) hpl (r2 _ b1) (fun k hk => List.all_eq_true.1 hf k hk)
    rw [List.append_nil] at H'
    unfold Oper.wp execOp
    simp only [ho, hparts, Sem.run_bind, r1, Result.andThen_ok, Sem.run_pure, Oper.upon]
    exact hK _ _ _ (H'.put o.dst (sv := .one (.sc (.sl id 0 len len))) (by simp [SV.rep, SA.conc, SC.conc, hg]) hl)
  · rename_i t l c ho
    split at h
    case h_3 => cases h
    case h_2 =>
      rename_i p1 xv p2 yv e _ hl hc hu
      split at h
      case h_2 => cases h
      rename_i k1 x k2 y hx hy
      obtain ⟨⟨qs, k, ob2⟩, hm, he⟩ := Option.map_eq_some_iff.1 h
      simp only [Prod.mk.injEq] at he
      obtain ⟨rfl, rfl, rfl⟩ := he
      obtain ⟨o1, o2⟩ := Ok.append.1 hp
      obtain ⟨o2, o3⟩ := Ok.append.1 o2
      obtain ⟨el, _⟩ := rd_sound hl o1 H
      obtain ⟨ec, _⟩ := rd_sound hc o2 H
      rw [asI_sound hx ρ] at el
      rw [asI_sound hy ρ] at ec
      obtain ⟨w', r1, H', hlv, hg⟩ := semMakeW_sound (kl := k1) (kc := k2) H hu hm o3
      unfold Oper.wp execOp
      simp only [ho, el, ec, Sem.run_bind, r1, Result.andThen_ok, Sem.run_pure, Oper.upon]
      exact hK _ _ _ (H'.put o.dst (sv := .one (.sc (.slw id k 0 x.toNat y.toNat))) (by simp [SV.rep, SA.conc, SC.conc, hg]) hlv)
    rename_i p1 k1 x p2 k2 y e hl hc hu
    split at h
    case h_2 => cases h
    rename_i ks hr
    split at h
    case isFalse => cases h
    rename_i hf
    obtain ⟨ob2, hpl, he⟩ := Option.map_eq_some_iff.1 h
    simp only [Prod.mk.injEq] at he
    obtain ⟨rfl, rfl, rfl⟩ := he
    obtain ⟨o1, o2⟩ := Ok.append.1 hp
    obtain ⟨el, _⟩ := rd_sound hl o1 H
    obtain ⟨ec, _⟩ := rd_sound hc o2 H
    obtain ⟨r1, r2⟩ := semMake_sound (kl := k1) (kc := k2) hu hr ρ w
    obtain ⟨H', hlv, hg⟩ := H.placed (rest := []) hpl (r2 _) (fun k hk => List.all_eq_true.1 hf k hk)
    rw [List.append_nil] at H'
    have el' : a.eval l = .int k1 x := el
    have ec' : a.eval c = .int k2 y := ec
    unfold Oper.wp execOp
    simp only [ho, el', ec', Sem.run_bind, r1, Result.andThen_ok, Sem.run_pure, Oper.upon]
    exact hK _ _ _ (H'.put o.dst (sv := .one (.sc (.sl id 0 x.toNat y.toNat))) (by simp [SV.rep, SA.conc, SC.conc, hg]) hlv)
  · rename_i t x ho
    split at h
    case h_2 => cases h
    rename_i p1 y hy
    obtain ⟨z, hz, he⟩ := Option.map_eq_some_iff.1 h
    simp only [Prod.mk.injEq] at he
    obtain ⟨rfl, rfl, rfl⟩ := he
    obtain ⟨o1, o2⟩ := Ok.append.1 hp
    obtain ⟨ex, bx⟩ := rd_sound hy o1 H
    obtain ⟨e, b⟩ := semLoad_sound (P := P) H bx hz (.inr hgl) o2
    unfold Oper.wp execOp
    simp only [ho, Sem.run_bind, ex, e, Result.andThen_ok, Sem.run_pure, Oper.upon]
    exact hK ρ _ _ (H.put o.dst (sv := .one z.2) rfl b)
  · rename_i t x y ho
    split at h
    case h_2 => cases h
    rename_i p1 xv p2 yv hx hy
    obtain ⟨r, hs, he⟩ := Option.map_eq_some_iff.1 h
    simp only [Prod.mk.injEq] at he
    obtain ⟨rfl, rfl, rfl⟩ := he
    obtain ⟨o1, o2⟩ := Ok.append.1 hp
    obtain ⟨o2, o3⟩ := Ok.append.1 o2
    obtain ⟨ex, bx⟩ := rd_sound hx o1 H
    obtain ⟨ey, bY⟩ := rd_sound hy o2 H
    obtain ⟨w', e, H'⟩ := semStore_sound (P := P) H bY hs o3
    unfold Oper.wp execOp
    simp only [ho, Sem.run_bind, ex, ey, e, Result.andThen_ok, Sem.run_pure, Oper.upon]
    exact hK ρ _ _ (H'.put o.dst (sv := .one (.sc (.val undef))) rfl trivial)
  · rename_i x args argTypes ho
    split at h
    case h_2 => cases h
    rename_i p0 f caps p1 ys h0 h1
    split at h
    case h_2 => cases h
    rename_i s hs
    split at h
    case h_2 => cases h
    rename_i p2 sv' h2
    simp only [Option.some.injEq, Prod.mk.injEq] at h
    obtain ⟨rfl, rfl, rfl⟩ := h
    obtain ⟨o0, o1⟩ := Ok.append.1 hp
    obtain ⟨o1, o2⟩ := Ok.append.1 o1
    obtain ⟨ef, bf⟩ := calleeOf_sound H h0 o0
    obtain ⟨e1, b1⟩ := rdL_sound H h1 o1
    obtain ⟨b0, hfn⟩ := Cx.get_ok hcx hs _ p2 sv' h2 o2
    have hargs : args.map a.eval = (ys.map (SA.conc ρ)).toArray := by
      apply Array.ext'
      rw [Array.toList_map, e1]
    have hcaps : (caps.map ofPV).map (SA.conc ρ) = caps.map (PV.conc ρ) := by
      rw [List.map_map]; exact List.map_congr_left fun p _ => ofPV_conc ρ p
    have hrun : (execOp a.eval o).run P w = (callFunc f ((ys ++ caps.map ofPV).map (SA.conc ρ)).toArray).run P w := by
      rw [run_call_fn ho ef hargs, List.map_append, hcaps]
    unfold Oper.wp
    rw [hrun]
    have hall : ∀ x ∈ ys ++ caps.map ofPV, x.bnd ⟨fun _ => True, ρ.fz⟩ := by
      intro x hx
      rcases List.mem_append.1 hx with hx | hx
      · exact SA.bnd_mono lv_all (b1 x hx)
      · obtain ⟨p, hp, rfl⟩ := List.mem_map.1 hx
        exact SA.bnd_mono lv_all (ofPV_bnd (bf p hp))
    rcases hfn ρ w (fun b o v k => (H.mem.frz b o v k).1) (by rw [hgl]; exact H.gl) hall with ⟨r, hc⟩ | ⟨v, r, hv⟩
    · rw [r, Oper.upon_enter]
      refine hc.mono ?_
      rintro e w' ⟨v, rfl, hv, hbl⟩
      refine hK ρ _ _ (Holds.put ⟨H.size, H.rep, H.bnd, H.defers, ?_, H.mem.grow hbl (Agree.refl _ _) rfl, H.kept, H.gl, H.fzs, H.keeps.grow hbl⟩ o.dst hv (SV.bnd_mono none0_le b0))
      exact H.below.trans (hbl.mono H.below.size)
    · rw [r, Oper.upon_value]
      exact hK ρ _ _ (H.put o.dst hv (SV.bnd_mono none0_le b0))
  · rename_i args argTypes ho
    split at h
    case h_2 => cases h
    rename_i p1 s x h1
    obtain ⟨r, hr, he⟩ := Option.map_eq_some_iff.1 h
    simp only [Prod.mk.injEq] at he
    obtain ⟨rfl, rfl, rfl⟩ := he
    obtain ⟨e1, b1⟩ := rdL_sound H h1 hp
    obtain ⟨w', hrun, hb, H'⟩ := semCpy_sound (ty := o.type) H hr
    rw [Array.toArray_toList] at hrun
    have hargs : args.map a.eval = #[s.conc ρ, x.conc ρ] := by
      apply Array.ext'
      rw [Array.toList_map, e1]; rfl
    unfold Oper.wp execOp
    simp only [ho, resolve, hargs, Sem.run_bind, Sem.run_pure, Result.andThen_ok, invoke, builtin, hrun, Oper.upon]
    exact hK ρ _ _ (H'.put o.dst (sv := .one r.1) rfl hb)
  · rename_i s d x ho
    split at h
    · rename_i hb
      split at h
      case h_2 => cases h
      rename_i p1 y hy
      obtain ⟨z, hz, he⟩ := Option.map_eq_some_iff.1 h
      simp only [Prod.mk.injEq] at he
      obtain ⟨rfl, rfl, rfl⟩ := he
      obtain ⟨o1, o2⟩ := Ok.append.1 hp
      obtain ⟨ex, bx⟩ := rd_sound hy o1 H
      obtain ⟨e, b⟩ := semStr_sound (P := P) H hb bx hz o2
      unfold Oper.wp execOp
      simp only [ho, Sem.run_bind, ex, e, Result.andThen_ok, Sem.run_pure, Oper.upon]
      exact hK ρ _ _ (H.put o.dst (sv := .one z.2) rfl b)
    · obtain ⟨r, hr, he⟩ := Option.map_eq_some_iff.1 h
      simp only [Prod.mk.injEq] at he
      obtain ⟨rfl, rfl, rfl⟩ := he
      obtain ⟨e, b⟩ := semVal_sound (P := P) H hr hp
      unfold Oper.wp
      rw [e, Oper.upon_value]
      exact hK ρ _ _ (H.put o.dst (sv := .one r.2) rfl b)
  · obtain ⟨r, hr, he⟩ := Option.map_eq_some_iff.1 h
    simp only [Prod.mk.injEq] at he
    obtain ⟨rfl, rfl, rfl⟩ := he
    obtain ⟨e, b⟩ := semVal_sound (P := P) H hr hp
    unfold Oper.wp
    rw [e, Oper.upon_value]
    exact hK ρ _ _ (H.put o.dst (sv := .one r.2) rfl b)
end
end Go.Sx
end
