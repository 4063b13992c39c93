/-
  A calculus of symbolic states for walks over translated Go code, part 8: whatever operation, under its guard; a region.
-/
import Derived.Test.YtdcnlghfgkkcoabSx7
namespace Go.Sx
open Go.RowKit

/-- What a call of a function comes to: of its arguments, what is owed and what it gives. -/
abbrev FSpec := List SA → Option (List Prop × SV)
abbrev Cx := List (Nat × FSpec)
def Cx.get (cx : Cx) (f : Nat) : Option FSpec :=
  match cx with
  | [] => none
  | (g, s) :: r => if Nat.beq g f then some s else Cx.get r f

def FnOK (P : Program) (f : Nat) (s : FSpec) : Prop :=
  ∀ args ps sv, s args = some (ps, sv) → Ok ps → sv.bnd none0 ∧ ∀ (ρ : Nat → Nat) (w : World),
    ((callFunc f (args.map (SA.conc ρ)).toArray).run P w = .ok (.enter f (args.map (SA.conc ρ)).toArray) w ∧
      Calls P f (args.map (SA.conc ρ)).toArray w fun e w' => ∃ v, e = .returned v ∧ sv.rep ρ v ∧ Below w.heap.size w w') ∨
    ∃ v, (callFunc f (args.map (SA.conc ρ)).toArray).run P w = .ok (.value v) w ∧ sv.rep ρ v
def CxOK (P : Program) (cx : Cx) : Prop := ∀ p ∈ cx, FnOK P p.1 p.2
theorem Cx.get_ok {P : Program} : ∀ {cx : Cx} {f : Nat} {s : FSpec}, CxOK P cx → cx.get f = some s → FnOK P f s
  | [], _, _, _, h => by simp [Cx.get] at h
  | (g, s') :: r, f, s, hc, h => by
    simp only [Cx.get] at h
    split at h
    · rename_i hg
      simp only [Option.some.injEq] at h; subst h
      have : g = f := Nat.eq_of_beq_eq_true hg
      subst this
      exact hc (g, s') (by simp)
    · exact Cx.get_ok (fun p hp => hc p (by simp [hp])) h

def rd1 (tm : List SV) (x : Operand) (f : SA → VR) : VR :=
  match rd tm x with
  | some (ps, y) => match f y with
    | some (qs, z) => some (ps ++ qs, z)
    | none => none
  | none => none
def rd2 (tm : List SV) (x y : Operand) (f : SA → SA → VR) : VR := rd1 tm x fun a => rd1 tm y fun b => f a b
theorem rd1_sound {tm : List SV} {x : Operand} {f : SA → VR} {ps : List Prop} {z : SA} (h : rd1 tm x f = some (ps, z)) (hp : Ok ps) :
    ∃ p1 y p2, rd tm x = some (p1, y) ∧ f y = some (p2, z) ∧ Ok p1 ∧ Ok p2 := by
  unfold rd1 at h
  split at h
  · rename_i p1 y hy
    split at h
    · rename_i p2 z' hz
      simp only [Option.some.injEq, Prod.mk.injEq] at h
      obtain ⟨rfl, rfl⟩ := h
      obtain ⟨o1, o2⟩ := Ok.append.1 hp
      exact ⟨p1, y, p2, hy, hz, o1, o2⟩
    · cases h
  · cases h

def pickRes (b bx by' : Bool) (xv yv : SA) : SA :=
  match yv, xv with
  | .sc (.bit false), _ => .sc (.val (.bool (b && bx)))
  | _, .sc (.bit true) => .sc (.val (.bool (b || by')))
  | _, _ => .sc (.val (.bool (if b then bx else by')))
theorem pickRes_sound {b bx by' : Bool} {xv yv : SA} (hx : asB xv = some bx) (hy : asB yv = some by') (ρ : Nat → Nat) (n : Nat → Prop) :
    (pickRes b bx by' xv yv).conc ρ = .bool (if b then bx else by') ∧ (pickRes b bx by' xv yv).bnd n := by
  unfold pickRes
  split
  · simp only [asB, Option.some.injEq] at hy
    subst hy
    refine ⟨?_, trivial⟩
    cases b <;> rfl
  · simp only [asB, Option.some.injEq] at hx
    subst hx
    refine ⟨?_, trivial⟩
    cases b <;> rfl
  · exact ⟨rfl, trivial⟩
/-- '&&' and '||': the second one counts, or the first one says it. -/
def semPick (tm : List SV) (c x y : Operand) : VR :=
  rd1 tm c fun cv =>
    match cv with
    | .sc (.bit true) => rd1 tm x fun z => some ([], z)
    | .sc (.bit false) => rd1 tm y fun z => some ([], z)
    | .sc (.val (.bool b)) =>
      match rd tm x, rd tm y with
      | some (p1, xv), some (p2, yv) =>
        match asB xv, asB yv with
        | some bx, some by' =>
          some (p1.map (fun p => b = true → p) ++ p2.map (fun p => b = false → p), pickRes b bx by' xv yv)
        | _, _ => none
      | _, _ => none
    | _ => none
theorem Ok_map {ps : List Prop} {q : Prop} (h : Ok (ps.map fun p => q → p)) (hq : q) : Ok ps := by
  induction ps with
  | nil => trivial
  | cons p r ih => exact ⟨h.1 hq, ih h.2⟩

def rdL (tm : List SV) : List Operand → Option (List Prop × List SA)
  | [] => some ([], [])
  | x :: r =>
    match rd tm x, rdL tm r with
    | some (ps, y), some (qs, ys) => some (ps ++ qs, y :: ys)
    | _, _ => none
def rdP (tm : List SV) : List (Nat × Operand) → Option (List Prop × List (Nat × SA))
  | [] => some ([], [])
  | (i, x) :: r =>
    match rd tm x, rdP tm r with
    | some (ps, y), some (qs, ys) => some (ps ++ qs, (i, y) :: ys)
    | _, _ => none

section
variable {W0 : World} {ρ : Nat → Nat} {tm : List SV} {ob : List SO} {a : Act} {w : World}
theorem rdL_sound (H : Holds W0 ρ tm ob a w) : ∀ {xs : List Operand} {ps : List Prop} {ys : List SA}, rdL tm xs = some (ps, ys) → Ok ps → xs.map a.eval = ys.map (SA.conc ρ) ∧ ∀ y ∈ ys, y.bnd (live ob)
  | [], ps, ys, h, _ => by simp only [rdL, Option.some.injEq, Prod.mk.injEq] at h; obtain ⟨rfl, rfl⟩ := h; simp
  | x :: r, ps, ys, h, hp => by
    simp only [rdL] at h
    split at h
    · rename_i p1 y p2 ys' h1 h2
      simp only [Option.some.injEq, Prod.mk.injEq] at h
      obtain ⟨rfl, rfl⟩ := h
      obtain ⟨o1, o2⟩ := Ok.append.1 hp
      obtain ⟨e1, b1⟩ := rd_sound h1 o1 H
      obtain ⟨e2, b2⟩ := rdL_sound H h2 o2
      exact ⟨by simp [e1, e2], fun z hz => by rcases List.mem_cons.1 hz with rfl | hz; exact b1; exact b2 z hz⟩
    · cases h
theorem rdP_sound (H : Holds W0 ρ tm ob a w) : ∀ {xs : List (Nat × Operand)} {ps : List Prop} {ys : List (Nat × SA)}, rdP tm xs = some (ps, ys) → Ok ps →
    xs.map (fun p => (p.1, a.eval p.2)) = ys.map (fun p => (p.1, p.2.conc ρ)) ∧ ∀ y ∈ ys, y.2.bnd (live ob)
  | [], ps, ys, h, _ => by simp only [rdP, Option.some.injEq, Prod.mk.injEq] at h; obtain ⟨rfl, rfl⟩ := h; simp
  | (i, x) :: r, ps, ys, h, hp => by
    simp only [rdP] at h
    split at h
    · rename_i p1 y p2 ys' h1 h2
      simp only [Option.some.injEq, Prod.mk.injEq] at h
      obtain ⟨rfl, rfl⟩ := h
      obtain ⟨o1, o2⟩ := Ok.append.1 hp
      obtain ⟨e1, b1⟩ := rd_sound h1 o1 H
      obtain ⟨e2, b2⟩ := rdP_sound H h2 o2
      exact ⟨by simp [e1, e2], fun z hz => by rcases List.mem_cons.1 hz with rfl | hz; exact b1; exact b2 z hz⟩
    · cases h
end

/-- The length of what is long. -/
def semLen (P : Program) (ts : Array TypeId) (t : TypeId) (xs : List SA) : VR :=
  match xs with
  | [x] =>
    match asV x with
    | some v => (evalS P (Builtin.len_ ts t #[v])).map fun r => ([], ofV (isLit x) r)
    | none => none
  | _ => none

/-- An operation that makes one value and leaves memory alone. -/
def semVal (P : Program) (tm : List SV) (o : Oper) : VR :=
  match o.op with
  | .binOp op t x y _ => rd2 tm x y (semBin P op t x y)
  | .unOp op _ x => rd1 tm x (semUn P op)
  | .convert s d x => rd1 tm x (semConv P s d)
  | .index t x i => rd2 tm x i (semIndex P t)
  | .field t x f => rd1 tm x (semField P t f)
  | .indexAddr t x i => rd2 tm x i (semIdxAddr P t)
  | .fieldAddr t x f => rd1 tm x (semFldAddr P t f)
  | .nilCheck x => rd1 tm x fun y => match y with
    | .sc (.ptr o off) => some ([], .sc (.ptr o off))
    | _ => none
  | .pick c x y => semPick tm c x y
  | .extract x i => match ev tm x with
    | .tup xs => (xs[i]?).map fun y => ([], y)
    | _ => none
  | .build t parts => match rdP tm parts.toList with
    | some (ps, ys) => match semBuild P t ys with
      | some (qs, z) => some (ps ++ qs, z)
      | none => none
    | none => none
  | .call { callee := .builtin .len, args, argTypes } => match rdL tm args.toList with
    | some (ps, ys) => match semLen P argTypes o.type ys with
      | some (qs, z) => some (ps ++ qs, z)
      | none => none
    | none => none
  | _ => none

section
variable {P : Program} {W0 : World} {ρ : Nat → Nat} {tm : List SV} {ob : List SO} {a : Act} {w : World}

theorem semPick_sound (H : Holds W0 ρ tm ob a w) {c x y : Operand} {ps : List Prop} {z : SA} (h : semPick tm c x y = some (ps, z)) (hp : Ok ps) :
    (do pure (Next.value (if ← asBool (a.eval c) then a.eval x else a.eval y)) : Sem Next).run P w = .ok (.value (z.conc ρ)) w ∧ z.bnd (live ob) := by
  obtain ⟨p1, cv, p2, h1, h2, o1, o2⟩ := rd1_sound h hp
  have ec := (rd_sound h1 o1 H).1
  rw [ec]
  clear ec
  split at h2
  · obtain ⟨q1, xv, q2, g1, g2, r1, r2⟩ := rd1_sound h2 o2
    simp only [Option.some.injEq, Prod.mk.injEq] at g2
    obtain ⟨rfl, rfl⟩ := g2
    obtain ⟨ex, bx⟩ := rd_sound g1 r1 H
    simp [SA.conc, SC.conc, asBool, ex]
    exact bx
  · obtain ⟨q1, xv, q2, g1, g2, r1, r2⟩ := rd1_sound h2 o2
    simp only [Option.some.injEq, Prod.mk.injEq] at g2
    obtain ⟨rfl, rfl⟩ := g2
    obtain ⟨ex, bx⟩ := rd_sound g1 r1 H
    simp [SA.conc, SC.conc, asBool, ex]
    exact bx
  · rename_i b
    split at h2
    case h_2 => cases h2
    rename_i q1 xv q2 yv hx hy
    split at h2
    case h_2 => cases h2
    rename_i bx bY hbx hby
    simp only [Option.some.injEq, Prod.mk.injEq] at h2
    obtain ⟨rfl, rfl⟩ := h2
    obtain ⟨r1, r2⟩ := Ok.append.1 o2
    have val : (do pure (Next.value (if ← asBool (SA.conc ρ (.sc (.val (.bool b)))) then a.eval x else a.eval y)) : Sem Next).run P w = .ok (.value (.bool (if b then bx else bY))) w := by
      cases b with
      | true =>
        obtain ⟨ex, _⟩ := rd_sound hx (Ok_map r1 rfl) H
        simp [SA.conc, SC.conc, asBool]
        rw [ex]; exact asB_sound hbx ρ
      | false =>
        obtain ⟨ey, _⟩ := rd_sound hy (Ok_map r2 rfl) H
        simp [SA.conc, SC.conc, asBool]
        rw [ey]; exact asB_sound hby ρ
    rw [val, (pickRes_sound hbx hby ρ (live ob)).1]
    exact ⟨rfl, (pickRes_sound hbx hby ρ (live ob)).2⟩
  · cases h2

theorem semVal_sound (H : Holds W0 ρ tm ob a w) {o : Oper} {ps : List Prop} {z : SA} (h : semVal P tm o = some (ps, z)) (hp : Ok ps) :
    (execOp a.eval o).run P w = .ok (.value (z.conc ρ)) w ∧ z.bnd (live ob) := by
  unfold semVal at h
  split at h
  · rename_i op t x y yt ho
    obtain ⟨p1, xv, p2, h1, h2, o1, o2⟩ := rd1_sound h hp
    obtain ⟨q1, yv, q2, g1, g2, r1, r2⟩ := rd1_sound h2 o2
    obtain ⟨ex, _⟩ := rd_sound h1 o1 H
    obtain ⟨ey, _⟩ := rd_sound g1 r1 H
    obtain ⟨e, b⟩ := semBin_sound g2 r2 ρ (live ob) w
    refine ⟨?_, b⟩
    unfold execOp
    simp only [ho, ex, ey]
    rw [Sem.run_bind]
    erw [e]
    rfl
  · rename_i op t x ho
    obtain ⟨p1, xv, p2, h1, h2, o1, o2⟩ := rd1_sound h hp
    obtain ⟨ex, _⟩ := rd_sound h1 o1 H
    obtain ⟨e, b⟩ := semUn_sound h2 ρ (live ob) w
    refine ⟨?_, b⟩
    unfold execOp
    simp only [ho, ex, Sem.run_bind, e, Result.andThen_ok, Sem.run_pure]
  · rename_i s d x ho
    obtain ⟨p1, xv, p2, h1, h2, o1, o2⟩ := rd1_sound h hp
    obtain ⟨ex, _⟩ := rd_sound h1 o1 H
    obtain ⟨e, b⟩ := semConv_sound h2 ρ (live ob) w
    refine ⟨?_, b⟩
    unfold execOp
    simp only [ho, ex, Sem.run_bind, e, Result.andThen_ok, Sem.run_pure]
  · rename_i t x i ho
    obtain ⟨p1, xv, p2, h1, h2, o1, o2⟩ := rd1_sound h hp
    obtain ⟨q1, yv, q2, g1, g2, r1, r2⟩ := rd1_sound h2 o2
    obtain ⟨ex, bx⟩ := rd_sound h1 o1 H
    obtain ⟨ey, _⟩ := rd_sound g1 r1 H
    obtain ⟨e, b⟩ := semIndex_sound g2 r2 ρ (live ob) bx w
    refine ⟨?_, b⟩
    unfold execOp
    simp only [ho, ex, ey, Sem.run_bind, e, Result.andThen_ok, Sem.run_pure]
  · rename_i t x f ho
    obtain ⟨p1, xv, p2, h1, h2, o1, o2⟩ := rd1_sound h hp
    obtain ⟨ex, bx⟩ := rd_sound h1 o1 H
    obtain ⟨e, b⟩ := semField_sound h2 ρ (live ob) bx w
    refine ⟨?_, b⟩
    unfold execOp
    simp only [ho, ex, Sem.run_bind, e, Result.andThen_ok, Sem.run_pure]
  · rename_i t x i ho
    obtain ⟨p1, xv, p2, h1, h2, o1, o2⟩ := rd1_sound h hp
    obtain ⟨q1, yv, q2, g1, g2, r1, r2⟩ := rd1_sound h2 o2
    obtain ⟨ex, bx⟩ := rd_sound h1 o1 H
    obtain ⟨ey, _⟩ := rd_sound g1 r1 H
    obtain ⟨e, b⟩ := semIdxAddr_sound g2 ρ (live ob) bx w
    refine ⟨?_, b⟩
    unfold execOp
    simp only [ho, ex, ey, Sem.run_bind, e, Result.andThen_ok, Sem.run_pure]
  · rename_i t x f ho
    obtain ⟨p1, xv, p2, h1, h2, o1, o2⟩ := rd1_sound h hp
    obtain ⟨ex, bx⟩ := rd_sound h1 o1 H
    obtain ⟨e, b⟩ := semFldAddr_sound h2 ρ (live ob) bx w
    refine ⟨?_, b⟩
    unfold execOp
    simp only [ho, ex, Sem.run_bind, e, Result.andThen_ok, Sem.run_pure]
  · rename_i x ho
    obtain ⟨p1, xv, p2, h1, h2, o1, o2⟩ := rd1_sound h hp
    obtain ⟨ex, bx⟩ := rd_sound h1 o1 H
    split at h2
    · simp only [Option.some.injEq, Prod.mk.injEq] at h2
      obtain ⟨rfl, rfl⟩ := h2
      refine ⟨?_, bx⟩
      unfold execOp
      simp only [ho, ex, SA.conc, SC.conc, Sem.run_pure]
    · cases h2
  · rename_i c x y ho
    obtain ⟨e, b⟩ := semPick_sound (P := P) H h hp
    refine ⟨?_, b⟩
    unfold execOp
    simp only [ho]
    exact e
  · rename_i x i ho
    split at h
    · rename_i xs hx
      obtain ⟨y, hy, he⟩ := Option.map_eq_some_iff.1 h
      simp only [Prod.mk.injEq] at he
      obtain ⟨rfl, rfl⟩ := he
      have hr := (H.ev x).1
      have hb := (H.ev x).2
      rw [hx] at hr hb
      simp only [SV.rep] at hr
      refine ⟨?_, hb y (List.mem_of_getElem? hy)⟩
      unfold execOp
      simp only [ho, hr, Instr.extract, Sem.run_bind]
      simp [hy]
    · cases h
  · rename_i t parts ho
    split at h
    case h_2 => cases h
    rename_i p1 ys h1
    split at h
    case h_2 => cases h
    rename_i p2 z' h2
    simp only [Option.some.injEq, Prod.mk.injEq] at h
    obtain ⟨rfl, rfl⟩ := h
    obtain ⟨o1, o2⟩ := Ok.append.1 hp
    obtain ⟨e1, b1⟩ := rdP_sound H h1 o1
    obtain ⟨e, b⟩ := semBuild_sound h2 ρ (live ob) b1 w
    refine ⟨?_, b⟩
    unfold execOp
    have : (parts.map fun x => (x.1, a.eval x.2)) = (ys.map fun p => (p.1, p.2.conc ρ)).toArray := by
      apply Array.ext'
      rw [Array.toList_map, e1]
    simp only [ho, this, Sem.run_bind, e, Result.andThen_ok, Sem.run_pure]
  · rename_i args argTypes ho
    split at h
    case h_2 => cases h
    rename_i p1 ys h1
    split at h
    case h_2 => cases h
    rename_i p2 z' h2
    simp only [Option.some.injEq, Prod.mk.injEq] at h
    obtain ⟨rfl, rfl⟩ := h
    obtain ⟨o1, o2⟩ := Ok.append.1 hp
    obtain ⟨e1, b1⟩ := rdL_sound H h1 o1
    unfold semLen at h2
    split at h2
    case h_2 => cases h2
    rename_i x
    split at h2
    case h_2 => cases h2
    rename_i v hv
    simp only [Option.map_eq_some_iff, Prod.mk.injEq] at h2
    obtain ⟨r, hr, rfl, rfl⟩ := h2
    refine ⟨?_, ofV_bnd _ _ _⟩
    unfold execOp
    have : args.map a.eval = #[v] := by
      apply Array.ext'
      rw [Array.toList_map, e1]
      simp [asV_sound hv ρ]
    simp only [ho, resolve, this, Sem.run_bind, Sem.run_pure, Result.andThen_ok, invoke, builtin, evalS_sound w hr, ofV_conc]
  · cases h

/-- An operation: what is owed, what it gives, the blocks behind it. -/
def semOp (P : Program) (cx : Cx) (id : Nat) (tm : List SV) (ob : List SO) (o : Oper) : Option (List Prop × SV × List SO) :=
  match o.op with
  | .move x | .assign x => some ([], ev tm x, ob)
  | .alloc t =>
    match zeroKs P t with
    | some ks => if ks.all SK.fit then (place ob id (.cells t ks)).map fun ob' => ([], .one (.sc (.ptr id 0)), ob') else none
    | none => none
  | .box t x =>
    match rd tm x with
    | some (ps, y) => if (toKs y).all SK.fit then (place ob id (.cells t (toKs y))).map fun ob' => (ps, .one (.sc (.ptr id 0)), ob') else none
    | none => none
  | .load t x =>
    match rd tm x with
    | some (ps, y) => (semLoad P ob t y).map fun z => (ps, .one z, ob)
    | none => none
  | .store t x y =>
    match rd tm x, rd tm y with
    | some (ps, xv), some (qs, yv) => (semStore P ob t xv yv).map fun ob' => (ps ++ qs, .one (.sc (.val undef)), ob')
    | _, _ => none
  | .call { callee := .value (.func f), args, .. } =>
    match rdL tm args.toList, cx.get f with
    | some (ps, ys), some s => match s ys with
      | some (qs, sv) => some (ps ++ qs, sv, ob)
      | none => none
    | _, _ => none
  | _ => (semVal P tm o).map fun r => (r.1, .one r.2, ob)

theorem semOp_sound {cx : Cx} (hcx : CxOK P cx) (H : Holds W0 ρ tm ob a w) {id : Nat} {o : Oper} {ps : List Prop} {sv : SV} {ob' : List SO} (h : semOp P cx id tm ob o = some (ps, sv, ob')) (hp : Ok ps)
    {K : Act → World → Prop} {Q : Exit → Act → World → Prop} (hK : ∀ ρ' a' w', Holds W0 ρ' (put tm o.dst sv) ob' a' w' → K a' w') : o.wp P a w K Q := by
  unfold semOp at h
  split at h
  · rename_i x ho
    simp only [Option.some.injEq, Prod.mk.injEq] at h
    obtain ⟨rfl, rfl, rfl⟩ := h
    unfold Oper.wp execOp
    simp only [ho, Sem.run_pure, Oper.upon]
    exact hK ρ _ _ (H.put o.dst (H.ev x).1 (H.ev x).2)
  · rename_i x ho
    simp only [Option.some.injEq, Prod.mk.injEq] at h
    obtain ⟨rfl, rfl, rfl⟩ := h
    unfold Oper.wp execOp
    simp only [ho, Sem.run_pure, Oper.upon]
    exact hK ρ _ _ (H.put o.dst (H.ev x).1 (H.ev x).2)
  · rename_i t ho
    split at h
    case h_2 => cases h
    rename_i ks hz
    split at h
    case isFalse => cases h
    rename_i hf
    obtain ⟨ob2, hpl, he⟩ := Option.map_eq_some_iff.1 h
    simp only [Prod.mk.injEq] at he
    obtain ⟨rfl, rfl, rfl⟩ := he
    obtain ⟨z, hz1, hz2⟩ := run_zero hz w
    unfold Oper.wp execOp
    simp only [ho, Sem.run_bind, Instr.alloc, hz1, Result.andThen_ok, newVar, newRow, run_newObj, Sem.run_pure, hz2 ρ, Oper.upon]
    exact hK _ _ _ (H.place hpl (zeroKs_bnd hz _) (fun k hk => List.all_eq_true.1 hf k hk) o.dst)
  · rename_i t x ho
    split at h
    case h_2 => cases h
    rename_i p1 y hy
    split at h
    case isFalse => cases h
    rename_i hf
    obtain ⟨ob2, hpl, he⟩ := Option.map_eq_some_iff.1 h
    simp only [Prod.mk.injEq] at he
    obtain ⟨rfl, rfl, rfl⟩ := he
    obtain ⟨ex, bx⟩ := rd_sound hy hp H
    unfold Oper.wp execOp
    simp only [ho, Sem.run_bind, Instr.box, ex, newVar, newRow, toKs_conc, run_newObj, Result.andThen_ok, Sem.run_pure, Oper.upon]
    exact hK _ _ _ (H.place hpl (toKs_bnd bx) (fun k hk => List.all_eq_true.1 hf k hk) o.dst)
  · rename_i t x ho
    split at h
    case h_2 => cases h
    rename_i p1 y hy
    obtain ⟨z, hz, he⟩ := Option.map_eq_some_iff.1 h
    simp only [Prod.mk.injEq] at he
    obtain ⟨rfl, rfl, rfl⟩ := he
    obtain ⟨ex, bx⟩ := rd_sound hy hp H
    obtain ⟨e, b⟩ := semLoad_sound (P := P) H hz
    unfold Oper.wp execOp
    simp only [ho, Sem.run_bind, ex, e, Result.andThen_ok, Sem.run_pure, Oper.upon]
    exact hK ρ _ _ (H.put o.dst (sv := .one z) rfl b)
  · rename_i t x y ho
    split at h
    case h_2 => cases h
    rename_i p1 xv p2 yv hx hy
    obtain ⟨ob2, hs, he⟩ := Option.map_eq_some_iff.1 h
    simp only [Prod.mk.injEq] at he
    obtain ⟨rfl, rfl, rfl⟩ := he
    obtain ⟨o1, o2⟩ := Ok.append.1 hp
    obtain ⟨ex, bx⟩ := rd_sound hx o1 H
    obtain ⟨ey, bY⟩ := rd_sound hy o2 H
    obtain ⟨w', e, H'⟩ := semStore_sound (P := P) H bY hs
    unfold Oper.wp execOp
    simp only [ho, Sem.run_bind, ex, ey, e, Result.andThen_ok, Sem.run_pure, Oper.upon]
    exact hK ρ _ _ (H'.put o.dst (sv := .one (.sc (.val undef))) rfl trivial)
  · rename_i f args argTypes ho
    split at h
    case h_2 => cases h
    rename_i p1 ys s h1 hs
    split at h
    case h_2 => cases h
    rename_i p2 sv' h2
    simp only [Option.some.injEq, Prod.mk.injEq] at h
    obtain ⟨rfl, rfl, rfl⟩ := h
    obtain ⟨o1, o2⟩ := Ok.append.1 hp
    obtain ⟨e1, b1⟩ := rdL_sound H h1 o1
    obtain ⟨b0, hfn⟩ := Cx.get_ok hcx hs ys p2 sv' h2 o2
    have hargs : args.map a.eval = (ys.map (SA.conc ρ)).toArray := by
      apply Array.ext'
      rw [Array.toList_map, e1]
    have hrun : (execOp a.eval o).run P w = (callFunc f (ys.map (SA.conc ρ)).toArray).run P w := by
      unfold execOp
      simp only [ho, resolve, hargs, Act.eval, Deferred.ofValue, Sem.run_bind, Sem.run_pure, Result.andThen_ok, invoke]
      simp
    unfold Oper.wp
    rw [hrun]
    rcases hfn ρ w with ⟨r, hc⟩ | ⟨v, r, hv⟩
    · rw [r, Oper.upon_enter]
      refine hc.mono ?_
      rintro e w' ⟨v, rfl, hv, hbl⟩
      refine hK ρ _ _ (Holds.put ⟨H.size, H.rep, H.bnd, H.defers, ?_, H.mem.grow hbl (Agree.refl _ _)⟩ o.dst hv (SV.bnd_mono none0_le b0))
      exact H.below.trans (hbl.mono H.below.size)
    · rw [r, Oper.upon_value]
      exact hK ρ _ _ (H.put o.dst hv (SV.bnd_mono none0_le b0))
  · obtain ⟨r, hr, he⟩ := Option.map_eq_some_iff.1 h
    simp only [Prod.mk.injEq] at he
    obtain ⟨rfl, rfl, rfl⟩ := he
    obtain ⟨e, b⟩ := semVal_sound (P := P) H hr hp
    unfold Oper.wp
    rw [e, Oper.upon_value]
    exact hK ρ _ _ (H.put o.dst (sv := .one r.2) rfl b)
end

end Go.Sx
