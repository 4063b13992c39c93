/-
  A calculus of symbolic states for walks over translated Go code, part 9: guards; a region in the text's order.
-/
import Derived.Test.YtdcnlghfgkkcoabSx8
namespace Go.Sx
open Go.RowKit

/-- Operations that turn no block of the call's own. -/
def eff : Op → Bool
  | .alloc _ | .box .. | .store .. => true
  | _ => false

def guarded (P : Program) (cx : Cx) (id : Nat) (tm : List SV) (ob : List SO) (o : Oper) (g : Bool) : Option (List Prop × SV × List SO) :=
  if eff o.op then none else
  match semOp P cx id tm ob o with
  | some (ps, .one x, _) => some (ps.map (fun p => g = true → p), .gd g x, ob)
  | some (ps, .gd b x, _) => some (((b = true) :: ps).map (fun p => g = true → p), .gd g x, ob)
  | _ => none
/-- An operation under its guard. -/
def semG (P : Program) (cx : Cx) (ops : Array Oper) (id : Nat) (tm : List SV) (ob : List SO) (o : Oper) : Option (List Prop × SV × List SO) :=
  match o.guard with
  | none => semOp P cx id tm ob o
  | some (j, want) =>
    match (ops[j]?).bind (·.dst) with
    | none => none
    | some d =>
      match tm.getD d .any with
      | .one (.sc (.bit b)) => if b == want then semOp P cx id tm ob o else some ([], .one (.sc (.val undef)), ob)
      | .one (.sc (.val (.bool b))) => match want with
        | true => guarded P cx id tm ob o b
        | false => guarded P cx id tm ob o (!b)
      | .gd g (.sc (.bit b)) => if b == want then guarded P cx id tm ob o g else some ([], .one (.sc (.val undef)), ob)
      | .gd g (.sc (.val (.bool b))) => match want with
        | true => guarded P cx id tm ob o (g && b)
        | false => guarded P cx id tm ob o (g && !b)
      | _ => none

theorem semOp_quiet {P : Program} {cx : Cx} {id : Nat} {tm : List SV} {ob ob' : List SO} {o : Oper} {ps : List Prop} {sv : SV} (h : semOp P cx id tm ob o = some (ps, sv, ob')) (he : eff o.op = false) : ob' = ob := by
  unfold semOp at h
  split at h
  all_goals first
    | (rename_i ho; simp [eff, ho] at he; done)
    | skip
  · simp only [Option.some.injEq, Prod.mk.injEq] at h; exact h.2.2.symm
  · simp only [Option.some.injEq, Prod.mk.injEq] at h; exact h.2.2.symm
  · split at h
    · obtain ⟨z, _, e⟩ := Option.map_eq_some_iff.1 h; simp only [Prod.mk.injEq] at e; exact e.2.2.symm
    · cases h
  · split at h
    · split at h
      · simp only [Option.some.injEq, Prod.mk.injEq] at h; exact h.2.2.symm
      · cases h
    · cases h
  · obtain ⟨z, _, e⟩ := Option.map_eq_some_iff.1 h; simp only [Prod.mk.injEq] at e; exact e.2.2.symm

section
variable {P : Program} {W0 : World} {ρ : Nat → Nat} {tm : List SV} {ob : List SO} {a : Act} {w : World}

theorem yielded_of {ops : Array Oper} {j : Nat} {d : Tmp} (hd : (ops[j]?).bind (·.dst) = some d) (tmps : Array Value) :
    yielded ops tmps j = match tmps.getD d undef with | .bool b => some b | _ => none := by
  unfold yielded
  rw [hd]
  simp only [Option.bind_some, Array.getD_eq_getD_getElem?]
  cases tmps[d]? with
  | none => rfl
  | some v => cases v <;> rfl

theorem put_rep {tm : List SV} {dst : Option Tmp} {sv sv' : SV} {a : Act} (hs : a.tmps.size = (put tm dst sv).length) (hr : ∀ t : Nat, ((put tm dst sv).getD t .any).rep ρ (a.tmps.getD t undef)) (hb : ∀ t : Nat, ((put tm dst sv).getD t .any).bnd (live ob))
    (h1 : ∀ v, sv.rep ρ v → sv'.rep ρ v) (h2 : sv.bnd (live ob) → sv'.bnd (live ob)) :
    a.tmps.size = (put tm dst sv').length ∧ (∀ t : Nat, ((put tm dst sv').getD t .any).rep ρ (a.tmps.getD t undef)) ∧ (∀ t : Nat, ((put tm dst sv').getD t .any).bnd (live ob)) := by
  cases dst with
  | none => exact ⟨hs, hr, hb⟩
  | some d =>
    refine ⟨by rw [hs, length_put, length_put], fun t => ?_, fun t => ?_⟩
    · have := hr t
      simp only [put, List.getD_eq_getElem?_getD, List.getElem?_set] at this ⊢
      by_cases e : d = t
      · subst e
        by_cases l : d < tm.length
        · simp only [l, if_true, Option.getD_some] at this ⊢; exact h1 _ this
        · simp only [l, if_true, if_false, Option.getD_none] at this ⊢; exact trivial
      · simp only [e, if_false] at this ⊢; exact this
    · have := hb t
      simp only [put, List.getD_eq_getElem?_getD, List.getElem?_set] at this ⊢
      by_cases e : d = t
      · subst e
        by_cases l : d < tm.length
        · simp only [l, if_true, Option.getD_some] at this ⊢; exact h2 this
        · simp only [l, if_true, if_false, Option.getD_none] at this ⊢; exact trivial
      · simp only [e, if_false] at this ⊢; exact this
theorem Holds.as {tm : List SV} {dst : Option Tmp} {sv sv' : SV} (H : Holds W0 ρ (Sx.put tm dst sv) ob a w) (h1 : ∀ v, sv.rep ρ v → sv'.rep ρ v) (h2 : sv.bnd (live ob) → sv'.bnd (live ob)) : Holds W0 ρ (Sx.put tm dst sv') ob a w := by
  obtain ⟨a1, a2, a3⟩ := put_rep H.size H.rep H.bnd h1 h2
  exact ⟨a1, a2, a3, H.defers, H.below, H.mem⟩

theorem guarded_sound {cx : Cx} (hcx : CxOK P cx) (H : Holds W0 ρ tm ob a w) {id : Nat} {o : Oper} {g : Bool} {ps : List Prop} {sv : SV} {ob' : List SO} (h : guarded P cx id tm ob o g = some (ps, sv, ob')) (hp : Ok ps)
    {K : Act → World → Prop} {Q : Exit → Act → World → Prop} (hK : ∀ ρ' a' w', Holds W0 ρ' (put tm o.dst sv) ob' a' w' → K a' w') :
    if g then o.wp P a w K Q else K (a.put o.dst undef) w := by
  unfold guarded at h
  split at h
  · cases h
  rename_i he
  have he : eff o.op = false := by simpa using he
  split at h
  · rename_i p1 x ob1 h1
    simp only [Option.some.injEq, Prod.mk.injEq] at h
    obtain ⟨rfl, rfl, rfl⟩ := h
    have hq := semOp_quiet h1 he
    subst hq
    cases g with
    | true =>
      simp only [if_true]
      exact semOp_sound hcx H h1 (Ok_map hp rfl) fun ρ' a' w' H' => hK ρ' a' w' (H'.as (fun v hv => by simpa [SV.rep] using hv) (fun hb _ => hb))
    | false =>
      simp only [Bool.false_eq_true, if_false]
      exact hK ρ _ _ (H.put o.dst (by simp [SV.rep]) (by intro e; cases e))
  · rename_i p1 b x ob1 h1
    simp only [Option.some.injEq, Prod.mk.injEq] at h
    obtain ⟨rfl, rfl, rfl⟩ := h
    have hq := semOp_quiet h1 he
    subst hq
    cases g with
    | true =>
      simp only [if_true]
      have hp' := Ok_map hp rfl
      have hb := hp'.1
      exact semOp_sound hcx H h1 hp'.2 fun ρ' a' w' H' => hK ρ' a' w' (H'.as (fun v hv => by simpa [SV.rep, hb] using hv) (fun hbn _ => hbn hb))
    | false =>
      simp only [Bool.false_eq_true, if_false]
      exact hK ρ _ _ (H.put o.dst (by simp [SV.rep]) (by intro e; cases e))
  · cases h

theorem semG_sound {cx : Cx} (hcx : CxOK P cx) {ops : Array Oper} {id : Nat} (H : Holds W0 ρ tm ob a w) {o : Oper} {ps : List Prop} {sv : SV} {ob' : List SO} (h : semG P cx ops id tm ob o = some (ps, sv, ob')) (hp : Ok ps)
    {K : Act → World → Prop} {Q : Exit → Act → World → Prop} (hK : ∀ ρ' a' w', Holds W0 ρ' (put tm o.dst sv) ob' a' w' → K a' w') :
    if Region.wanted o (yielded ops a.tmps) then o.wp P a w K Q else K (a.put o.dst undef) w := by
  unfold semG at h
  split at h
  · rename_i hg
    simp only [Region.wanted, hg, if_true]
    exact semOp_sound hcx H h hp hK
  rename_i j want hg
  split at h
  · cases h
  rename_i d hd
  have hrep := H.rep d
  have hw : Region.wanted o (yielded ops a.tmps) = ((match a.tmps.getD d undef with | .bool b => some b | _ => none) == some want) := by
    simp only [Region.wanted, hg, yielded_of hd]
  rw [hw]
  split at h
  · rename_i b hb
    rw [hb] at hrep
    simp only [SV.rep, SA.conc, SC.conc] at hrep
    rw [hrep]
    split at h
    · rename_i e
      have : ((some b : Option Bool) == some want) = true := by simpa using e
      simp only [this, if_true]
      exact semOp_sound hcx H h hp hK
    · rename_i e
      have : ((some b : Option Bool) == some want) = false := by simpa using e
      simp only [this, Bool.false_eq_true, if_false]
      simp only [Option.some.injEq, Prod.mk.injEq] at h
      obtain ⟨rfl, rfl, rfl⟩ := h
      exact hK ρ _ _ (H.put o.dst (sv := .one (.sc (.val undef))) rfl trivial)
  · rename_i b hb
    rw [hb] at hrep
    simp only [SV.rep, SA.conc, SC.conc] at hrep
    rw [hrep]
    split at h
    · have := guarded_sound hcx H h hp (Q := Q) hK
      have e : ((some b : Option Bool) == some true) = b := by cases b <;> rfl
      simp only [e]
      exact this
    · have := guarded_sound hcx H h hp (Q := Q) hK
      have e : ((some b : Option Bool) == some false) = !b := by cases b <;> rfl
      simp only [e]
      exact this
  · rename_i g b hb
    rw [hb] at hrep
    simp only [SV.rep, SA.conc, SC.conc] at hrep
    rw [hrep]
    split at h
    · rename_i e
      have e : b = want := by simpa using e
      subst e
      have := guarded_sound hcx H h hp (Q := Q) hK
      cases g
      · simpa [undef] using this
      · simpa using this
    · rename_i e
      simp only [Option.some.injEq, Prod.mk.injEq] at h
      obtain ⟨rfl, rfl, rfl⟩ := h
      have hk : K (a.put o.dst undef) w := hK ρ _ _ (H.put o.dst (sv := .one (.sc (.val undef))) rfl trivial)
      have e : (b == want) = false := by simpa using e
      cases g
      · simpa [undef] using hk
      · simpa [e] using hk
  · rename_i g b hb
    rw [hb] at hrep
    simp only [SV.rep, SA.conc, SC.conc] at hrep
    rw [hrep]
    split at h
    · have := guarded_sound hcx H h hp (Q := Q) hK
      cases g
      · simpa [undef] using this
      · cases b <;> simpa using this
    · have := guarded_sound hcx H h hp (Q := Q) hK
      cases g
      · simpa [undef] using this
      · cases b <;> simpa using this
  · cases h

/-- What is owed, and then the rest. -/
def ands : List Prop → Prop → Prop
  | [], k => k
  | p :: r, k => p ∧ ands r k
theorem ands_iff {ps : List Prop} {k : Prop} : ands ps k ↔ Ok ps ∧ k := by
  induction ps with
  | nil => simp [ands, Ok]
  | cons p r ih => simp [ands, Ok, ih, and_assoc]
/-- Here the calculus knows no more: which operation. -/
inductive Stuck : Oper → Prop
inductive StuckAt : String → Prop
theorem Stuck.no {o : Oper} (h : Stuck o) {p : Prop} : p := by cases h
theorem StuckAt.no {o : String} (h : StuckAt o) {p : Prop} : p := by cases h

/-- A region in the text's order. d: new blocks come to lie at places kept for them, one an operation (else behind the last). -/
def runs (P : Program) (cx : Cx) (ops : Array Oper) (d : Bool) : Nat → List Oper → List SV → List SO → (List SV → List SO → Prop) → Prop
  | _, [], tm, ob, K => K tm ob
  | i, o :: r, tm, ob, K =>
    match semG P cx ops (match d with | true => i | false => ob.length) tm ob o with
    | some (ps, sv, ob') => ands ps (runs P cx ops d (i + 1) r (put tm o.dst sv) ob' K)
    | none => Stuck o
theorem runs_sound {cx : Cx} (hcx : CxOK P cx) {ops : Array Oper} {d : Bool} {Q : Exit → Act → World → Prop} {K : List SV → List SO → Prop} (hK : ∀ ρ tm ob a w, Holds W0 ρ tm ob a w → K tm ob → Q .normal a w) :
    ∀ {l : List Oper} {i : Nat} {ρ : Nat → Nat} {tm : List SV} {ob : List SO} {a : Act} {w : World}, Holds W0 ρ tm ob a w → runs P cx ops d i l tm ob K → wpList P ops Q l a w
  | [], i, ρ, tm, ob, a, w, H, h => hK ρ tm ob a w H h
  | o :: r, i, ρ, tm, ob, a, w, H, h => by
    simp only [runs] at h
    split at h
    · rename_i ps sv ob' hs
      obtain ⟨hp, h⟩ := ands_iff.1 h
      have := semG_sound hcx H hs hp (Q := Q) (K := wpList P ops Q r) fun ρ' a' w' H' => runs_sound hcx hK H' h
      unfold wpList
      split
      · rename_i hw; rw [if_pos hw] at this; exact .inl this
      · rename_i hw; rw [if_neg hw] at this; exact this
    · exact h.no
end

end Go.Sx
