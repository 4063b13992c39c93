/-
  Texts: Open.
-/
import Derived.Test.YtdjjggomhloanaaM1
import Derived.Test.YtdjjggomhloanaaM2
import Derived.Test.YtdjjggomhloanaaM3
import Derived.Test.YtdjjggomhloanaaM4
import Derived.Test.YtdjjggomhloanaaM5
import Derived.Test.YtdjjggomhloanaaM6
import Derived.Test.YtdjjggomhloanaaM7
import Derived.Test.YtdjjggomhloanaaM8
import Derived.Test.YtdjjggomhloanaaM9
import Derived.Test.YtdjjggomhloanaaM10
import Derived.Test.YtdjjggomhloanaaM11
import Derived.Test.YtdjjggomhloanaaM12
import Derived.Test.YtdjjggomhloanaaM13
section
namespace Go.Sx
open Go.RowKit Go.ChangeShapes Go.WideShapes
inductive LQ where
  | k (x : LK)
  | sl (ks : List LK)
def LQ.fits (W : World) : LQ → Value → Prop
  | .k x, v => x.fits v
  | .sl ks, v => ∃ (a : Option Addr) (n cap : Nat) (f : Nat → Nat → Value), v = .slice a n cap ∧ n ≤ maxLen ∧ (∀ i, i < n → ∀ (c : Nat) (x : LK), ks[c]? = some x → x.fits (f i c)) ∧
      SC.bnd ⟨fun _ => False, (Rho.whole W).fz⟩ (.xs a n cap ks.length fun i c => .val (f i c))
def fitsQ (W : World) : List LQ → List Value → Prop
  | [], [] => True
  | l :: ls, v :: vs => l.fits W v ∧ fitsQ W ls vs
  | _, _ => False
theorem fitsL_at : ∀ {ks : List LK} {vs : List Value} {c : Nat} {x : LK}, fitsL ks vs → ks[c]? = some x → ∃ v, vs[c]? = some v ∧ x.fits v
  | [], _, _, _, _, h => by simp at h
  | _ :: _, [], _, _, h, _ => h.elim
  | _ :: _, v :: _, 0, _, h, e => by
    simp only [List.getElem?_cons_zero, Option.some.injEq] at e
    subst e
    exact ⟨v, rfl, h.1⟩
  | _ :: _, _ :: _, c + 1, _, h, e => by
    simp only [List.getElem?_cons_succ] at e ⊢
    exact fitsL_at h.2 e
theorem LK.fits_fit {x : LK} {v : Value} (h : x.fits v) : oneCell v = true := by
  cases x <;> cases v <;> first | rfl | exact h.elim
theorem cells_at {w : World} {base : Nat} {a : Addr} {n : Nat} {cs : List Value} (h : w.cells? base a n = some cs) : cs.length = n ∧ ∀ j v, cs[j]? = some v → w.cell? (a.add j) = some v := by
  unfold World.cells? at h
  split at h
  · obtain ⟨h1, h2⟩ := mapM_get h
    rw [List.length_range] at h1
    refine ⟨h1, fun j v hv => ?_⟩
    have hj : j < n := by rw [← h1]; exact (List.getElem?_eq_some_iff.1 hv).1
    obtain ⟨b, hb, hc⟩ := h2 j j (by rw [List.getElem?_range hj])
    rw [hv] at hb
    cases hb
    exact hc
  · cases h
section
variable {H : Type} {enc : TypeId × Value → H} {P : Program} {w : World} {base : Nat} {sp : Nat → Bool} {held : Bool}
theorem trod_sl {fuel : Nat} {t e : TypeId} {ks : List LK} {d : Nat} {cs : List Value} {y : DataW H × List MemPlace} (ht : P.underlying t = some (.slice e)) (he : lks P d e = some ks) (hc : P.cellsOf e = ks.length) (hk : 1 ≤ ks.length)
    (h : DataW.trod enc P w base sp held fuel t cs = some y) : fitsQ w [.sl ks] cs := by
  cases fuel with
  | zero => simp [DataW.trod] at h
  | succ fuel =>
    match cs, h with
    | [], h => simp [DataW.trod, ht] at h
    | _ :: _ :: _, h => simp [DataW.trod, ht] at h
    | [v], h =>
      cases v <;> simp only [DataW.trod, ht] at h <;> try (cases h)
      rename_i a n cap
      cases a with
      | none =>
        match n, cap, h with
        | 0, 0, _ => exact ⟨⟨none, 0, 0, fun _ _ => .nilIface, rfl, Nat.zero_le _, fun i hi => by omega, fun _ => ⟨rfl, rfl⟩, Nat.le_refl _, fun b hb => by cases hb⟩, trivial⟩
        | 0, c + 1, h => simp at h
        | m + 1, c, h => simp at h
      | some a =>
        simp only at h
        split at h
        case isFalse => cases h
        rename_i hb
        obtain ⟨elems, hel, _⟩ := Option.bind_eq_some_iff.1 h
        obtain ⟨h1, h2⟩ := mapM_get hel
        have hspn : 0 < n → a.spot = none := fun hn => by
          obtain ⟨b, _, hb'⟩ := h2 0 0 (by rw [List.getElem?_range hn])
          obtain ⟨vs, hvs, _⟩ := Option.bind_eq_some_iff.1 hb'
          rw [hc, Nat.zero_mul] at hvs
          obtain ⟨q1, q2⟩ := cells_at hvs
          have := World.cell?_spot (q2 0 (vs[0]'(by omega)) (List.getElem?_eq_getElem _))
          simpa [Addr.add] using this
        have hrow : ∀ i, i < n → ∃ vs : List Value, fitsL ks vs ∧ ∀ c v, vs[c]? = some v → w.cell? ⟨a.block, a.off + (i * ks.length + c), none⟩ = some v := by
          intro i hi
          have hsp := hspn (by omega)
          obtain ⟨b, _, hb'⟩ := h2 i i (by rw [List.getElem?_range hi])
          obtain ⟨vs, hvs, ht'⟩ := Option.bind_eq_some_iff.1 hb'
          rw [hc] at hvs
          obtain ⟨_, q2⟩ := cells_at hvs
          refine ⟨vs, trod_fits he ht', fun c v hv => ?_⟩
          have := q2 c v hv
          rw [← this, fz_add (add_spot hsp _) c, add_block, add_off, Nat.add_assoc]
        refine ⟨⟨some a, n, cap, fun i c => if h : i < n then (hrow i h).choose.getD c .nilIface else .nilIface, rfl, Nat.le_trans hb.2.1 hb.2.2, fun i hi c x hx => ?_, fun e => (by cases e), hb.2.1, fun b hb' => ?_⟩, trivial⟩
        · obtain ⟨q1, q2⟩ := (hrow i hi).choose_spec
          obtain ⟨v, hv, hf⟩ := fitsL_at q1 hx
          dsimp only
          rw [dif_pos hi, List.getD_eq_getElem?_getD, hv]
          exact hf
        · cases hb'
          refine ⟨hspn, fun i hi c hc' => ?_⟩
          obtain ⟨q1, q2⟩ := (hrow i hi).choose_spec
          obtain ⟨v, hv, hf⟩ := fitsL_at q1 (c := c) (x := ks[c]) (List.getElem?_eq_getElem hc')
          have e : (if h : i < n then (hrow i h).choose.getD c .nilIface else .nilIface) = v := by rw [dif_pos hi, List.getD_eq_getElem?_getD, hv]; rfl
          dsimp only
          rw [e]
          exact ⟨trivial, LK.fits_fit hf, q2 c v hv⟩
theorem open_sl {d : Nat} {t e : TypeId} {ks : List LK} {r : Reach} {b0 : Nat} {v : Value} {x : DataW H} {ps : List MemPlace} (ht : P.underlying t = some (.slice e)) (he : lks P d e = some ks) (hc : P.cellsOf e = ks.length) (hk : 1 ≤ ks.length)
    (hval : Value.okWide P w r b0 t v) (hd : DataW.Trod enc P w base sp held t v x ps) : (LQ.sl ks).fits w v := by
  obtain ⟨fuel, hf⟩ := hd
  obtain ⟨a, n, cap, rfl⟩ := Go.WideShapes.okWide_slice ht hval
  have hv : (Value.slice a n cap).cells.toList = [.slice a n cap] := rfl
  rw [hv] at hf
  exact (trod_sl ht he hc hk hf).1
theorem xs_told {E : Env} {a : Option Addr} {n cap wd : Nat} {g g' : Nat → Nat → SC} (h : SC.bnd E (.xs a n cap wd g)) (e : ∀ i, i < n → ∀ c, c < wd → (g i c).conc Rho.nil = (g' i c).conc Rho.nil ∧ (g' i c).bnd E.bare ∧ (g' i c).fit = true) : SC.bnd E (.xs a n cap wd g') := by
  obtain ⟨h1, h2, h3⟩ := h
  refine ⟨h1, h2, fun b hb => ⟨(h3 b hb).1, fun i hi c hc => ?_⟩⟩
  obtain ⟨e1, e2, e3⟩ := e i hi c hc
  exact ⟨e2, e3, by rw [← e1]; exact ((h3 b hb).2 i hi c hc).2.2⟩
end
theorem calls_of_owesV {P : Program} {cx : Cx} (hcx : CxOK P cx) {sl : List (Nat × SSpec)} (hsl : ∀ p ∈ sl, FnOKs P cx.gl p.1 p.2) {iv : List (Nat × Hint)} {N : Nat} {f : FuncId} {fn : Func} (hf : P.funcs[f]? = some fn) (hb : fn.body.isSome = true) {args : List SA} {out : SV}
    (h : OwesV P cx sl iv N fn args out) (ρ : Rho) (w : World) (hz : FzOK ρ.fz w) (hg : GlobsOK cx.gl ρ.fz) (hargs : ∀ x ∈ args, x.bnd ⟨fun _ => False, ρ.fz⟩) :
    Calls P f (args.map (SA.conc ρ)).toArray w fun e w' => ∃ v, e = .returned v ∧ (∃ ρ', out.rep ρ' v) ∧ Below w.heap.size w w' := by
  unfold OwesV at h
  refine (calls_of_owesS hcx hsl hf hb h ρ w hz hg hargs).mono ?_
  rintro e w' ⟨v, rfl, hbl, sv, ob', ρ', hp, hr, _⟩
  exact ⟨v, rfl, ⟨ρ', same_sound hp ρ' v hr⟩, hbl⟩
def intV : Value → Int
  | .int _ n => n
  | _ => 0
theorem fit_int {k : IntKind} {v : Value} (h : (LK.int k).fits v) : v = .int k (intV v) ∧ (Lit.int k (intV v)).wf = true := by
  cases v <;> try exact h.elim
  obtain ⟨rfl, h⟩ := h
  exact ⟨rfl, h⟩
end Go.Sx
end
