/-
  Texts: Sx14, Sx13, Dgs, Wsp, Wsp2, Wsp3, Wsp4, Wsp6, Wsp5, Wsp7, Wsp8, Sx15, Sx16, Wsp9, Okx, Byt, Lex, V160, P260, V1.
-/
import Derived.Test.YtnjdoebaneogjaaM1
import Derived.Test.YtnjdoebaneogjaaM2
import Derived.Test.YtnjdoebaneogjaaM3
import Derived.Test.YtnjdoebaneogjaaM4
import Derived.Test.YtnjdoebaneogjaaM5
import Derived.Test.YtnjdoebaneogjaaM6
import Derived.Test.YtnjdoebaneogjaaM7
import Derived.Test.YtnjdoebaneogjaaM8
import Derived.Lib.BytesEntry
import Derived.Test.YtnjdoebaneogjaaChecked
import Derived.Test.YtnjdoebaneogjaaRows
section
namespace Go.Sx
open Go.RowKit
inductive RK where
  | k (x : SK)
  | s (n w : Nat) (g : Nat → Nat → SC)
inductive RS where
  | v (x : SA)
  | s (n : Nat) (k : IntKind) (g : Nat → Int)
  | rows (n wd : Nat) (g : Nat → Nat → SC)
  | st (ks : List RK)
structure SSpec where
  share : Bool
  of : List SA → Option (List Prop × List RS)
def xsI (a : Option Addr) (n cap : Nat) (k : IntKind) (g : Nat → Int) : SA := .sc (.xs a n cap 1 fun i _ => .val (.int k (g i)))
def answersK : List RK → (List SK → Prop) → Prop
  | [], K => K []
  | .k x :: r, K => answersK r fun l => K (x :: l)
  | .s n w g :: r, K => ∀ (a : Option Addr) (cap : Nat), (a = none → n = 0 ∧ cap = 0) → n ≤ cap → answersK r fun l => K (.c (.xs a n cap w g) :: l)
def answers : List RS → (List SA → Prop) → Prop
  | [], K => K []
  | .v x :: r, K => answers r fun l => K (x :: l)
  | .s n k g :: r, K => ∀ (a : Option Addr) (cap : Nat), (a = none → n = 0 ∧ cap = 0) → n ≤ cap → answers r fun l => K (xsI a n cap k g :: l)
  | .rows n wd g :: r, K => ∀ (a : Option Addr) (cap : Nat), (a = none → n = 0 ∧ cap = 0) → n ≤ cap → answers r fun l => K (.sc (.xs a n cap wd g) :: l)
  | .st ks :: r, K => answersK ks fun l => answers r fun l' => K (.agg l :: l')
def isSl (w : World) (far : Nat → Prop) (n wd : Nat) (g : Nat → Nat → SC) (y : Value) : Prop :=
  ∃ a cap, y = .slice a n cap ∧ (a = none → n = 0 ∧ cap = 0) ∧ n ≤ cap ∧ ∀ b, a = some b → (0 < n → b.spot = none) ∧ ∀ i, i < n → ∀ c, c < wd → ((g i c).bnd none0 ∧ (g i c).fit = true) ∧ far b.block ∧ w.cell? ⟨b.block, b.off + (i * wd + c), none⟩ = some ((g i c).conc Rho.nil)
def isG (w : World) (far : Nat → Prop) : List RK → List Value → Prop
  | [], vs => vs = []
  | .k x :: r, vs => ∃ vs', vs = concs Rho.nil [x] ++ vs' ∧ x.bnd none0 ∧ isG w far r vs'
  | .s n wd g :: r, vs => ∃ v vs', vs = v :: vs' ∧ isSl w far n wd g v ∧ isG w far r vs'
def RS.is (w : World) (far : Nat → Prop) : RS → Value → Prop
  | .v x, y => y = x.conc Rho.nil ∧ x.bnd none0
  | .s n k g, y => ∃ a cap, y = .slice a n cap ∧ (a = none → n = 0 ∧ cap = 0) ∧ n ≤ cap ∧ ∀ b, a = some b → (0 < n → b.spot = none) ∧ ∀ i, i < n → far b.block ∧ w.cell? ⟨b.block, b.off + i, none⟩ = some (.int k (g i))
  | .rows n wd g, y => isSl w far n wd g y
  | .st ks, y => ∃ vs : List Value, y = .agg vs.toArray ∧ isG w far ks vs
def RS.isL (w : World) (far : Nat → Prop) : List RS → List Value → Prop
  | [], [] => True
  | r :: rs, y :: ys => r.is w far y ∧ RS.isL w far rs ys
  | _, _ => False
def valL : List Value → Value
  | [v] => v
  | vs => .tuple vs.toArray
def FnOKs (P : Program) (gl : Globs) (f : Nat) (s : SSpec) : Prop :=
  ∀ args ps rs, s.of args = some (ps, rs) → Ok ps → ∀ (ρ : Rho) (w : World), FzOK ρ.fz w → GlobsOK gl ρ.fz → (∀ x ∈ args, x.bnd ⟨fun _ => True, ρ.fz⟩) →
    (callFunc f (args.map (SA.conc ρ)).toArray).run P w = .ok (.enter f (args.map (SA.conc ρ)).toArray) w ∧
      Calls P f (args.map (SA.conc ρ)).toArray w fun e w' => ∃ vs, e = .returned (valL vs) ∧ RS.isL w' (fun b => w.heap.size ≤ b ∨ (s.share = true ∧ ∃ o u, ρ.fz b o u)) rs vs ∧ Below w.heap.size w w'
def getSS : List (Nat × SSpec) → Nat → Option SSpec
  | [], _ => none
  | (g, s) :: r, f => match Nat.beq g f with
    | true => some s
    | false => getSS r f
theorem getSS_ok {P : Program} {gl : Globs} : ∀ {l : List (Nat × SSpec)} {f : Nat} {s : SSpec}, (∀ p ∈ l, FnOKs P gl p.1 p.2) → getSS l f = some s → FnOKs P gl f s
  | [], _, _, _, h => by simp [getSS] at h
  | (g, s') :: r, f, s, hc, h => by
    simp only [getSS] at h
    split at h
    · rename_i hg
      simp only [Option.some.injEq] at h; subst h
      have : g = f := Nat.eq_of_beq_eq_true hg
      subst this
      exact hc (g, s') (by simp)
    · exact getSS_ok (fun p hp => hc p (by simp [hp])) h
def lentK (ob : List SO) : List SK → (List SK → Prop) → Prop
  | [], K => K []
  | .c (.slw o w off len cap) :: r, K => match ob[o]? with
    | some (.row _ w' n g _) => match Nat.beq w w' with
      | true => ands [off + len ≤ n, len ≤ cap] (∀ a : Addr, lentK ob r fun l => K (.c (.xs (some a) len cap w (fun i c => g (off + i) c)) :: l))
      | false => StuckAt "lent"
    | _ => StuckAt "lent"
  | k :: r, K => lentK ob r fun l => K (k :: l)
def lent (ob : List SO) : List SA → (List SA → Prop) → Prop
  | [], K => K []
  | .sc (.sl o off len cap) :: r, K => match ob[o]? with
    | some (.cells _ ks _) => match sub ks off len with
      | some cs => match kindHead cs with
        | some k => match kindAll k cs with
          | true => ands [len ≤ cap] (∀ a : Addr, lent ob r fun l => K (xsI (some a) len cap k (selG cs) :: l))
          | false => StuckAt "lent"
        | none => StuckAt "lent"
      | none => StuckAt "lent"
    | _ => StuckAt "lent"
  | .sc (.slw o w off len cap) :: r, K => match ob[o]? with
    | some (.row _ w' n g _) => match Nat.beq w w' with
      | true => ands [off + len ≤ n, len ≤ cap] (∀ a : Addr, lent ob r fun l => K (.sc (.xs (some a) len cap w (fun i c => g (off + i) c)) :: l))
      | false => StuckAt "lent"
    | _ => StuckAt "lent"
  | .agg ks :: r, K => lentK ob ks fun ks' => lent ob r fun l => K (.agg ks' :: l)
  | x :: r, K => lent ob r fun l => K (x :: l)
def inlS (sl : List (Nat × SSpec)) (inner : Inl) : Inl := fun f args ob k =>
  match getSS sl f with
  | none => inner f args ob k
  | some s => match s.share with
    | false => lent ob args fun args' => match s.of args' with
      | some (ps, rs) => ands ps (answers rs fun l => k (resV l) ob)
      | none => StuckAt "card"
    | true => match frzOf args with
      | none => match s.of args with
        | some (ps, rs) => ands ps (answers rs fun l => k (resV l) ob)
        | none => StuckAt "card"
      | some (pre, o, off, len, cap, post) => match ob[o]? with
        | some (.cells _ ks _) => match sub ks off len with
          | some cs => match kindHead cs with
            | some kd => match kindAll kd cs && (ob.set o .dead).all (obB (liveB (ob.set o .dead))) with
              | true => ands [len ≤ cap] (∀ a : Addr, match s.of (pre ++ xsI (some a) len cap kd (selG cs) :: post) with
                | some (ps, rs) => ands ps (answers rs fun l => k (resV l) (ob.set o .dead))
                | none => StuckAt "card")
              | false => StuckAt "taken"
            | none => StuckAt "taken"
          | none => StuckAt "taken"
        | _ => StuckAt "taken"
section
variable {P : Program} {W0 : Base} {ρ : Rho} {tm : List SV} {ob : List SO} {a : Act} {w : World}
theorem valL_conc (ρ : Rho) (l : List SA) : (resV l).rep ρ (valL (l.map (SA.conc ρ))) := by
  match l with
  | [] => rfl
  | [x] => rfl
  | x :: y :: r => rfl
theorem resV_bnd {n : Env} {l : List SA} (h : ∀ x ∈ l, x.bnd n) : (resV l).bnd n := by
  match l, h with
  | [], _ => exact fun x hx => by cases hx
  | [x], h => exact h x (by simp)
  | x :: y :: r, h => exact h
theorem isSl.far {w : World} {p q : Nat → Prop} (h : ∀ b, p b → q b) {n wd : Nat} {g : Nat → Nat → SC} {y : Value} : isSl w p n wd g y → isSl w q n wd g y :=
  fun ⟨a, c, e, h1, h2, h3⟩ => ⟨a, c, e, h1, h2, fun b hb => ⟨(h3 b hb).1, fun i hi c hc => ⟨((h3 b hb).2 i hi c hc).1, h _ ((h3 b hb).2 i hi c hc).2.1, ((h3 b hb).2 i hi c hc).2.2⟩⟩⟩
theorem isG.far {w : World} {p q : Nat → Prop} (h : ∀ b, p b → q b) : ∀ {ks : List RK} {vs : List Value}, isG w p ks vs → isG w q ks vs
  | [], _, k => k
  | .k _ :: _, _, ⟨vs', e, hb, k⟩ => ⟨vs', e, hb, isG.far h k⟩
  | .s _ _ _ :: _, _, ⟨v, vs', e, hs, k⟩ => ⟨v, vs', e, hs.far h, isG.far h k⟩
theorem RS.is.far {w : World} {p q : Nat → Prop} (h : ∀ b, p b → q b) : ∀ {r : RS} {y : Value}, r.is w p y → r.is w q y
  | .v _, _, k => k
  | .s _ _ _, _, ⟨a, c, e, h1, h2, h3⟩ => ⟨a, c, e, h1, h2, fun b hb => ⟨(h3 b hb).1, fun i hi => ⟨h _ ((h3 b hb).2 i hi).1, ((h3 b hb).2 i hi).2⟩⟩⟩
  | .rows _ _ _, _, k => isSl.far h k
  | .st _, _, ⟨vs, e, k⟩ => ⟨vs, e, k.far h⟩
theorem RS.isL.far {w : World} {p q : Nat → Prop} : ∀ {rs : List RS} {ys : List Value}, RS.isL w p rs ys → (∀ b, p b → q b) → RS.isL w q rs ys
  | [], [], _, _ => trivial
  | _ :: _, _ :: _, k, h => ⟨k.1.far h, RS.isL.far k.2 h⟩
  | [], _ :: _, k, _ => by exact k.elim
  | _ :: _, [], k, _ => by exact k.elim
theorem isSl.bnd {w : World} {far : Nat → Prop} {n wd : Nat} {g : Nat → Nat → SC} {a : Option Addr} {cap : Nat} (h1 : a = none → n = 0 ∧ cap = 0) (h2 : n ≤ cap)
    (h3 : ∀ b, a = some b → (0 < n → b.spot = none) ∧ ∀ i, i < n → ∀ c, c < wd → ((g i c).bnd none0 ∧ (g i c).fit = true) ∧ far b.block ∧ w.cell? ⟨b.block, b.off + (i * wd + c), none⟩ = some ((g i c).conc Rho.nil))
    (fz : Nat → Nat → Value → Prop) (hz : ∀ b o v, far b → w.cell? ⟨b, o, none⟩ = some v → fz b o v) : (SC.xs a n cap wd g).bnd ⟨fun _ => False, fz⟩ :=
  ⟨h1, h2, fun b hb => ⟨(h3 b hb).1, fun i hi c hc => by
    obtain ⟨⟨q1, q2⟩, q3, q4⟩ := (h3 b hb).2 i hi c hc
    exact ⟨SC.bnd_mono none0_le q1, q2, hz _ _ _ q3 q4⟩⟩⟩
theorem answersK_pick {w : World} {far : Nat → Prop} : ∀ {ks : List RK} {vs : List Value} {K : List SK → Prop}, answersK ks K → isG w far ks vs → ∃ l, K l ∧ (∀ ρ : Rho, concs ρ l = vs) ∧
    ∀ fz : Nat → Nat → Value → Prop, (∀ b o v, far b → w.cell? ⟨b, o, none⟩ = some v → fz b o v) → ∀ x ∈ l, x.bnd ⟨fun _ => False, fz⟩
  | [], _, K, h, hv => ⟨[], h, fun _ => by rw [show _ = [] from hv]; rfl, fun _ _ x hx => by cases hx⟩
  | .k x :: r, vs, K, h, hv => by
    obtain ⟨vs', rfl, hb, hr⟩ := hv
    obtain ⟨l, k1, k2, k3⟩ := answersK_pick (K := fun l => K (x :: l)) h hr
    refine ⟨x :: l, k1, fun ρ => ?_, fun fz hz y hy => ?_⟩
    · rw [concs_cons ρ x l, k2 ρ, Agree.sks (n := none0) (ρ := Rho.nil) (ρ' := ρ) (fun _ hi => hi.elim) (fun c hc => by rw [List.mem_singleton.1 hc]; exact hb)]
    · rcases List.mem_cons.1 hy with rfl | hy
      · exact SK.bnd_mono none0_le hb
      · exact k3 fz hz y hy
  | .s n wd g :: r, vs, K, h, hv => by
    obtain ⟨v, vs', rfl, ⟨ad, cap, e, h1, h2, h3⟩, hr⟩ := hv
    obtain ⟨l, k1, k2, k3⟩ := answersK_pick (K := fun l => K (.c (.xs ad n cap wd g) :: l)) (h ad cap h1 h2) hr
    refine ⟨.c (.xs ad n cap wd g) :: l, k1, fun ρ => ?_, fun fz hz y hy => ?_⟩
    · rw [concs_cons ρ _ l, k2 ρ, e]; rfl
    · rcases List.mem_cons.1 hy with rfl | hy
      · exact isSl.bnd h1 h2 h3 fz hz
      · exact k3 fz hz y hy
theorem answers_pick {w : World} {far : Nat → Prop} : ∀ {rs : List RS} {vs : List Value} {K : List SA → Prop}, answers rs K → RS.isL w far rs vs → ∃ l, K l ∧ (∀ ρ : Rho, l.map (SA.conc ρ) = vs) ∧
    ∀ fz : Nat → Nat → Value → Prop, (∀ b o v, far b → w.cell? ⟨b, o, none⟩ = some v → fz b o v) → ∀ x ∈ l, x.bnd ⟨fun _ => False, fz⟩
  | [], [], K, h, _ => ⟨[], h, fun _ => rfl, fun _ _ x hx => by cases hx⟩
  | .v x :: r, v :: vs, K, h, hv => by
    obtain ⟨⟨e, hb⟩, hr⟩ := hv
    obtain ⟨l, k1, k2, k3⟩ := answers_pick (K := fun l => K (x :: l)) h hr
    refine ⟨x :: l, k1, fun ρ => ?_, fun fz hz y hy => ?_⟩
    · rw [List.map_cons, k2 ρ, e, Agree.sa (n := none0) (ρ := Rho.nil) (ρ' := ρ) (fun _ hi => hi.elim) hb]
    · rcases List.mem_cons.1 hy with rfl | hy
      · exact SA.bnd_mono none0_le hb
      · exact k3 fz hz y hy
  | .s n k g :: r, v :: vs, K, h, hv => by
    obtain ⟨⟨ad, cap, e, h1, h2, h3⟩, hr⟩ := hv
    obtain ⟨l, k1, k2, k3⟩ := answers_pick (K := fun l => K (xsI ad n cap k g :: l)) (h ad cap h1 h2) hr
    refine ⟨xsI ad n cap k g :: l, k1, fun ρ => ?_, fun fz hz y hy => ?_⟩
    · rw [List.map_cons, k2 ρ, e]; rfl
    · rcases List.mem_cons.1 hy with rfl | hy
      · refine ⟨h1, h2, fun b hb => ⟨(h3 b hb).1, fun i hi c hc => ⟨trivial, rfl, ?_⟩⟩⟩
        have hc0 : c = 0 := by omega
        subst hc0
        have := (h3 b hb).2 i hi
        rw [Nat.mul_one, Nat.add_zero]
        exact hz _ _ _ this.1 this.2
      · exact k3 fz hz y hy
  | .rows n wd g :: r, v :: vs, K, h, hv => by
    obtain ⟨⟨ad, cap, e, h1, h2, h3⟩, hr⟩ := hv
    obtain ⟨l, k1, k2, k3⟩ := answers_pick (K := fun l => K (.sc (.xs ad n cap wd g) :: l)) (h ad cap h1 h2) hr
    refine ⟨.sc (.xs ad n cap wd g) :: l, k1, fun ρ => ?_, fun fz hz y hy => ?_⟩
    · rw [List.map_cons, k2 ρ, e]; rfl
    · rcases List.mem_cons.1 hy with rfl | hy
      · exact isSl.bnd h1 h2 h3 fz hz
      · exact k3 fz hz y hy
  | .st ks :: r, v :: vs, K, h, hv => by
    obtain ⟨⟨us, e, hg⟩, hr⟩ := hv
    obtain ⟨l1, h', e1, b1⟩ := answersK_pick (K := fun l => answers r fun l' => K (.agg l :: l')) h hg
    obtain ⟨l, k1, k2, k3⟩ := answers_pick (K := fun l => K (.agg l1 :: l)) h' hr
    refine ⟨.agg l1 :: l, k1, fun ρ => ?_, fun fz hz y hy => ?_⟩
    · rw [List.map_cons, k2 ρ, e]; simp only [SA.conc, e1]
    · rcases List.mem_cons.1 hy with rfl | hy
      · exact b1 fz hz
      · exact k3 fz hz y hy
  | [], _ :: _, _, _, hv => by exact hv.elim
  | .v _ :: _, [], _, _, hv => by exact hv.elim
  | .s _ _ _ :: _, [], _, _, hv => by exact hv.elim
  | .rows _ _ _ :: _, [], _, _, hv => by exact hv.elim
  | .st _ :: _, [], _, _, hv => by exact hv.elim
abbrev seenEnv (w : World) : Env := ⟨fun _ => True, fun b o v => w.cell? ⟨b, o, none⟩ = some v⟩
theorem lent_row (H : Holds W0 ρ tm ob a w) {o : Nat} {e' : TypeId} {w1 n sp off len cap : Nat} {g : Nat → Nat → SC} (hob : ob[o]? = some (.row e' w1 n g sp)) (hol : off + len ≤ n) (hlc : len ≤ cap) :
    (SC.xs (some ⟨ρ o, off * w1, none⟩) len cap w1 fun i c => g (off + i) c).bnd (seenEnv w) := by
  have hle : Env.le (lv ρ ob) (seenEnv w) := ⟨fun _ _ => trivial, fun b o v hv => (H.mem.frz b o v hv).1⟩
  obtain ⟨_, ⟨rest, _, hrow⟩, hok⟩ := H.mem.rows hob
  refine ⟨fun e => (by cases e), hlc, fun bb hbb => ?_⟩
  simp only [Option.some.injEq] at hbb
  subst hbb
  refine ⟨fun _ => rfl, fun i hi c hc => ?_⟩
  obtain ⟨q1, q2⟩ := hok (off + i) (by omega) c hc
  refine ⟨SC.bnd_mono (n := (lv ρ ob).bare) (m := (seenEnv w).bare) ⟨fun _ x => x, hle.fz⟩ q1, q2, ?_⟩
  have hg := rowc_get (w := w1) (n := n) (g := g) (i := off + i) (c := c) (by omega) hc
  have hlt : (off + i) * w1 + c < n * w1 := by
    have : (off + i + 1) * w1 ≤ n * w1 := Nat.mul_le_mul_right _ (by omega)
    rw [Nat.add_mul, Nat.one_mul] at this
    omega
  simp only [World.cell?, hrow]
  rw [show off * w1 + (i * w1 + c) = (off + i) * w1 + c by rw [Nat.add_mul]; omega, List.getElem?_toArray, List.getElem?_append_left (by rw [rowc_length]; exact hlt)]
  exact hg
theorem lentK_sound (H : Holds W0 ρ tm ob a w) : ∀ {ks : List SK} {K : List SK → Prop}, (∀ k ∈ ks, k.bnd (lv ρ ob)) → lentK ob ks K → ∃ l, K l ∧ concs ρ l = concs ρ ks ∧ ∀ k ∈ l, k.bnd (seenEnv w)
  | [], K, _, h => ⟨[], h, rfl, fun x hx => by cases hx⟩
  | x :: r, K, hb, h => by
    have hle : Env.le (lv ρ ob) (seenEnv w) := ⟨fun _ _ => trivial, fun b o v hv => (H.mem.frz b o v hv).1⟩
    have hr : ∀ y ∈ r, y.bnd (lv ρ ob) := fun y hy => hb y (by simp [hy])
    unfold lentK at h
    split at h
    · rename_i heq; cases heq
    · rename_i o w1 off len cap r' heq
      simp only [List.cons.injEq] at heq
      obtain ⟨rfl, rfl⟩ := heq
      split at h
      case h_2 => exact h.no
      rename_i e' w2 n g sp hob
      split at h
      case h_2 => exact h.no
      rename_i hw
      have hw1 := Nat.eq_of_beq_eq_true hw
      subst hw1
      obtain ⟨⟨hol, hlc, _⟩, h⟩ := ands_iff.1 h
      obtain ⟨l, k1, k2, k3⟩ := lentK_sound H hr (h ⟨ρ o, off * w1, none⟩)
      refine ⟨_, k1, by rw [concs_cons, concs_cons ρ (.c (.slw o w1 off len cap)), k2]; rfl, fun y hy => ?_⟩
      rcases List.mem_cons.1 hy with rfl | hy
      · exact lent_row H hob hol hlc
      · exact k3 y hy
    · rename_i y r' K' _ heq
      simp only [List.cons.injEq] at heq
      obtain ⟨rfl, rfl⟩ := heq
      obtain ⟨l, k1, k2, k3⟩ := lentK_sound H hr h
      refine ⟨_, k1, by rw [concs_cons ρ x l, concs_cons ρ x r, k2], fun y hy => ?_⟩
      rcases List.mem_cons.1 hy with rfl | hy
      · exact SK.bnd_mono hle (hb y (by simp))
      · exact k3 y hy
theorem lent_sound (H : Holds W0 ρ tm ob a w) : ∀ {args : List SA} {K : List SA → Prop}, (∀ x ∈ args, x.bnd (lv ρ ob)) → lent ob args K → ∃ l, K l ∧ l.map (SA.conc ρ) = args.map (SA.conc ρ) ∧ ∀ x ∈ l, x.bnd ⟨fun _ => True, fun b o v => w.cell? ⟨b, o, none⟩ = some v⟩
  | [], K, _, h => ⟨[], h, rfl, fun x hx => by cases hx⟩
  | x :: r, K, hb, h => by
    have hle : Env.le (lv ρ ob) ⟨fun _ => True, fun b o v => w.cell? ⟨b, o, none⟩ = some v⟩ := ⟨fun _ _ => trivial, fun b o v hv => (H.mem.frz b o v hv).1⟩
    have hr : ∀ y ∈ r, y.bnd (lv ρ ob) := fun y hy => hb y (by simp [hy])
    unfold lent at h
    split at h
    · rename_i heq; cases heq
    · rename_i o off len cap r' heq
      simp only [List.cons.injEq] at heq
      obtain ⟨rfl, rfl⟩ := heq
      split at h
      case h_2 => exact h.no
      rename_i e' ks sp hob
      split at h
      case h_2 => exact h.no
      rename_i cs hcs
      split at h
      case h_2 => exact h.no
      rename_i k hk
      split at h
      case h_2 => exact h.no
      rename_i hka
      obtain ⟨⟨hlc, _⟩, h⟩ := ands_iff.1 h
      obtain ⟨_, ⟨rest, _, hrow⟩, _⟩ := H.mem.obj o e' ks sp hob
      obtain ⟨l, k1, k2, k3⟩ := lent_sound H hr (h ⟨ρ o, off, none⟩)
      refine ⟨_, k1, by rw [List.map_cons, List.map_cons, k2]; rfl, fun y hy => ?_⟩
      rcases List.mem_cons.1 hy with rfl | hy
      · refine ⟨fun e => (by cases e), hlc, fun bb hbb => ?_⟩
        simp only [Option.some.injEq] at hbb
        subst hbb
        refine ⟨fun _ => rfl, fun i hi c hc => ⟨trivial, rfl, ?_⟩⟩
        have hc0 : c = 0 := by omega
        subst hc0
        obtain ⟨l1, l2⟩ := concs_sub hcs ρ
        have hlen : (flat cs).length = len := by
          obtain ⟨a, b⟩ := sub_flat hcs
          rw [b]; simp; omega
        have := selG_conc hka ρ (j := i) (by omega)
        rw [l2, List.getElem?_take, if_pos hi, List.getElem?_drop] at this
        simp only [World.cell?, hrow, Nat.mul_one, Nat.add_zero]
        rw [List.getElem?_toArray, List.getElem?_append_left (List.getElem?_eq_some_iff.1 this).1]
        exact this
      · exact k3 y hy
    · rename_i o w1 off len cap r' heq
      simp only [List.cons.injEq] at heq
      obtain ⟨rfl, rfl⟩ := heq
      split at h
      case h_2 => exact h.no
      rename_i e' w2 n g sp hob
      split at h
      case h_2 => exact h.no
      rename_i hw
      have hw1 := Nat.eq_of_beq_eq_true hw
      subst hw1
      obtain ⟨⟨hol, hlc, _⟩, h⟩ := ands_iff.1 h
      obtain ⟨l, k1, k2, k3⟩ := lent_sound H hr (h ⟨ρ o, off * w1, none⟩)
      refine ⟨_, k1, by rw [List.map_cons, List.map_cons, k2]; rfl, fun y hy => ?_⟩
      rcases List.mem_cons.1 hy with rfl | hy
      · exact lent_row H hob hol hlc
      · exact k3 y hy
    · rename_i ks r' heq
      simp only [List.cons.injEq] at heq
      obtain ⟨rfl, rfl⟩ := heq
      obtain ⟨ks', h', e1, e2⟩ := lentK_sound H (hb (.agg ks) (by simp)) h
      obtain ⟨l, k1, k2, k3⟩ := lent_sound H hr h'
      refine ⟨_, k1, by rw [List.map_cons, List.map_cons, k2]; simp only [SA.conc, e1], fun y hy => ?_⟩
      rcases List.mem_cons.1 hy with rfl | hy
      · exact e2
      · exact k3 y hy
    · rename_i y r' K' _ _ _ heq
      simp only [List.cons.injEq] at heq
      obtain ⟨rfl, rfl⟩ := heq
      obtain ⟨l, k1, k2, k3⟩ := lent_sound H hr h
      refine ⟨_, k1, by rw [List.map_cons, List.map_cons, k2], fun y hy => ?_⟩
      rcases List.mem_cons.1 hy with rfl | hy
      · exact SA.bnd_mono hle (hb y (by simp))
      · exact k3 y hy
theorem shared (H : Holds W0 ρ tm ob a w) {w' : World} (hbl : Below w.heap.size w w') {sh : Prop} {rs : List RS} {vs : List Value} {k : SV → List SO → Prop} (h : answers rs fun l => k (resV l) ob) (hvs : RS.isL w' (fun b => w.heap.size ≤ b ∨ (sh ∧ ∃ o u, ρ.fz b o u)) rs vs) :
    ∃ ρ' sv, k sv ob ∧ sv.rep ρ' (valL vs) ∧ sv.bnd (lv ρ' ob) ∧ Holds W0 ρ' tm ob a w' := by
  obtain ⟨xs, hk, hx1, hx2⟩ := answers_pick h hvs
  have hlt : ∀ i, live ob i → ρ i < w.heap.size := by
    rintro i ⟨x, hi, hx⟩
    obtain ⟨_, ⟨_, _, h2⟩, _⟩ := H.mem.objs i x hi hx
    exact heap_lt h2
  have H1 := (H.world hbl).frozen (fun b o v => (w.heap.size ≤ b ∨ (sh ∧ ∃ o u, ρ.fz b o u)) ∧ w'.cell? ⟨b, o, none⟩ = some v)
    (fun b o v hF => ⟨hF.2, fun i hi => by
      rcases hF.1 with hb | ⟨_, o, u, hf⟩
      · have := hlt i hi; omega
      · exact (H.mem.frz b o u hf).2 i hi⟩)
    (fun b o v hF => by
      rcases hF.1 with hb | ⟨_, hf⟩
      · exact .inr (Nat.le_trans H.below.size hb)
      · exact .inl hf)
  refine ⟨⟨ρ.pos, _⟩, _, hk, ?_, ?_, H1⟩
  · rw [← hx1 ⟨ρ.pos, _⟩]
    exact valL_conc _ xs
  · have hle : Env.le ⟨fun _ => False, fun b o v => ρ.fz b o v ∨ (w.heap.size ≤ b ∨ sh ∧ ∃ o u, ρ.fz b o u) ∧ w'.cell? ⟨b, o, none⟩ = some v⟩ (lv ⟨ρ.pos, fun b o v => ρ.fz b o v ∨ (w.heap.size ≤ b ∨ sh ∧ ∃ o u, ρ.fz b o u) ∧ w'.cell? ⟨b, o, none⟩ = some v⟩ ob) := ⟨fun _ h => h.elim, fun _ _ _ h => h⟩
    exact resV_bnd fun x hx => SA.bnd_mono hle (hx2 _ (fun b o v hf hc => .inr ⟨hf, hc⟩) x hx)
end
theorem inlS_ok {P : Program} {gl : Globs} {sl : List (Nat × SSpec)} (hsl : ∀ p ∈ sl, FnOKs P gl p.1 p.2) {inner : Inl} (hin : InlOK P gl inner) : InlOK P gl (inlS sl inner) := by
  intro f args ob k h Z ρ tm a w hz H hargs
  unfold inlS at h
  split at h
  · exact hin f args ob k h hz H hargs
  rename_i s hs
  have hfn := getSS_ok hsl hs
  split at h
  · -- lent
    rename_i hsh
    obtain ⟨l, hl, e1, b1⟩ := lent_sound H hargs h
    split at hl
    case h_2 => exact hl.no
    rename_i ps rs hof
    obtain ⟨hp, hl⟩ := ands_iff.1 hl
    have hle : Env.le (lv ρ ob) ⟨fun _ => True, fun b o v => w.cell? ⟨b, o, none⟩ = some v⟩ := ⟨fun _ _ => trivial, fun b o v hv => (H.mem.frz b o v hv).1⟩
    have hgl : GlobsOK gl fun b o v => w.cell? ⟨b, o, none⟩ = some v := by
      rw [← hz]
      intro p hp
      obtain ⟨g1, g2⟩ := H.gl p hp
      exact ⟨fun k hk => SK.bnd_mono (n := ⟨fun _ => False, ρ.fz⟩) (m := ⟨fun _ => False, fun b o v => w.cell? ⟨b, o, none⟩ = some v⟩) ⟨fun _ x => x, hle.fz⟩ (g1 k hk), fun o v h => hle.fz _ _ _ (g2 o v h)⟩
    obtain ⟨r, hc⟩ := hfn l ps rs hof hp ⟨ρ.pos, fun b o v => w.cell? ⟨b, o, none⟩ = some v⟩ w (fun _ _ _ h => h) hgl b1
    have hpos : l.map (SA.conc ⟨ρ.pos, fun b o v => w.cell? ⟨b, o, none⟩ = some v⟩) = args.map (SA.conc ρ) := by
      rw [← e1]; exact List.map_congr_left fun x _ => conc_pos x
    rw [hpos] at r hc
    refine ⟨r, hc.mono ?_⟩
    rintro e w' ⟨vs, rfl, hvs, hbl⟩
    have hvs' : RS.isL w' (fun b => w.heap.size ≤ b ∨ (False ∧ ∃ o u, ρ.fz b o u)) rs vs := hvs.far fun b hb => by
      rcases hb with hb | ⟨hb, _⟩
      · exact .inl hb
      · rw [hsh] at hb; cases hb
    obtain ⟨ρ', sv, q1, q2, q3, q4⟩ := shared H hbl hl hvs'
    exact ⟨_, rfl, ρ', sv, ob, q1, q2, q3, q4.scrubbed⟩
  · split at h
    · -- nothing of one's own
      split at h
      case h_2 => exact h.no
      rename_i ps rs hof
      obtain ⟨hp, h⟩ := ands_iff.1 h
      obtain ⟨r, hc⟩ := hfn args ps rs hof hp ρ w (fun b o v hv => (H.mem.frz b o v hv).1) (hz ▸ H.gl) (fun x hx => SA.bnd_mono lv_all (hargs x hx))
      refine ⟨r, hc.mono ?_⟩
      rintro e w' ⟨vs, rfl, hvs, hbl⟩
      obtain ⟨ρ', sv, q1, q2, q3, q4⟩ := shared H hbl h hvs
      exact ⟨_, rfl, ρ', sv, ob, q1, q2, q3, q4.scrubbed⟩
    · rename_i pre o off len cap post hfz
      split at h
      case h_2 => exact h.no
      rename_i e' ks sp hob
      split at h
      case h_2 => exact h.no
      rename_i cs hcs
      split at h
      case h_2 => exact h.no
      rename_i kd hkd
      split at h
      case h_2 => exact h.no
      rename_i hkb
      simp only [Bool.and_eq_true] at hkb
      obtain ⟨⟨hlc, _⟩, h⟩ := ands_iff.1 h
      have hys := frzOf_spec hfz
      obtain ⟨_, ⟨rest, _, hrow⟩, _⟩ := H.mem.obj o e' ks sp hob
      have hgb : w.grownBy w (some (ρ o)) := ⟨rfl, rfl, rfl, Nat.le_refl _, fun _ _ _ => rfl⟩
      have H1 := (H.killed hob rfl hgb hkb.2).frozen (fun bl c v => bl = ρ o ∧ (concs ρ ks ++ rest)[c]? = some v) (fun bl c v hF => by
        obtain ⟨rfl, hv⟩ := hF
        refine ⟨by simp only [World.cell?, hrow]; simpa using hv, fun i hi => ?_⟩
        obtain ⟨q1, q2⟩ := live_dead.1 hi
        exact fun e => q2 (H.mem.injs _ _ q1 (live_cells hob) e)) (fun bl c v hF => by rw [hF.1]; exact .inr (H.mem.objs _ _ hob rfl).1)
      have h := h ⟨ρ o, off, none⟩
      split at h
      case h_2 => exact h.no
      rename_i ps rs hof
      obtain ⟨hp, h⟩ := ands_iff.1 h
      have hle : Env.le (lv ρ ob) ⟨fun _ => True, fun bl c v => ρ.fz bl c v ∨ (bl = ρ o ∧ (concs ρ ks ++ rest)[c]? = some v)⟩ := ⟨fun _ _ => trivial, fun _ _ _ x => .inl x⟩
      have hxs : (xsI (some ⟨ρ o, off, none⟩) len cap kd (selG cs)).bnd ⟨fun _ => True, fun bl c v => ρ.fz bl c v ∨ (bl = ρ o ∧ (concs ρ ks ++ rest)[c]? = some v)⟩ := by
        refine ⟨fun e => (by cases e), hlc, fun bb hb => ?_⟩
        simp only [Option.some.injEq] at hb
        subst hb
        refine ⟨fun _ => rfl, fun i hi c hc => ⟨trivial, rfl, .inr ⟨rfl, ?_⟩⟩⟩
        have hc0 : c = 0 := by omega
        subst hc0
        obtain ⟨l1, l2⟩ := concs_sub hcs ρ
        have hlen : (flat cs).length = len := by
          obtain ⟨a, b⟩ := sub_flat hcs
          rw [b]; simp; omega
        have := selG_conc hkb.1 ρ (j := i) (by omega)
        rw [l2, List.getElem?_take, if_pos hi, List.getElem?_drop] at this
        rw [Nat.mul_one, Nat.add_zero, List.getElem?_append_left (List.getElem?_eq_some_iff.1 this).1]
        exact this
      have hall : ∀ x ∈ pre ++ xsI (some ⟨ρ o, off, none⟩) len cap kd (selG cs) :: post, x.bnd ⟨fun _ => True, fun bl c v => ρ.fz bl c v ∨ (bl = ρ o ∧ (concs ρ ks ++ rest)[c]? = some v)⟩ := by
        intro x hx
        have old : ∀ y ∈ args, y.bnd ⟨fun _ => True, fun bl c v => ρ.fz bl c v ∨ (bl = ρ o ∧ (concs ρ ks ++ rest)[c]? = some v)⟩ := fun y hy => SA.bnd_mono hle (hargs y hy)
        rw [hys] at old
        rcases List.mem_append.1 hx with hx | hx
        · exact old x (by simp [hx])
        · rcases List.mem_cons.1 hx with rfl | hx
          · exact hxs
          · exact old x (by simp [hx])
      have hconc : (pre ++ xsI (some ⟨ρ o, off, none⟩) len cap kd (selG cs) :: post).map (SA.conc ⟨ρ.pos, fun bl c v => ρ.fz bl c v ∨ (bl = ρ o ∧ (concs ρ ks ++ rest)[c]? = some v)⟩) = args.map (SA.conc ρ) := by
        rw [List.map_congr_left (fun x _ => conc_pos x), hys]
        simp only [List.map_append, List.map_cons]
        rfl
      obtain ⟨r, hc⟩ := hfn _ ps rs hof hp ⟨ρ.pos, fun bl c v => ρ.fz bl c v ∨ (bl = ρ o ∧ (concs ρ ks ++ rest)[c]? = some v)⟩ w (fun b c v hv => (H1.mem.frz b c v hv).1) (hz ▸ H1.gl) hall
      rw [hconc] at r hc
      refine ⟨r, hc.mono ?_⟩
      rintro e w' ⟨vs, rfl, hvs, hbl⟩
      obtain ⟨ρ', sv, q1, q2, q3, q4⟩ := shared H1 hbl h hvs
      exact ⟨_, rfl, ρ', sv, _, q1, q2, q3, q4⟩
section
variable {P : Program} {W0 : Base} {ρ : Rho} {tm : List SV} {ob : List SO} {a : Act} {w : World}
def inlX (P : Program) (cx : Cx) (sl : List (Nat × SSpec)) (dr : Drawn) (iv : List (Nat × Hint)) (N : Nat) : Nat → Inl
  | 0 => inlS sl noInl
  | d + 1 => inlS sl fun f args ob k =>
    match P.funcs[f]? with
    | some fn =>
      match fn.body, fn.name == "runtime.NumGoroutine" with
      | some c, false => sx P { cx with kn := ob.length } (inlX P cx sl dr iv N d) dr iv N ((f + 1) * 100000) ob.length c (slots0 args fn.ntmps) ob (ret P fn.results.toList k)
      | _, _ => StuckAt "no text"
    | none => StuckAt "no function"
theorem inlX_ok {cx : Cx} (hcx : CxOK P cx) {sl : List (Nat × SSpec)} (hsl : ∀ p ∈ sl, FnOKs P cx.gl p.1 p.2) {dr : Drawn} (hdr : DrawnOK P cx dr) (iv : List (Nat × Hint)) (N : Nat) : ∀ d, InlOK P cx.gl (inlX P cx sl dr iv N d)
  | 0 => inlS_ok hsl (noInl_ok P cx.gl)
  | d + 1 => by
    refine inlS_ok hsl ?_
    intro f args ob k h Z ρ tm a w hz H hargs
    split at h
    case h_2 => exact h.no
    rename_i fn hf
    split at h
    case h_2 => exact h.no
    rename_i c hb hn
    refine ⟨run_callFunc_enter hf (by rw [hb]; rfl) hn _ w, ?_⟩
    refine calls_of_sx (cx := { cx with kn := ob.length }) hcx (inlX_ok hcx hsl hdr iv N d) hdr iv N _ hf hb args ρ hargs w H.below H.mem (by rw [← hz]; exact H.gl) (Nat.le_refl _) H.keeps k (fun sv ob' ρ' v w' hk hr hbd hB hm hkp hfz hkk => ?_) h
    refine ⟨v, rfl, ρ', sv, ob', hk, hr, hbd, H.onto (fun i hi hi' => ?_) hfz.le hfz.own hB hm ⟨fun i hi => ?_, fun i hi => hkp.2.1 i (H.kept.2.1 i hi), Nat.le_trans H.kept.2.2 hkp.2.2⟩ hkk⟩
    · rcases hkp.1 i hi with ⟨_, e⟩ | e
      · exact e
      · obtain ⟨_, h', hh⟩ := hi'; rw [e] at h'; cases h'; cases hh
    · rcases H.kept.1 i hi with ⟨k1, k2⟩ | k1
      · rcases hkp.1 i k1 with ⟨q1, q2⟩ | q
        · exact .inl ⟨q1, Eq.trans q2 k2⟩
        · exact .inr q
      · exact .inr (hkp.2.1 i k1)
def isInt (k : IntKind) (n : Int) (s : SC) : Prop :=
  match asI (.sc s) with
  | some (k', m) => if k' = k then m = n else False
  | none => False
theorem isInt_sound {k : IntKind} {n : Int} {s : SC} (h : isInt k n s) (ρ : Rho) : s.conc ρ = .int k n := by
  unfold isInt at h
  split at h
  · rename_i k' m hm
    split at h
    · rename_i e
      subst e
      subst h
      exact asI_sound hm ρ
    · exact h.elim
  · exact h.elim
def okS (sh : Bool) (ob : List SO) (n wd : Nat) (g : Nat → Nat → SC) : SC → Prop
  | .val (.slice none 0 0) => n = 0
  | .slw o w off len cap => match ob[o]? with
    | some (.row _ w' m h _) => match Nat.beq w wd && Nat.beq w' wd with
      | true => ands [off + len ≤ m, len = n, len ≤ cap] (∀ i, i < n → allC wd fun c => simC (h (off + i) c) (g i c))
      | false => StuckAt "row"
    | _ => StuckAt "row"
  | .xs _ len _ w h => match sh, Nat.beq w wd with
    | true, true => ands [len = n] (∀ i, i < n → allC wd fun c => simC (h i c) (g i c))
    | _, _ => StuckAt "shared"
  | _ => StuckAt "result"
def okK (sh : Bool) (ob : List SO) : List RK → List SK → Prop
  | [], [] => True
  | .k x :: r, y :: r' => match grab (y :: r') x.cells.length, seek (y :: r') x.cells.length with
    | some a, some b => ands [sameK a [x]] (okK sh ob r b)
    | _, _ => StuckAt "parts"
  | .s n wd g :: r, .c y :: r' => okS sh ob n wd g y ∧ okK sh ob r r'
  | _, _ => StuckAt "parts"
def okR (sh : Bool) (ob : List SO) : RS → SA → Prop
  | .v y, x => sameA x y
  | .s n k g, .sc x => match x with
    | .val (.slice none 0 0) => n = 0
    | .slw o w off len cap => match ob[o]? with
      | some (.row _ w' m h _) => match Nat.beq w 1 && Nat.beq w' 1 with
        | true => ands [off + len ≤ m, len = n, len ≤ cap] (∀ i, i < n → isInt k (g i) (h (off + i) 0))
        | false => StuckAt "row"
      | _ => StuckAt "row"
    | .sl o off len cap => match ob[o]? with
      | some (.cells _ ks _) => match sub ks off len with
        | some cs => match kindAll k cs with
          | true => ands [len = n, len ≤ cap] (∀ i, i < n → selG cs i = g i)
          | false => StuckAt "cells"
        | none => StuckAt "cells"
      | _ => StuckAt "cells"
    | .xs _ len _ w h => match sh, Nat.beq w 1 with
      | true, true => ands [len = n] (∀ i, i < n → isInt k (g i) (h i 0))
      | _, _ => StuckAt "shared"
    | _ => StuckAt "result"
  | .rows n wd g, .sc x => okS sh ob n wd g x
  | .st ks, .agg l => okK sh ob ks l
  | _, _ => StuckAt "result"
def okRL (sh : Bool) (ob : List SO) : List RS → List SA → Prop
  | [], [] => True
  | [r], [x] => okR sh ob r x
  | r :: rs, x :: xs => okR sh ob r x ∧ okRL sh ob rs xs
  | _, _ => False
def okRS (sh : Bool) (rs : List RS) (sv : SV) (ob : List SO) : Prop :=
  match sv with
  | .one x => okRL sh ob rs [x]
  | .tup [_] => False
  | .tup xs => okRL sh ob rs xs
  | _ => False
def closedG (n wd : Nat) (g : Nat → Nat → SC) : Prop := ∀ i, i < n → ∀ c, c < wd → (g i c).bnd none0 ∧ (g i c).fit = true
def RK.closed : RK → Prop
  | .k x => x.bnd none0
  | .s n wd g => closedG n wd g
def RS.closed : RS → Prop
  | .v x => x.bnd none0
  | .s _ _ _ => True
  | .rows n wd g => closedG n wd g
  | .st ks => ∀ k ∈ ks, k.closed
theorem okS_sound {B : Nat} {F : Nat → Nat → Value → Prop} {ob : List SO} (hm : Mem B ρ ob w) (hf : ∀ b o v, ρ.fz b o v → (∃ o u, F b o u) ∨ B ≤ b) {sh : Bool} {n wd : Nat} {g : Nat → Nat → SC} {x : SC} (hr : closedG n wd g) (hx : x.bnd (lv ρ ob)) (h : okS sh ob n wd g x) :
    isSl w (fun b => B ≤ b ∨ (sh = true ∧ ∃ o u, F b o u)) n wd g (x.conc ρ) := by
  unfold okS at h
  split at h
  · subst h
    exact ⟨none, 0, rfl, fun _ => ⟨rfl, rfl⟩, Nat.le_refl _, fun b hb => by cases hb⟩
  · rename_i o w1 off len cap
    split at h
    case h_2 => exact h.no
    rename_i e' w2 m g' sp hob
    split at h
    case h_2 => exact h.no
    rename_i hw
    simp only [Bool.and_eq_true] at hw
    have hw1 := Nat.eq_of_beq_eq_true hw.1
    have hw2 := Nat.eq_of_beq_eq_true hw.2
    subst hw1
    subst hw2
    obtain ⟨⟨hol, hln, hlc, _⟩, h⟩ := ands_iff.1 h
    subst hln
    obtain ⟨hB, ⟨rest, _, hrow⟩, _⟩ := hm.rows hob
    refine ⟨some ⟨ρ o, off * w2, none⟩, cap, rfl, fun e => (by cases e), hlc, fun b hb => ?_⟩
    simp only [Option.some.injEq] at hb
    subst hb
    refine ⟨fun _ => rfl, fun i hi c hc => ⟨hr i hi c hc, .inl hB, ?_⟩⟩
    have hg := rowc_get (w := w2) (n := m) (g := g') (i := off + i) (c := c) (by omega) hc
    have hlt : (off + i) * w2 + c < m * w2 := by
      have : (off + i + 1) * w2 ≤ m * w2 := Nat.mul_le_mul_right _ (by omega)
      rw [Nat.add_mul, Nat.one_mul] at this
      omega
    simp only [World.cell?, hrow]
    rw [show off * w2 + (i * w2 + c) = (off + i) * w2 + c by rw [Nat.add_mul]; omega, List.getElem?_toArray, List.getElem?_append_left (by rw [rowc_length]; exact hlt), ← simC_sound Rho.nil (allC_at (h i hi) c hc)]
    exact hg
  · rename_i ad len cap w1 h'
    split at h
    case h_2 => exact h.no
    rename_i hs hw
    have hw1 := Nat.eq_of_beq_eq_true hw
    subst hw1
    obtain ⟨⟨hln, _⟩, h⟩ := ands_iff.1 h
    subst hln
    obtain ⟨b1, b2, b3⟩ := hx
    refine ⟨ad, cap, rfl, b1, b2, fun b hb => ⟨(b3 b hb).1, fun i hi c hc => ?_⟩⟩
    obtain ⟨_, _, q⟩ := (b3 b hb).2 i hi c hc
    rw [simC_sound Rho.nil (allC_at (h i hi) c hc)] at q
    refine ⟨hr i hi c hc, ?_, (hm.frz _ _ _ q).1⟩
    rcases hf _ _ _ q with k | k
    · exact .inr ⟨rfl, k⟩
    · exact .inl k
  · exact h.no
theorem okK_sound {B : Nat} {F : Nat → Nat → Value → Prop} {ob : List SO} (hm : Mem B ρ ob w) (hf : ∀ b o v, ρ.fz b o v → (∃ o u, F b o u) ∨ B ≤ b) {sh : Bool} : ∀ {ks : List RK} {l : List SK}, (∀ k ∈ ks, k.closed) → (∀ x ∈ l, x.bnd (lv ρ ob)) → okK sh ob ks l →
    isG w (fun b => B ≤ b ∨ (sh = true ∧ ∃ o u, F b o u)) ks (concs ρ l)
  | [], [], _, _, _ => rfl
  | .k x :: r, y :: r', hk, hl, h => by
    unfold okK at h
    split at h
    case h_2 => exact h.no
    rename_i a b ha hb'
    obtain ⟨⟨h1, _⟩, h2⟩ := ands_iff.1 h
    have hb : x.bnd none0 := hk (.k x) (by simp)
    have hcat : concs ρ (y :: r') = concs ρ a ++ concs ρ b := by
      have e1 := (grab_flat _ _ ha).2
      have e2 := (seek_flat _ _ hb').2
      unfold concs
      rw [← List.map_append, e1, e2, List.take_append_drop]
    refine ⟨concs ρ b, ?_, hb, okK_sound hm hf (fun k h => hk k (by simp [h])) (bnd_flat.2 (mem_seek hb' (bnd_flat.1 hl))) h2⟩
    rw [hcat, sameK_sound ρ _ _ h1, Agree.sks (n := none0) (ρ := Rho.nil) (ρ' := ρ) (fun _ hi => hi.elim) (fun c hc => by rw [List.mem_singleton.1 hc]; exact hb)]
  | .s n wd g :: r, .c y :: r', hk, hl, h =>
    ⟨y.conc ρ, concs ρ r', by rw [concs_cons ρ _ r']; rfl, okS_sound hm hf (hk (.s n wd g) (by simp)) (hl (.c y) (by simp)) h.1, okK_sound hm hf (fun k h => hk k (by simp [h])) (fun x h => hl x (by simp [h])) h.2⟩
  | [], _ :: _, _, _, h | .k _ :: _, [], _, _, h | .s _ _ _ :: _, [], _, _, h | .s _ _ _ :: _, .u _ :: _, _, _, h | .s _ _ _ :: _, .f _ _ _ :: _, _, _, h => by unfold okK at h; exact h.no
theorem okR_sound {B : Nat} {F : Nat → Nat → Value → Prop} {ob : List SO} (hm : Mem B ρ ob w) (hf : ∀ b o v, ρ.fz b o v → (∃ o u, F b o u) ∨ B ≤ b) {sh : Bool} {r : RS} {x : SA} (hr : r.closed) (hx : x.bnd (lv ρ ob)) (h : okR sh ob r x) : r.is w (fun b => B ≤ b ∨ (sh = true ∧ ∃ o u, F b o u)) (x.conc ρ) := by
  cases r with
  | rows n wd g =>
    cases x with
    | sc x => exact okS_sound hm hf hr hx h
    | agg l => unfold okR at h; exact h.no
  | st ks =>
    cases x with
    | sc x => unfold okR at h; exact h.no
    | agg l => exact ⟨concs ρ l, rfl, okK_sound hm hf hr hx h⟩
  | v y => exact ⟨by rw [sameA_sound ρ h]; exact (Agree.sa (n := none0) (ρ := ρ) (ρ' := Rho.nil) (fun _ hi => hi.elim) hr).symm, hr⟩
  | s n k g =>
    unfold okR at h
    split at h
    · rename_i h1; cases h1
    · rename_i n' k' g' x heq
      simp only [RS.s.injEq] at heq
      obtain ⟨rfl, rfl, rfl⟩ := heq
      split at h
      · subst h
        exact ⟨none, 0, rfl, fun _ => ⟨rfl, rfl⟩, Nat.le_refl _, fun b hb => by cases hb⟩
      · rename_i o w1 off len cap
        split at h
        case h_2 => exact h.no
        rename_i e' w2 m g' sp hob
        split at h
        case h_2 => exact h.no
        rename_i hw
        simp only [Bool.and_eq_true] at hw
        have hw1 := Nat.eq_of_beq_eq_true hw.1
        have hw2 := Nat.eq_of_beq_eq_true hw.2
        subst hw1
        subst hw2
        obtain ⟨⟨hol, hln, hlc, _⟩, h⟩ := ands_iff.1 h
        subst hln
        obtain ⟨hB, ⟨rest, _, hrow⟩, hok⟩ := hm.rows hob
        refine ⟨some ⟨ρ o, off, none⟩, cap, by simp only [SA.conc, SC.conc, Nat.mul_one], fun e => (by cases e), hlc, fun b hb => ?_⟩
        simp only [Option.some.injEq] at hb
        subst hb
        refine ⟨fun _ => rfl, fun i hi => ⟨.inl hB, ?_⟩⟩
        have hg := rowc_get (w := 1) (n := m) (g := g') (i := off + i) (c := 0) (by omega) (by omega)
        simp only [World.cell?, hrow]
        rw [List.getElem?_toArray, List.getElem?_append_left (by rw [rowc_length]; omega), show off + i = (off + i) * 1 + 0 by omega, hg, isInt_sound (h i hi)]
        rfl
      · rename_i o off len cap
        split at h
        case h_2 => exact h.no
        rename_i e' ks sp hob
        split at h
        case h_2 => exact h.no
        rename_i cs hcs
        split at h
        case h_2 => exact h.no
        rename_i hka
        obtain ⟨⟨hln, hlc, _⟩, h⟩ := ands_iff.1 h
        subst hln
        obtain ⟨hB, ⟨rest, _, hrow⟩, _⟩ := hm.obj o e' ks sp hob
        refine ⟨some ⟨ρ o, off, none⟩, cap, rfl, fun e => (by cases e), hlc, fun b hb => ?_⟩
        simp only [Option.some.injEq] at hb
        subst hb
        refine ⟨fun _ => rfl, fun i hi => ⟨.inl hB, ?_⟩⟩
        obtain ⟨l1, l2⟩ := concs_sub hcs ρ
        have hlen : (flat cs).length = len := by
          obtain ⟨a, b⟩ := sub_flat hcs
          rw [b]; simp; omega
        have := selG_conc hka ρ (j := i) (by omega)
        rw [l2, List.getElem?_take, if_pos hi, List.getElem?_drop, h i hi] at this
        simp only [World.cell?, hrow]
        rw [List.getElem?_toArray, List.getElem?_append_left (List.getElem?_eq_some_iff.1 this).1]
        exact this
      · rename_i ad len cap w1 h'
        split at h
        case h_2 => exact h.no
        rename_i hs hw
        have hw1 := Nat.eq_of_beq_eq_true hw
        subst hw1
        obtain ⟨⟨hln, _⟩, h⟩ := ands_iff.1 h
        subst hln
        obtain ⟨b1, b2, b3⟩ := hx
        refine ⟨ad, cap, rfl, b1, b2, fun b hb => ⟨(b3 b hb).1, fun i hi => ?_⟩⟩
        obtain ⟨_, _, q⟩ := (b3 b hb).2 i hi 0 (by omega)
        rw [isInt_sound (h i hi), Nat.mul_one, Nat.add_zero] at q
        refine ⟨?_, (hm.frz _ _ _ q).1⟩
        rcases hf _ _ _ q with k | k
        · exact .inr ⟨rfl, k⟩
        · exact .inl k
      · exact h.no
    · rename_i h1; cases h1
    · rename_i h1; cases h1
    · exact h.no
theorem okRL_sound {B : Nat} {F : Nat → Nat → Value → Prop} {ob : List SO} (hm : Mem B ρ ob w) (hf : ∀ b o v, ρ.fz b o v → (∃ o u, F b o u) ∨ B ≤ b) {sh : Bool} : ∀ {rs : List RS} {xs : List SA}, (∀ r ∈ rs, r.closed) → (∀ x ∈ xs, x.bnd (lv ρ ob)) → okRL sh ob rs xs → RS.isL w (fun b => B ≤ b ∨ (sh = true ∧ ∃ o u, F b o u)) rs (xs.map (SA.conc ρ))
  | [], [], _, _, _ => trivial
  | [r], [x], hr, hx, h => ⟨okR_sound hm hf (hr r (by simp)) (hx x (by simp)) h, trivial⟩
  | r :: r2 :: rs, x :: xs, hr, hx, h => ⟨okR_sound hm hf (hr r (by simp)) (hx x (by simp)) h.1, okRL_sound hm hf (fun y hy => hr y (by simp [hy])) (fun y hy => hx y (by simp [hy])) h.2⟩
  | [r], x :: y :: xs, hr, hx, h => ⟨okR_sound hm hf (hr r (by simp)) (hx x (by simp)) h.1, by exact h.2.elim⟩
  | [], _ :: _, _, _, h => by exact h.elim
  | [_], [], _, _, h => by exact h.elim
  | _ :: _ :: _, [], _, _, h => by exact h.elim
def OwesS (P : Program) (cx : Cx) (sl : List (Nat × SSpec)) (iv : List (Nat × Hint)) (N : Nat) (fn : Func) (args : List SA) (post : SV → List SO → Prop) : Prop :=
  sx P cx (inlX P cx sl drawOK iv N 8) drawOK iv N 0 0 (fn.body.getD .skip) (slots0 args fn.ntmps) [] (ret P fn.results.toList post)
def OwesV (P : Program) (cx : Cx) (sl : List (Nat × SSpec)) (iv : List (Nat × Hint)) (N : Nat) (fn : Func) (args : List SA) (out : SV) : Prop :=
  OwesS P cx sl iv N fn args fun sv _ => same sv out
def OwesR (P : Program) (cx : Cx) (sl : List (Nat × SSpec)) (iv : List (Nat × Hint)) (N : Nat) (fn : Func) (args : List SA) (sh : Bool) (rs : List RS) : Prop :=
  OwesS P cx sl iv N fn args (okRS sh rs)
theorem calls_of_owesS {cx : Cx} (hcx : CxOK P cx) {sl : List (Nat × SSpec)} (hsl : ∀ p ∈ sl, FnOKs P cx.gl p.1 p.2) {iv : List (Nat × Hint)} {N : Nat} {f : FuncId} {fn : Func} (hf : P.funcs[f]? = some fn) (hb : fn.body.isSome = true) {args : List SA} {post : SV → List SO → Prop}
    (h : OwesS P cx sl iv N fn args post) (ρ : Rho) (w : World) (hz : FzOK ρ.fz w) (hg : GlobsOK cx.gl ρ.fz) (hargs : ∀ x ∈ args, x.bnd ⟨fun _ => False, ρ.fz⟩) :
    Calls P f (args.map (SA.conc ρ)).toArray w fun e w' => ∃ v, e = .returned v ∧ Below w.heap.size w w' ∧ ∃ sv ob' ρ', post sv ob' ∧ sv.rep ρ' v ∧ sv.bnd (lv ρ' ob') ∧ Mem w.heap.size ρ' ob' w' ∧ FzLe ⟨w, [], ρ, cx.gl, noKeep⟩ ρ' := by
  obtain ⟨c, hc⟩ := Option.isSome_iff_exists.1 hb
  unfold OwesS at h
  rw [hc] at h
  exact calls_of_sx hcx (inlX_ok hcx hsl (drawOK_ok hcx) iv N 8) (drawOK_ok hcx) iv N 0 hf hc (Z := w) (ob := []) args ρ (fun x hx => SA.bnd_mono (n := ⟨fun _ => False, ρ.fz⟩) (m := lv ρ []) ⟨fun _ k => k.elim, fun _ _ _ k => k⟩ (hargs x hx)) w (Below.refl _ _) (Mem.start hz) hg (Nat.zero_le _) (Keeps.none _ _ _) _
    (fun sv ob' ρ' v w' hp hr hbd hb hm _ hfz _ => ⟨v, rfl, hb, sv, ob', ρ', hp, hr, hbd, hm, hfz⟩) h
theorem FnOKs_owes {cx : Cx} (hcx : CxOK P cx) {sl : List (Nat × SSpec)} (hsl : ∀ p ∈ sl, FnOKs P cx.gl p.1 p.2) {f : Nat} {fn : Func} (hf : P.funcs[f]? = some fn) (hb : fn.body.isSome = true) (hn : (fn.name == "runtime.NumGoroutine") = false) {s : SSpec}
    (h : ∀ args ps rs, s.of args = some (ps, rs) → Ok ps → ∃ iv N args', (∀ ρ, args.map (SA.conc ρ) = args'.map (SA.conc ρ)) ∧ (∀ fz, (∀ x ∈ args, x.bnd ⟨fun _ => True, fz⟩) → ∀ x ∈ args', x.bnd ⟨fun _ => False, fz⟩) ∧ (∀ r ∈ rs, r.closed) ∧ OwesR P cx sl iv N fn args' s.share rs) : FnOKs P cx.gl f s := by
  intro args ps rs hs hp ρ w hz hg ha
  refine ⟨run_callFunc_enter hf hb hn _ w, ?_⟩
  obtain ⟨iv, N, args', h1, h2, h3, h4⟩ := h args ps rs hs hp
  rw [h1]
  refine (calls_of_owesS hcx hsl hf hb h4 ρ w hz hg (h2 _ ha)).mono ?_
  rintro e w' ⟨v, rfl, hbl, sv, ob', ρ', hp', hr, hbd, hm, hfz⟩
  have key : ∀ xs : List SA, (∀ x ∈ xs, x.bnd (lv ρ' ob')) → okRL s.share ob' rs xs → RS.isL w' (fun b => w.heap.size ≤ b ∨ (s.share = true ∧ ∃ o u, ρ.fz b o u)) rs (xs.map (SA.conc ρ')) := fun xs hx hk => okRL_sound (F := ρ.fz) hm hfz.own h3 hx hk
  unfold okRS at hp'
  split at hp'
  · rename_i x
    exact ⟨_, by rw [hr]; rfl, key [x] (fun y hy => by simp only [List.mem_singleton] at hy; subst hy; exact hbd) hp', hbl⟩
  · exact hp'.elim
  · rename_i xs hne
    refine ⟨xs.map (SA.conc ρ'), ?_, key xs hbd hp', hbl⟩
    rw [hr]
    match xs, hne with
    | [], _ => rfl
    | [x], hne => exact absurd rfl (hne x)
    | x :: y :: r, _ => rfl
  · exact hp'.elim
end
attribute [irreducible] OwesS OwesV OwesR
end Go.Sx
end

section
namespace Go.Sx
open Go.RowKit
def specAdd64 : FSpec := fun args =>
  match args with
  | [x, y, c] => match asI x, asI y, asI c with
    | some (.u64, x), some (.u64, y), some (.u64, c) => some ([0 ≤ x, 0 ≤ y, 0 ≤ c ∧ c ≤ 1], .tup [sI .u64 ((x + y + c) % 18446744073709551616), sI .u64 ((x + y + c) / 18446744073709551616)])
    | _, _, _ => none
  | _ => none
def specSub64 : FSpec := fun args =>
  match args with
  | [x, y, c] => match asI x, asI y, asI c with
    | some (.u64, x), some (.u64, y), some (.u64, c) => some ([0 ≤ x ∧ x < 18446744073709551616, 0 ≤ y ∧ y < 18446744073709551616, 0 ≤ c ∧ c ≤ 1], .tup [sI .u64 ((x - y - c) % 18446744073709551616), sI .u64 (-((x - y - c) / 18446744073709551616))])
    | _, _, _ => none
  | _ => none
def sub64E : Array Value → Sem Value := (Extern.MathBitsCarry.rows.map (·.2)).getD 1 fun _ => stuck "none"
theorem run_sub64 {P : Program} (x y b : Nat) (hb : b ≤ 1) (w : World) :
    (sub64E #[.int .u64 x, .int .u64 y, .int .u64 b]).run P w =
      .ok (.tuple #[.int .u64 (((x + 18446744073709551616 - y - b) % 18446744073709551616 : Nat) : Int), .int .u64 ((if x < y + b then 1 else 0 : Nat) : Int)]) w := by
  have : b = 0 ∨ b = 1 := by omega
  rcases this with rfl | rfl <;> rfl
theorem run_sub64I {P : Program} (x y c : Int) (hx : 0 ≤ x ∧ x < 18446744073709551616) (hy : 0 ≤ y ∧ y < 18446744073709551616) (hc : 0 ≤ c ∧ c ≤ 1) (w : World) :
    (sub64E #[.int .u64 x, .int .u64 y, .int .u64 c]).run P w = .ok (.tuple #[.int .u64 ((x - y - c) % 18446744073709551616), .int .u64 (-((x - y - c) / 18446744073709551616))]) w := by
  obtain ⟨k, rfl⟩ := Int.eq_ofNat_of_zero_le hc.1
  obtain ⟨X, rfl⟩ := Int.eq_ofNat_of_zero_le hx.1
  obtain ⟨Y, rfl⟩ := Int.eq_ofNat_of_zero_le hy.1
  rw [run_sub64 (P := P) X Y k (by omega) w]
  congr 5
  · omega
  · congr 2
    split <;> omega
theorem FnOK_add64 {P : Program} {f : Nat} {fn : Func} (hf : P.funcs[f]? = some fn) (hn : (fn.name == "runtime.NumGoroutine") = false) (hb : fn.body.isNone = true) (h1 : Extern.findNext fn = none) (h2 : Extern.find fn = some add64Entry) : FnOK P f specAdd64 := by
  intro args ps sv hs hp
  unfold specAdd64 at hs
  split at hs
  · rename_i x y c
    split at hs
    · rename_i x' y' c' hx hy hc
      simp only [Option.some.injEq, Prod.mk.injEq] at hs
      obtain ⟨rfl, rfl⟩ := hs
      obtain ⟨p1, p2, ⟨p3, p4⟩, _⟩ := hp
      refine ⟨fun z hz => by simp only [List.mem_cons, List.not_mem_nil, or_false] at hz; rcases hz with rfl | rfl <;> trivial, fun ρ w _ _ _ => .inr ⟨.tuple #[.int .u64 ((x' + y' + c') % 18446744073709551616), .int .u64 ((x' + y' + c') / 18446744073709551616)], ?_, ?_⟩⟩
      · rw [run_callFunc_extern hf hn hb h1 h2]
        simp only [List.map_cons, List.map_nil, asI_sound hx ρ, asI_sound hy ρ, asI_sound hc ρ, run_add64 x' y' c' p1 p2 p3 p4 w, Result.andThen_ok]
      · simp [SV.rep, SA.conc, SC.conc]
    · cases hs
  · cases hs
theorem FnOK_sub64 {P : Program} {f : Nat} {fn : Func} (hf : P.funcs[f]? = some fn) (hn : (fn.name == "runtime.NumGoroutine") = false) (hb : fn.body.isNone = true) (h1 : Extern.findNext fn = none) (h2 : Extern.find fn = some sub64E) : FnOK P f specSub64 := by
  intro args ps sv hs hp
  unfold specSub64 at hs
  split at hs
  · rename_i x y c
    split at hs
    · rename_i x' y' c' hx hy hc
      simp only [Option.some.injEq, Prod.mk.injEq] at hs
      obtain ⟨rfl, rfl⟩ := hs
      obtain ⟨p1, p2, p3, _⟩ := hp
      refine ⟨fun z hz => by simp only [List.mem_cons, List.not_mem_nil, or_false] at hz; rcases hz with rfl | rfl <;> trivial, fun ρ w _ _ _ => .inr ⟨.tuple #[.int .u64 ((x' - y' - c') % 18446744073709551616), .int .u64 (-((x' - y' - c') / 18446744073709551616))], ?_, ?_⟩⟩
      · rw [run_callFunc_extern hf hn hb h1 h2]
        simp only [List.map_cons, List.map_nil, asI_sound hx ρ, asI_sound hy ρ, asI_sound hc ρ, run_sub64I x' y' c' p1 p2 p3 w, Result.andThen_ok]
      · simp [SV.rep, SA.conc, SC.conc]
    · cases hs
  · cases hs
end Go.Sx
end

section
namespace Go.Sx
open Go.RowKit
section
variable {P : Program} {cx : Cx} {sl : List (Nat × SSpec)} {f : Nat} {fn : Func}
theorem bnd_Un {n : Env} (a : Nat) : (SA.agg [SK.u a]).bnd n := by
  intro k hk
  simp only [List.mem_singleton] at hk
  subst hk
  trivial
end
def vz (f : Nat → Int) : Nat → Int
  | 0 => 0
  | n + 1 => vz f n + f n * 4294967296 ^ n
def dg (X : Nat) (i : Nat) : Int := ((X / 4294967296 ^ i % 4294967296 : Nat) : Int)
structure dgs (n : Nat) (f : Nat → Int) : Prop where
  at' : ∀ i, i < n → 0 ≤ f i ∧ f i < 4294967296
def vn (n : Nat) (f : Nat → Int) : Nat := (vz f n).toNat
theorem pw_pos (n : Nat) : (0 : Int) < 4294967296 ^ n := Int.pow_pos (by decide)
theorem vz_bound {f : Nat → Int} : ∀ {n : Nat}, dgs n f → 0 ≤ vz f n ∧ vz f n < 4294967296 ^ n
  | 0, _ => by simp [vz]
  | n + 1, h => by
    obtain ⟨h1, h2⟩ := vz_bound (n := n) ⟨fun i hi => h.at' i (by omega)⟩
    obtain ⟨k1, k2⟩ := h.at' n (by omega)
    have hp := pw_pos n
    simp only [vz, Int.pow_succ]
    refine ⟨Int.add_nonneg h1 (Int.mul_nonneg k1 (Int.le_of_lt hp)), ?_⟩
    have : f n * 4294967296 ^ n ≤ 4294967295 * 4294967296 ^ n := Int.mul_le_mul_of_nonneg_right (by omega) (Int.le_of_lt hp)
    omega
theorem vn_cast {f : Nat → Int} {n : Nat} (h : dgs n f) : ((vn n f : Nat) : Int) = vz f n := by
  unfold vn
  have := (vz_bound h).1
  omega
theorem dgs_dg (n X : Nat) : dgs n (dg X) := ⟨fun i _ => by
  unfold dg
  have := Nat.mod_lt (X / 4294967296 ^ i) (show 0 < 4294967296 by decide)
  omega⟩
theorem vz_dg (X : Nat) : ∀ n, vz (dg X) n = ((X % 4294967296 ^ n : Nat) : Int)
  | 0 => by simp [vz, Nat.mod_one]
  | n + 1 => by
    simp only [vz, vz_dg X n, dg]
    rw [Nat.pow_succ, Nat.mod_mul]
    have : ((4294967296 ^ n : Nat) : Int) = (4294967296 : Int) ^ n := Int.natCast_pow _ _
    rw [← this, Int.mul_comm]
    exact (Int.natCast_add _ _).symm ▸ (Int.natCast_mul _ _).symm ▸ rfl
theorem vn_dg (n X : Nat) : vn n (dg X) = X % 4294967296 ^ n := by
  unfold vn
  rw [vz_dg]
  exact Int.toNat_natCast _
theorem vn_dg' {n X : Nat} (h : X < 4294967296 ^ n) : vn n (dg X) = X := by rw [vn_dg, Nat.mod_eq_of_lt h]
end Go.Sx
end

section
namespace Go.Sx
open Go.RowKit
theorem asI_canon {x : SA} {k : IntKind} {n : Int} (h : asI x = some (k, n)) (ρ : Rho) : x.conc ρ = (sI k n).conc ρ := asI_sound h ρ
def specII (c : Int → Int → List Prop) (g : Int → Int → SV) : FSpec := fun args =>
  match args with
  | [x, y] => match asI x, asI y with
    | some (.i64, a), some (.i64, b) => some (c a b, g a b)
    | _, _ => none
  | _ => none
theorem FnOK_II {P : Program} {cx : Cx} (hcx : CxOK P cx) {iv : List (Nat × Hint)} {N : Nat} {f : Nat} {fn : Func} (hf : P.funcs[f]? = some fn) (hb : fn.body.isSome = true) (hn : (fn.name == "runtime.NumGoroutine") = false) {c : Int → Int → List Prop} {g : Int → Int → SV} (hg : ∀ a b, (g a b).bnd none0)
    (h : ∀ a b, Ok (c a b) → Owes P cx iv N fn [sI .i64 a, sI .i64 b] (g a b)) : FnOKg P cx.gl f (specII c g) := by
  refine FnOK_owes (iv := iv) (N := N) hcx hf hb hn fun args ps sv hs hp => ?_
  unfold specII at hs
  split at hs
  · rename_i x y
    split at hs
    · rename_i a b ha hb'
      simp only [Option.some.injEq, Prod.mk.injEq] at hs
      obtain ⟨rfl, rfl⟩ := hs
      refine ⟨[sI .i64 a, sI .i64 b], fun ρ => by simp only [List.map_cons, List.map_nil, asI_canon ha ρ, asI_canon hb' ρ], ?_, hg a b, h a b hp⟩
      intro z hz
      simp only [List.mem_cons, List.not_mem_nil, or_false] at hz
      rcases hz with rfl | rfl <;> trivial
    · cases hs
  · cases hs
def i64ok (n : Int) : Prop := -9223372036854775808 ≤ n ∧ n ≤ 9223372036854775807
def lookS : List (Nat × SV) → Nat → SV
  | [], _ => .any
  | (k, v) :: r, t => match Nat.beq k t with
    | true => v
    | false => lookS r t
def slotsAt (n : Nat) (l : List (Nat × SV)) : List SV := (List.range n).map (lookS l)
def specI (c : Int → List Prop) (g : Int → SV) : FSpec := fun args =>
  match args with
  | [x] => match asI x with
    | some (.i64, a) => some (c a, g a)
    | _ => none
  | _ => none
theorem FnOK_I {P : Program} {cx : Cx} (hcx : CxOK P cx) {iv : Int → List (Nat × Hint)} {N : Nat} {f : Nat} {fn : Func} (hf : P.funcs[f]? = some fn) (hb : fn.body.isSome = true) (hn : (fn.name == "runtime.NumGoroutine") = false) {c : Int → List Prop} {g : Int → SV} (hg : ∀ a, (g a).bnd none0)
    (h : ∀ a, Ok (c a) → Owes P cx (iv a) N fn [sI .i64 a] (g a)) : FnOKg P cx.gl f (specI c g) := by
  refine FnOK_of hf hb hn fun args ps sv hs hp => ?_
  unfold specI at hs
  split at hs
  · rename_i x
    split at hs
    · rename_i a ha
      simp only [Option.some.injEq, Prod.mk.injEq] at hs
      obtain ⟨rfl, rfl⟩ := hs
      refine ⟨hg a, fun ρ w hzz hgg _ => ?_⟩
      rw [show [x].map (SA.conc ρ) = [sI .i64 a].map (SA.conc ρ) by simp only [List.map_cons, List.map_nil, asI_canon ha ρ]]
      refine (calls_of_owes0 hcx hf hb (args := [sI .i64 a]) (by intro z hz; simp only [List.mem_singleton] at hz; subst hz; trivial) (h a hp) ρ w hzz hgg).mono ?_
      rintro e w' ⟨v, rfl, ⟨ρ', hr⟩, hbl⟩
      exact ⟨v, rfl, rep_none0 (hg a) hr, hbl⟩
    · cases hs
  · cases hs
abbrev sBy (n : Nat) (g : Nat → Int) : SA := .agg [.f .u8 n g]
def plusG (a b : Nat) : SV := .tup [sU (a + b), sI .u64 ((a % M256 + b % M256) / M256 : Nat)]
def lessG (a b : Nat) : SV := .tup [sU (a % M256 + M256 - b % M256), sI .u64 (if a % M256 < b % M256 then 1 else 0)]
def addG (a b : Nat) : SV := .tup [sU (a + b), sB (decide (M256 ≤ a % M256 + b % M256))]
def subG (a b : Nat) : SV := .tup [sU (a % M256 + M256 - b % M256), sB (decide (a % M256 < b % M256))]
def cmpN (a b : Nat) : Int := if a % M256 < b % M256 then -1 else if b % M256 < a % M256 then 1 else 0
def cmpG (a b : Nat) : SV := .one (sI .i64 (cmpN a b))
def yes : SV := .one (sB true)
def pickedG (n m : Int) : SV := .one (sI .i64 (n % m))
end Go.Sx
end

section
namespace Go.Sx
open Go.RowKit
end Go.Sx
end

section
namespace Go.Sx
open Go.RowKit
end Go.Sx
end

section
namespace Go.Sx
open Go.RowKit
end Go.Sx
end

section
namespace Go.Sx
open Go.RowKit
section
variable {P : Program} {cx : Cx} {sl : List (Nat × SSpec)} {f : Nat} {fn : Func}
end
end Go.Sx
end

section
namespace Go.Sx
open Go.RowKit
def asBit : SC → Option Bool
  | .bit x => some x
  | .val (.bool x) => some x
  | _ => none
theorem asBit_sound {s : SC} {x : Bool} (h : asBit s = some x) (ρ : Rho) : s.conc ρ = .bool x := by
  unfold asBit at h
  split at h
  · cases h; rfl
  · cases h; rfl
  · cases h
def takeU : List SK → Option (List Prop × Nat × List SK)
  | .u n :: r => some ([], n, r)
  | .c a :: .c b :: .c c :: .c d :: r => match asU4 [a, b, c, d] with
    | some (ps, n) => some (ps, n, r)
    | none => none
  | _ => none
theorem takeU_sound {ks r : List SK} {ps : List Prop} {n : Nat} (h : takeU ks = some (ps, n, r)) (hp : Ok ps) (ρ : Rho) : concs ρ ks = concs ρ (.u n :: r) := by
  unfold takeU at h
  split at h
  · cases h; rfl
  · rename_i a b c d r'
    split at h
    · rename_i ps' n' h4
      simp only [Option.some.injEq, Prod.mk.injEq] at h
      obtain ⟨rfl, rfl, rfl⟩ := h
      have := asU4_sound h4 hp ρ
      simp only [U, List.map_cons, List.map_nil, Value.agg.injEq] at this
      have := congrArg Array.toList this
      simp only [List.cons.injEq, and_true] at this
      obtain ⟨e1, e2, e3, e4⟩ := this
      simp [concs, flat, SK.cells, e1, e2, e3, e4, show ∀ v, (SC.val v).conc ρ = v from fun _ => rfl]
    · cases h
  · cases h
theorem concs_app (ρ : Rho) (k : SK) {xs ys : List SK} (h : concs ρ xs = concs ρ ys) : concs ρ (k :: xs) = concs ρ (k :: ys) := by
  rw [concs_cons ρ k xs, concs_cons ρ k ys, h]
end Go.Sx
end

section
namespace Go.Sx
open Go.RowKit
inductive PQ where
  | u | b | t
  | i (k : IntKind)
  | y (n : Nat)
  | x (w : Nat)
inductive FD where
  | u (n : Nat)
  | b (v : Bool)
  | i (n : Int)
  | y (g : Nat → Int)
  | x (a : Option Addr) (n cap : Nat) (f : Nat → Nat → SC)
  | t (s : ByteArray)
inductive AQ where
  | st (ps : List PQ)
  | one (p : PQ)
def fdK : PQ → FD → SK
  | .u, .u n => .u n
  | .b, .b v => .c (.val (.bool v))
  | .i k, .i n => .c (.val (.int k n))
  | .y n, .y g => .f .u8 n g
  | .x w, .x a n cap f => .c (.xs a n cap w f)
  | .t, .t s => .c (.val (.string s))
  | _, _ => .c (.bit false)
def fdKs : List PQ → List FD → List SK
  | p :: ps, d :: ds => fdK p d :: fdKs ps ds
  | _, _ => []
def takeF : PQ → List SK → Option (List Prop × FD × List SK)
  | .u, ks => match takeU ks with
    | some (p, n, r) => some (p, .u n, r)
    | none => none
  | .b, .c s :: r => match asBit s with
    | some v => some ([], .b v, r)
    | none => none
  | .i k, .c s :: r => match asI (.sc s) with
    | some (k', n) => if k' = k then some ([], .i n, r) else none
    | none => none
  | .y n, .f k m g :: r => if k = .u8 ∧ m = n then some ([], .y g, r) else none
  | .y n, ks => match grab ks n, seek ks n with
    | some cs, some r => match kindAll .u8 cs && Nat.ble 2 n with
      | true => some ([], .y (selG cs), r)
      | false => none
    | _, _ => none
  | .x w, .c (.xs a n cap w' f) :: r => if w' = w then some ([], .x a n cap f, r) else none
  | .x _, .c (.val (.slice none 0 0)) :: r => some ([], .x none 0 0 (fun _ _ => .bit false), r)
  | .t, .c (.val (.string s)) :: r => some ([], .t s, r)
  | _, _ => none
theorem cut_concs {ks cs r : List SK} {n : Nat} (h1 : grab ks n = some cs) (h2 : seek ks n = some r) (hk : kindAll .u8 cs = true) (ρ : Rho) : concs ρ ks = concs ρ (.f .u8 n (selG cs) :: r) := by
  obtain ⟨l1, e1⟩ := grab_flat ks n h1
  obtain ⟨_, e2⟩ := seek_flat ks n h2
  have hl : (flat cs).length = n := by rw [e1, List.length_take]; omega
  have hi : (intsL cs).length = n := by rw [intsL_length cs ρ .u8 hk, hl]
  have e3 : concs ρ cs = (List.range n).map fun j => .int .u8 (selG cs j) := by
    rw [ints_conc ρ .u8 hk]
    apply List.ext_getElem
    · simp [hi]
    · intro j h1 h2
      have hj : j < (intsL cs).length := by simpa using h1
      simp only [List.getElem_map, List.getElem_range]
      rw [selG_eq hj, List.getD_eq_getElem?_getD, List.getElem?_eq_getElem hj, Option.getD_some]
  rw [concs_cons, concs_f, ← e3]
  unfold concs
  rw [e1, e2, ← List.map_append, List.take_append_drop]
theorem takeF_sound {p : PQ} {ks r : List SK} {q : List Prop} {d : FD} (h : takeF p ks = some (q, d, r)) (hq : Ok q) (ρ : Rho) : concs ρ ks = concs ρ (fdK p d :: r) := by
  unfold takeF at h
  split at h
  · split at h
    · rename_i hu
      simp only [Option.some.injEq, Prod.mk.injEq] at h
      obtain ⟨rfl, rfl, rfl⟩ := h
      exact takeU_sound hu hq ρ
    · cases h
  · split at h
    · rename_i s r' v hv
      simp only [Option.some.injEq, Prod.mk.injEq] at h
      obtain ⟨rfl, rfl, rfl⟩ := h
      rw [concs_cons, concs_cons ρ (fdK .b (.b v))]
      congr 1
      simp [concs, flat, SK.cells, fdK, asBit_sound hv ρ, show ∀ v, (SC.val v).conc ρ = v from fun _ => rfl]
    · cases h
  · rename_i k s r'
    split at h
    · rename_i k' n hi
      split at h
      · rename_i e
        subst e
        simp only [Option.some.injEq, Prod.mk.injEq] at h
        obtain ⟨rfl, rfl, rfl⟩ := h
        rw [concs_cons, concs_cons ρ (fdK (.i k') (.i n))]
        congr 1
        have e : s.conc ρ = .int k' n := asI_sound hi ρ
        simp [concs, flat, SK.cells, fdK, e, show ∀ v, (SC.val v).conc ρ = v from fun _ => rfl]
      · cases h
    · cases h
  · split at h
    · rename_i e
      obtain ⟨rfl, rfl⟩ := e
      simp only [Option.some.injEq, Prod.mk.injEq] at h
      obtain ⟨rfl, rfl, rfl⟩ := h
      rfl
    · cases h
  · split at h
    · rename_i h1 h2
      split at h
      · rename_i hk
        simp only [Option.some.injEq, Prod.mk.injEq] at h
        obtain ⟨rfl, rfl, rfl⟩ := h
        exact cut_concs h1 h2 (Bool.and_eq_true_iff.1 hk).1 ρ
      · cases h
    · cases h
  · split at h
    · rename_i e
      subst e
      simp only [Option.some.injEq, Prod.mk.injEq] at h
      obtain ⟨rfl, rfl, rfl⟩ := h
      rfl
    · cases h
  · simp only [Option.some.injEq, Prod.mk.injEq] at h
    obtain ⟨rfl, rfl, rfl⟩ := h
    rfl
  · simp only [Option.some.injEq, Prod.mk.injEq] at h
    obtain ⟨rfl, rfl, rfl⟩ := h
    rfl
  · cases h
theorem takeF_bnd {p : PQ} {ks r : List SK} {q : List Prop} {d : FD} (h : takeF p ks = some (q, d, r)) {E : Env} (hb : ∀ k ∈ ks, k.bnd E) : (fdK p d).bnd E.bare ∧ ∀ k ∈ r, k.bnd E := by
  unfold takeF at h
  split at h
  · split at h
    · rename_i p' n r' hu
      simp only [Option.some.injEq, Prod.mk.injEq] at h
      obtain ⟨rfl, rfl, rfl⟩ := h
      refine ⟨trivial, ?_⟩
      unfold takeU at hu
      split at hu
      · cases hu; exact fun k hk => hb k (by simp [hk])
      · split at hu
        · simp only [Option.some.injEq, Prod.mk.injEq] at hu
          obtain ⟨_, _, rfl⟩ := hu
          exact fun k hk => hb k (by simp [hk])
        · cases hu
      · cases hu
    · cases h
  · split at h
    · simp only [Option.some.injEq, Prod.mk.injEq] at h
      obtain ⟨rfl, rfl, rfl⟩ := h
      exact ⟨trivial, fun k hk => hb k (by simp [hk])⟩
    · cases h
  · split at h
    · split at h
      · simp only [Option.some.injEq, Prod.mk.injEq] at h
        obtain ⟨rfl, rfl, rfl⟩ := h
        exact ⟨trivial, fun k hk => hb k (by simp [hk])⟩
      · cases h
    · cases h
  · split at h
    · simp only [Option.some.injEq, Prod.mk.injEq] at h
      obtain ⟨rfl, rfl, rfl⟩ := h
      exact ⟨trivial, fun k hk => hb k (by simp [hk])⟩
    · cases h
  · split at h
    · rename_i h1 h2
      split at h
      · simp only [Option.some.injEq, Prod.mk.injEq] at h
        obtain ⟨rfl, rfl, rfl⟩ := h
        exact ⟨trivial, bnd_flat.2 (mem_seek h2 (bnd_flat.1 hb))⟩
      · cases h
    · cases h
  · rename_i w a n cap w' f r'
    split at h
    · rename_i e
      subst e
      simp only [Option.some.injEq, Prod.mk.injEq] at h
      obtain ⟨rfl, rfl, rfl⟩ := h
      exact ⟨hb (.c (.xs a n cap w' f)) (by simp), fun k hk => hb k (by simp [hk])⟩
    · cases h
  · simp only [Option.some.injEq, Prod.mk.injEq] at h
    obtain ⟨rfl, rfl, rfl⟩ := h
    exact ⟨⟨fun _ => ⟨rfl, rfl⟩, Nat.le_refl _, fun b hb => by cases hb⟩, fun k hk => hb k (by simp [hk])⟩
  · simp only [Option.some.injEq, Prod.mk.injEq] at h
    obtain ⟨rfl, rfl, rfl⟩ := h
    exact ⟨trivial, fun k hk => hb k (by simp [hk])⟩
  · cases h
def asFs : List PQ → List SK → Option (List Prop × List FD)
  | [], [] => some ([], [])
  | p :: ps, ks => match takeF p ks with
    | some (q, d, r) => match asFs ps r with
      | some (q', ds) => some (q ++ q', d :: ds)
      | none => none
    | none => none
  | _, _ => none
theorem asFs_one {p : PQ} {k : SK} {q : List Prop} {l : List FD} (h : asFs [p] [k] = some (q, l)) : ∃ q1 d, takeF p [k] = some (q1, d, []) ∧ l = [d] := by
  have e : asFs [p] [k] = match takeF p [k] with
    | some (q, d, r) => match asFs [] r with
      | some (q', ds) => some (q ++ q', d :: ds)
      | none => none
    | none => none := by rw [asFs]
  rw [e] at h
  split at h
  · rename_i q1 d r ht
    cases r with
    | nil =>
      simp only [asFs, Option.some.injEq, Prod.mk.injEq] at h
      exact ⟨q1, d, ht, h.2.symm⟩
    | cons _ _ => simp [asFs] at h
  · cases h
theorem asFs_sound : ∀ {ps : List PQ} {ks : List SK} {q : List Prop} {l : List FD}, asFs ps ks = some (q, l) → (Ok q → ∀ ρ, concs ρ ks = concs ρ (fdKs ps l)) ∧ ∀ E : Env, (∀ k ∈ ks, k.bnd E) → ∀ k ∈ fdKs ps l, k.bnd E.bare
  | [], [], q, l, h => by
    simp only [asFs, Option.some.injEq, Prod.mk.injEq] at h
    obtain ⟨_, rfl⟩ := h
    exact ⟨fun _ _ => rfl, fun E _ k hk => by cases hk⟩
  | [], _ :: _, q, l, h => by simp [asFs] at h
  | p :: ps, ks, q, l, h => by
    simp only [asFs] at h
    split at h
    · rename_i q1 d r ht
      split at h
      · rename_i q2 ds hr
        simp only [Option.some.injEq, Prod.mk.injEq] at h
        obtain ⟨rfl, rfl⟩ := h
        obtain ⟨i1, i2⟩ := asFs_sound hr
        refine ⟨fun hq ρ => ?_, fun E hb k hk => ?_⟩
        · obtain ⟨h1, h2⟩ := Ok.append.1 hq
          rw [takeF_sound ht h1 ρ]
          exact concs_app ρ _ (i1 h2 ρ)
        · obtain ⟨b1, b2⟩ := takeF_bnd ht hb
          rcases List.mem_cons.1 hk with rfl | hk
          · exact b1
          · exact i2 E b2 k hk
      · cases h
    · cases h
def asQ : AQ → SA → Option (List Prop × List FD)
  | .st ps, .agg ks => asFs ps ks
  | .one p, .sc s => asFs [p] [.c s]
  | _, _ => none
def mkQ : AQ → List FD → SA
  | .st ps, l => .agg (fdKs ps l)
  | .one p, [d] => match fdK p d with
    | .c s => .sc s
    | _ => .agg []
  | _, _ => .agg []
theorem asQ_sound {aq : AQ} {x : SA} {q : List Prop} {l : List FD} (h : asQ aq x = some (q, l)) : (Ok q → ∀ ρ, x.conc ρ = (mkQ aq l).conc ρ) ∧ ∀ E : Env, x.bnd E → (mkQ aq l).bnd E.bare := by
  unfold asQ at h
  split at h
  · rename_i ps ks
    obtain ⟨h1, h2⟩ := asFs_sound h
    exact ⟨fun hq ρ => by simp only [SA.conc, mkQ, h1 hq ρ], fun E hb => h2 E hb⟩
  · rename_i p s
    obtain ⟨h1, h2⟩ := asFs_sound h
    obtain ⟨q1, d, ht, rfl⟩ := asFs_one h
    have e : ∀ (s : SC) ρ, concs ρ [SK.c s] = [s.conc ρ] := fun _ _ => rfl
    have h2' : ∀ E : Env, s.bnd E → (fdK p d).bnd E.bare := fun E hb => h2 E (fun k hk => by rw [List.mem_singleton.1 hk]; exact hb) _ (by simp [fdKs])
    have h1' : Ok q → ∀ ρ, [s.conc ρ] = concs ρ [fdK p d] := fun hq ρ => by rw [← e]; exact h1 hq ρ
    unfold mkQ
    simp only
    split
    · rename_i s' hs
      rw [hs] at h1' h2'
      refine ⟨fun hq ρ => ?_, fun E hb => h2' E hb⟩
      have := h1' hq ρ
      rw [e] at this
      exact (List.cons.inj this).1
    · rename_i hne
      exfalso
      unfold takeF at ht
      split at ht
      · split at ht
        · rename_i hu
          unfold takeU at hu
          simp at hu
        · cases ht
      · split at ht
        · simp only [Option.some.injEq, Prod.mk.injEq] at ht; obtain ⟨_, rfl, _⟩ := ht; exact hne _ rfl
        · cases ht
      · split at ht
        · split at ht
          · simp only [Option.some.injEq, Prod.mk.injEq] at ht; obtain ⟨_, rfl, _⟩ := ht; exact hne _ rfl
          · cases ht
        · cases ht
      · rename_i heq; cases heq
      · split at ht
        · rename_i hg _
          split at ht
          · rename_i hk
            have h2 := Nat.le_of_ble_eq_true (Bool.and_eq_true_iff.1 hk).2
            have h3 := (grab_flat _ _ hg).1
            simp [flat, SK.cells] at h3
            omega
          · cases ht
        · cases ht
      · split at ht
        · simp only [Option.some.injEq, Prod.mk.injEq] at ht; obtain ⟨_, rfl, _⟩ := ht; exact hne _ rfl
        · cases ht
      · simp only [Option.some.injEq, Prod.mk.injEq] at ht; obtain ⟨_, rfl, _⟩ := ht; exact hne _ rfl
      · simp only [Option.some.injEq, Prod.mk.injEq] at ht; obtain ⟨_, rfl, _⟩ := ht; exact hne _ rfl
      · cases ht
  · cases h
def asQs : List AQ → List SA → Option (List Prop × List (List FD))
  | [], [] => some ([], [])
  | a :: aqs, x :: xs => match asQ a x, asQs aqs xs with
    | some (q, l), some (q', ls) => some (q ++ q', l :: ls)
    | _, _ => none
  | _, _ => none
def mkQs : List AQ → List (List FD) → List SA
  | a :: aqs, l :: ls => mkQ a l :: mkQs aqs ls
  | _, _ => []
theorem asQs_sound : ∀ {aqs : List AQ} {xs : List SA} {q : List Prop} {ls : List (List FD)}, asQs aqs xs = some (q, ls) → (Ok q → ∀ ρ, xs.map (SA.conc ρ) = (mkQs aqs ls).map (SA.conc ρ)) ∧ ∀ E : Env, (∀ x ∈ xs, x.bnd E) → ∀ x ∈ mkQs aqs ls, x.bnd E.bare
  | [], [], q, ls, h => by
    simp only [asQs, Option.some.injEq, Prod.mk.injEq] at h
    obtain ⟨_, rfl⟩ := h
    exact ⟨fun _ _ => rfl, fun E _ k hk => by cases hk⟩
  | [], _ :: _, _, _, h => by simp [asQs] at h
  | _ :: _, [], _, _, h => by simp [asQs] at h
  | a :: aqs, x :: xs, q, ls, h => by
    simp only [asQs] at h
    split at h
    · rename_i q1 l q2 ls' h1 h2
      simp only [Option.some.injEq, Prod.mk.injEq] at h
      obtain ⟨rfl, rfl⟩ := h
      obtain ⟨a1, a2⟩ := asQ_sound h1
      obtain ⟨b1, b2⟩ := asQs_sound h2
      refine ⟨fun hq ρ => ?_, fun E hb y hy => ?_⟩
      · obtain ⟨o1, o2⟩ := Ok.append.1 hq
        simp only [List.map_cons, mkQs, a1 o1 ρ, b1 o2 ρ]
      · rcases List.mem_cons.1 hy with rfl | hy
        · exact a2 E (hb x (by simp))
        · exact b2 E (fun z hz => hb z (by simp [hz])) y hy
    · cases h
def simD : PQ → FD → FD → List Prop
  | .x w, .x a n c f, .x a' n' c' f' => [a = a', n = n', c = c', ∀ i, i < n → allC w fun k => simC (f i k) (f' i k)]
  | _, .u n, .u m => [n = m]
  | _, .b x, .b y => [x = y]
  | _, .i n, .i m => [n = m]
  | _, .t x, .t y => [x = y]
  | .y n, .y f, .y g => [∀ j, j < n → f j = g j]
  | _, _, _ => [False]
def simDs : List PQ → List FD → List FD → List Prop
  | p :: ps, d :: ds, e :: es => simD p d e ++ simDs ps ds es
  | [], [], [] => []
  | _, _, _ => [False]
def simQ : AQ → List FD → List FD → List Prop
  | .st ps, l, m => simDs ps l m
  | .one p, l, m => simDs [p] l m
def simQs : List AQ → List (List FD) → List (List FD) → List Prop
  | a :: aqs, l :: ls, m :: ms => simQ a l m ++ simQs aqs ls ms
  | [], [], [] => []
  | _, _, _ => [False]
theorem simD_sound {p : PQ} {d e : FD} (h : Ok (simD p d e)) : (∀ ρ, concs ρ [fdK p d] = concs ρ [fdK p e]) ∧ ∀ E : Env, (fdK p d).bnd E → (fdK p e).bnd E := by
  unfold simD at h
  split at h
  · rename_i w a n c f a' n' c' f'
    obtain ⟨rfl, rfl, rfl, h, _⟩ := h
    refine ⟨fun _ => rfl, fun E hb => simC_bnd (SC.xs a n c w f) (y := .xs a n c w f') ?_ hb⟩
    unfold simC
    simp only [Nat.beq_refl, true_and]
    exact h
  · obtain ⟨rfl, _⟩ := h; exact ⟨fun _ => rfl, fun _ k => k⟩
  · obtain ⟨rfl, _⟩ := h; exact ⟨fun _ => rfl, fun _ k => k⟩
  · obtain ⟨rfl, _⟩ := h; exact ⟨fun _ => rfl, fun _ k => k⟩
  · obtain ⟨rfl, _⟩ := h; exact ⟨fun _ => rfl, fun _ k => k⟩
  · rename_i n f g
    obtain ⟨h, _⟩ := h
    refine ⟨fun ρ => ?_, fun _ _ => trivial⟩
    rw [fdK, fdK, concs_f, concs_f]
    exact List.map_congr_left fun j hj => by rw [h j (List.mem_range.1 hj)]
  · exact h.1.elim
theorem simDs_sound : ∀ {ps : List PQ} {l m : List FD}, Ok (simDs ps l m) → (∀ ρ, concs ρ (fdKs ps l) = concs ρ (fdKs ps m)) ∧ ∀ E : Env, (∀ k ∈ fdKs ps l, k.bnd E) → ∀ k ∈ fdKs ps m, k.bnd E
  | [], [], [], _ => ⟨fun _ => rfl, fun _ h => h⟩
  | p :: ps, d :: ds, e :: es, h => by
    obtain ⟨o1, o2⟩ := Ok.append.1 h
    obtain ⟨a1, a2⟩ := simD_sound o1
    obtain ⟨b1, b2⟩ := simDs_sound o2
    refine ⟨fun ρ => ?_, fun E hb k hk => ?_⟩
    · simp only [fdKs]
      rw [concs_cons, concs_cons ρ (fdK p e), a1 ρ, b1 ρ]
    · rcases List.mem_cons.1 hk with rfl | hk
      · exact a2 E (hb _ (by simp [fdKs]))
      · exact b2 E (fun k hk => hb k (by simp [fdKs, hk])) k hk
  | [], [], _ :: _, h | [], _ :: _, [], h | [], _ :: _, _ :: _, h | _ :: _, [], [], h | _ :: _, [], _ :: _, h | _ :: _, _ :: _, [], h => by exact h.1.elim
theorem simQ_sound {a : AQ} {l m : List FD} (h : Ok (simQ a l m)) : (∀ ρ, (mkQ a l).conc ρ = (mkQ a m).conc ρ) ∧ ∀ E : Env, (mkQ a l).bnd E → (mkQ a m).bnd E := by
  cases a with
  | st ps =>
    obtain ⟨h1, h2⟩ := simDs_sound (show Ok (simDs ps l m) from h)
    exact ⟨fun ρ => by simp only [mkQ, SA.conc, h1 ρ], fun E hb => h2 E hb⟩
  | one p =>
    have h : Ok (simDs [p] l m) := h
    match l, m, h with
    | [], [], h => exact h.1.elim
    | [], _ :: _, h => exact h.1.elim
    | _ :: _, [], h => exact h.1.elim
    | d :: d2 :: ds, e :: es, h =>
      exfalso
      obtain ⟨_, o2⟩ := Ok.append.1 h
      cases es <;> exact o2.1.elim
    | [d], e :: e2 :: es, h =>
      exfalso
      obtain ⟨_, o2⟩ := Ok.append.1 h
      exact o2.1.elim
    | [d], [e], h =>
      obtain ⟨o1, _⟩ := Ok.append.1 h
      obtain ⟨h1, h2⟩ := simD_sound o1
      unfold mkQ
      simp only
      cases p <;> cases d <;> cases e <;> first
        | exact ⟨fun _ => rfl, fun _ k => k⟩
        | (exfalso; exact o1.1.elim)
        | (refine ⟨fun ρ => ?_, fun E hb => h2 E hb⟩
           have := h1 ρ
           exact (List.cons.inj this).1)
theorem simQs_sound : ∀ {aqs : List AQ} {l m : List (List FD)}, Ok (simQs aqs l m) → (∀ ρ, (mkQs aqs l).map (SA.conc ρ) = (mkQs aqs m).map (SA.conc ρ)) ∧ ∀ E : Env, (∀ x ∈ mkQs aqs l, x.bnd E) → ∀ x ∈ mkQs aqs m, x.bnd E
  | [], [], [], _ => ⟨fun _ => rfl, fun _ h => h⟩
  | a :: aqs, d :: ds, e :: es, h => by
    obtain ⟨o1, o2⟩ := Ok.append.1 h
    obtain ⟨a1, a2⟩ := simQ_sound o1
    obtain ⟨b1, b2⟩ := simQs_sound o2
    refine ⟨fun ρ => by simp only [mkQs, List.map_cons, a1 ρ, b1 ρ], fun E hb k hk => ?_⟩
    rcases List.mem_cons.1 hk with rfl | hk
    · exact a2 E (hb _ (by simp [mkQs]))
    · exact b2 E (fun k hk => hb k (by simp [mkQs, hk])) k hk
  | [], [], _ :: _, h | [], _ :: _, [], h | [], _ :: _, _ :: _, h | _ :: _, [], [], h | _ :: _, [], _ :: _, h | _ :: _, _ :: _, [], h => by exact h.1.elim
def specQ (share : Bool) (aq : List AQ) (nf : List (List FD) → List (List FD)) (c : List (List FD) → List Prop) (g : List (List FD) → List RS) : SSpec :=
  ⟨share, fun args => match asQs aq args with
    | some (ps, ls) => some (ps ++ (simQs aq ls (nf ls) ++ c (nf ls)), g (nf ls))
    | none => none⟩
theorem FnOKs_Q {P : Program} {cx : Cx} (hcx : CxOK P cx) {sl : List (Nat × SSpec)} (hsl : ∀ p ∈ sl, FnOKs P cx.gl p.1 p.2) {f : Nat} {fn : Func} (hf : P.funcs[f]? = some fn) (hb : fn.body.isSome = true) (hn : (fn.name == "runtime.NumGoroutine") = false)
    {share : Bool} {aq : List AQ} {nf : List (List FD) → List (List FD)} {c : List (List FD) → List Prop} {g : List (List FD) → List RS}
    (h : ∀ ls, Ok (c ls) → ∃ iv N, (∀ r ∈ g ls, r.closed) ∧ OwesR P cx sl iv N fn (mkQs aq ls) share (g ls)) : FnOKs P cx.gl f (specQ share aq nf c g) := by
  refine FnOKs_owes hcx hsl hf hb hn fun args ps rs hs hp => ?_
  simp only [specQ] at hs
  split at hs
  case h_2 => cases hs
  rename_i q ls ha
  simp only [Option.some.injEq, Prod.mk.injEq] at hs
  obtain ⟨rfl, rfl⟩ := hs
  obtain ⟨o1, o23⟩ := Ok.append.1 hp
  obtain ⟨o2, o3⟩ := Ok.append.1 o23
  obtain ⟨a1, a2⟩ := asQs_sound ha
  obtain ⟨b1, b2⟩ := simQs_sound o2
  obtain ⟨iv, N, hc, hw⟩ := h (nf ls) o3
  refine ⟨iv, N, mkQs aq (nf ls), fun ρ => by rw [a1 o1 ρ, b1 ρ], fun fz hx x hxm => ?_, hc, hw⟩
  exact b2 ⟨fun _ => False, fz⟩ (fun y hy => a2 ⟨fun _ => True, fz⟩ hx y hy) x hxm
end Go.Sx
end

section
namespace Go.Sx
def intOf : SC → Int
  | .val (.int _ x) => x
  | .num _ x => x
  | _ => 0
def natOf (f : Nat → SC) (c : Nat) : Nat := join (intOf (f c)) (intOf (f (c + 1))) (intOf (f (c + 2))) (intOf (f (c + 3)))
def kOf (f : Nat → Nat → SC) (i c : Nat) : Int := intOf (f i c)
theorem FnOKs.up0 {P : Program} {f : Nat} {s : SSpec} (h : FnOKs P [] f s) (gl : Globs) : FnOKs P gl f s := fun args ps rs hs hp ρ w hz _ hb =>
  h args ps rs hs hp ρ w hz (fun p hp => by cases hp) hb
end Go.Sx
end

section
namespace Go.Sx
open Go.RowKit
def inlW (wl : List (Nat × WSpec)) (inner : Inl) : Inl := fun f args ob k =>
  match getW wl f with
  | none => inner f args ob k
  | some s => match wdo s args ob with
    | some (ps, sv, o, _, m) => ands ps (k sv (ob.set o (noteO s.e s.k m)))
    | none => StuckAt "cell"
section
variable {P : Program}
def inlY (P : Program) (cx : Cx) (sl : List (Nat × SSpec)) (dr : Drawn) (iv : List (Nat × Hint)) (N : Nat) : Nat → Inl
  | 0 => inlW cx.wf (inlS sl noInl)
  | d + 1 => inlW cx.wf (inlS sl fun f args ob k =>
    match P.funcs[f]? with
    | some fn =>
      match fn.body, fn.name == "runtime.NumGoroutine" with
      | some c, false => sx P { cx with kn := ob.length } (inlY P cx sl dr iv N d) dr iv N ((f + 1) * 100000) ob.length c (slots0 args fn.ntmps) ob (ret P fn.results.toList k)
      | _, _ => StuckAt "no text"
    | none => StuckAt "no function")
def noteIs (ob : List SO) (e : TypeId) (k : IntKind) (m : Int) : Prop :=
  match ob with
  | .cells e' [.c x] 0 :: _ => match Nat.beq e' e with
    | true => isInt k m x
    | false => False
  | _ => False
def OwesW (P : Program) (cx : Cx) (sl : List (Nat × SSpec)) (iv : List (Nat × Hint)) (N : Nat) (fn : Func) (args : List SA) (e : TypeId) (k : IntKind) (n : Int) (out : SV) (m : Int) : Prop :=
  sx P { cx with kn := 1 } (inlY P cx sl drawOK iv N 8) drawOK iv N 0 1 (fn.body.getD .skip) (slots0 args fn.ntmps) [noteO e k n] (ret P fn.results.toList fun sv ob => same sv out ∧ noteIs ob e k m)
def OwesU (P : Program) (cx : Cx) (sl : List (Nat × SSpec)) (iv : List (Nat × Hint)) (N : Nat) (fn : Func) (args : List SA) (out : SV) : Prop :=
  sx P { cx with kn := 0 } (inlY P cx sl drawOK iv N 8) drawOK iv N 0 0 (fn.body.getD .skip) (slots0 args fn.ntmps) [] (ret P fn.results.toList fun sv _ => same sv out)
end
attribute [irreducible] OwesW OwesU
end Go.Sx
end

section
namespace Go.Sx
open Go.RowKit
structure TSpec where
  e : TypeId
  wd : Nat
  of : List SA → Nat → (Nat → Nat → SC) → Option (List Prop × Nat × (Nat → Nat → SC) × List SA)
structure capOK (wd n cap sp : Nat) : Prop where
  le : n ≤ cap
  most : cap ≤ maxLen
  room : cap * wd = n * wd + sp
def getT : List (Nat × TSpec) → Nat → Option TSpec
  | [], _ => none
  | (g, s) :: r, f => match Nat.beq g f with
    | true => some s
    | false => getT r f
def ofT (s : TSpec) (r : List SA) (n : Nat) (g : Nat → Nat → SC) (old : Option Nat) : Option (List Prop × Nat × (Nat → Nat → SC) × List SA) :=
  match old with
  | none => s.of r n (fun _ _ => .val (.int .u8 0))
  | some _ => s.of r n g
def headT (ob : List SO) (size : Nat) (e : TypeId) (x : SA) : Option (List Prop × Nat × (Nat → Nat → SC) × List SO × Option Nat) :=
  match x with
  | .sc (.sl o 0 n cap) =>
    match ob[o]? with
    | some (.cells e' ks sp) => match Nat.beq e' e && Nat.beq (flat ks).length n && kindAll .u8 ks && Nat.beq size 1 && !ks.isEmpty with
      | true => some ([n ≤ cap ∧ cap ≤ maxLen ∧ cap * size = n * size + sp], n, fun i _ => .val (.int .u8 (selG ks i)), ob.set o .dead, some o)
      | false => headG ob size e (.sc (.sl o 0 n cap))
    | _ => headG ob size e (.sc (.sl o 0 n cap))
  | x => headG ob size e x
section
variable {W0 : Base} {ρ : Rho} {tm : List SV} {ob : List SO} {a : Act} {w : World}
end
def inlT (tl : List (Nat × TSpec)) (inner : Inl) : Inl := fun f args ob k =>
  match getT tl f with
  | none => inner f args ob k
  | some s => match args with
    | x :: r => match headT ob s.wd s.e x with
      | some (qs, n, g, ob0, old) => match ob0.all (obB (liveB ob0)) && r.all (SA.bndB fun _ => false) with
        | true => match ofT s r n g old with
          | some (ps, n', g', vs) => ands (qs ++ ps) (∀ c : Nat, n' + c ≤ maxLen → k (resV (.sc (.slw ob0.length s.wd 0 n' (n' + c)) :: vs)) (ob0 ++ [.row s.e s.wd n' g' (c * s.wd)]))
          | none => StuckAt "card"
        | false => StuckAt "taken"
      | none => StuckAt "head"
    | [] => StuckAt "taken"
section
variable {P : Program}
def inlZ (P : Program) (cx : Cx) (sl : List (Nat × SSpec)) (tl : List (Nat × TSpec)) (dr : Drawn) (iv : List (Nat × Hint)) (N : Nat) : Nat → Inl
  | 0 => inlT tl (inlW cx.wf (inlS sl noInl))
  | d + 1 => inlT tl (inlW cx.wf (inlS sl fun f args ob k =>
    match P.funcs[f]? with
    | some fn =>
      match fn.body, fn.name == "runtime.NumGoroutine" with
      | some c, false => sx P { cx with kn := ob.length } (inlZ P cx sl tl dr iv N d) dr iv N ((f + 1) * 100000) ob.length c (slots0 args fn.ntmps) ob (ret P fn.results.toList k)
      | _, _ => StuckAt "no text"
    | none => StuckAt "no function"))
def okV : List SA → List SA → Prop
  | [], [] => True
  | x :: r, y :: r' => sameA x y ∧ okV r r'
  | _, _ => StuckAt "values"
def okTs (s : TSpec) (n : Nat) (g : Nat → Nat → SC) (vs : List SA) (ob : List SO) : List SA → Prop
  | .sc (.slw o w off len cap) :: r => match ob[o]? with
    | some (.row e w' m h sp) => match Nat.beq w s.wd && Nat.beq w' s.wd && Nat.beq e s.e with
      | true => ands [off = 0, len = n, m = n, capOK s.wd m cap sp] (ands [∀ i, i < n → allC s.wd fun c => simC (h i c) (g i c)] (okV r vs))
      | false => StuckAt "row"
    | _ => StuckAt "row"
  | _ => StuckAt "result"
def okT (s : TSpec) (n : Nat) (g : Nat → Nat → SC) (vs : List SA) (sv : SV) (ob : List SO) : Prop :=
  match sv with
  | .one x => okTs s n g vs ob [x]
  | .tup [_] => False
  | .tup xs => okTs s n g vs ob xs
  | _ => False
def OwesZ (P : Program) (cx : Cx) (sl : List (Nat × SSpec)) (tl : List (Nat × TSpec)) (iv : List (Nat × Hint)) (N : Nat) (fn : Func) (args : List SA) (ob : List SO) (post : SV → List SO → Prop) : Prop :=
  sx P { cx with kn := ob.length } (inlZ P cx sl tl drawOK iv N 8) drawOK iv N 0 ob.length (fn.body.getD .skip) (slots0 args fn.ntmps) ob (ret P fn.results.toList post)
def OwesT (P : Program) (cx : Cx) (sl : List (Nat × SSpec)) (tl : List (Nat × TSpec)) (iv : List (Nat × Hint)) (N : Nat) (fn : Func) (args : List SA) (s : TSpec) (n cap sp : Nat) (g : Nat → Nat → SC) (n' : Nat) (g' : Nat → Nat → SC) (vs : List SA) : Prop :=
  OwesZ P cx sl tl iv N fn (.sc (.slw 0 s.wd 0 n cap) :: args) [.row s.e s.wd n g sp] (okT s n' g' vs)
def OwesT0 (P : Program) (cx : Cx) (sl : List (Nat × SSpec)) (tl : List (Nat × TSpec)) (iv : List (Nat × Hint)) (N : Nat) (fn : Func) (args : List SA) (s : TSpec) (n' : Nat) (g' : Nat → Nat → SC) (vs : List SA) : Prop :=
  OwesZ P cx sl tl iv N fn (.sc (.val (.slice none 0 0)) :: args) [] (okT s n' g' vs)
def OwesQ (P : Program) (cx : Cx) (sl : List (Nat × SSpec)) (tl : List (Nat × TSpec)) (iv : List (Nat × Hint)) (N : Nat) (fn : Func) (args : List SA) (sh : Bool) (rs : List RS) : Prop :=
  OwesZ P cx sl tl iv N fn args [] (okRS sh rs)
end
attribute [irreducible] OwesT OwesT0 OwesQ
end Go.Sx
end

section
namespace Go.Sx
end Go.Sx
end

section
namespace Go.Sx
open Go.RowKit
theorem okx_nil {P : Program} {gl : Globs} : CxOK P ⟨[], gl, 0, []⟩ := ⟨fun _ h => (by cases h), fun _ h => (by cases h)⟩
theorem okx_cons {P : Program} {gl : Globs} {f : Nat} {s : FSpec} {l : List (Nat × FSpec)} {wf : List (Nat × WSpec)} (h : FnOKg P gl f s) (hs : CxOK P ⟨l, gl, 0, wf⟩) : CxOK P ⟨(f, s) :: l, gl, 0, wf⟩ :=
  ⟨fun p hp => by
    rcases List.mem_cons.1 hp with rfl | hp
    · exact h
    · exact hs.1 p hp, hs.2⟩
theorem okx_mark {P : Program} {gl : Globs} {f : Nat} {l : List (Nat × FSpec)} {wf : List (Nat × WSpec)} (hs : CxOK P ⟨l, gl, 0, wf⟩) : CxOK P ⟨(f, fun _ => none) :: l, gl, 0, wf⟩ :=
  okx_cons (fun _ _ _ h => (by cases h)) hs
theorem oks_nil {P : Program} {gl : Globs} : ∀ p ∈ ([] : List (Nat × SSpec)), FnOKs P gl p.1 p.2 := fun _ h => (by cases h)
theorem oks_cons {P : Program} {gl : Globs} {f : Nat} {s : SSpec} {l : List (Nat × SSpec)} (h : FnOKs P gl f s) (hl : ∀ p ∈ l, FnOKs P gl p.1 p.2) : ∀ p ∈ (f, s) :: l, FnOKs P gl p.1 p.2 := fun p hp => by
  rcases List.mem_cons.1 hp with rfl | hp
  · exact h
  · exact hl p hp
end Go.Sx
end

section
namespace Go.Sx
end Go.Sx
end

section
namespace Go.Sx
open Go.RowKit
def vl : List Nat → Nat
  | [] => 0
  | a :: l => a * 256 ^ l.length + vl l
theorem vl_lt : ∀ {l : List Nat}, (∀ x ∈ l, x < 256) → vl l < 256 ^ l.length
  | [], _ => Nat.one_pos
  | a :: l, h => by
    have h1 := vl_lt (l := l) fun x hx => h x (List.mem_cons_of_mem _ hx)
    have h2 : a < 256 := h a List.mem_cons_self
    have h3 : (a + 1) * 256 ^ l.length ≤ 256 * 256 ^ l.length := Nat.mul_le_mul_right _ h2
    rw [Nat.add_mul, Nat.one_mul] at h3
    rw [vl, List.length_cons, Nat.pow_succ, Nat.mul_comm (256 ^ l.length)]
    omega
def cmpK (a b : Nat) : Int := if a < b then -1 else if b < a then 1 else 0
theorem vl_step {a b : Nat} {x y p : Nat} (hx : x < p) (hab : a < b) : a * p + x < b * p + y := by
  have h3 : (a + 1) * p ≤ b * p := Nat.mul_le_mul_right _ hab
  rw [Nat.add_mul, Nat.one_mul] at h3
  omega
theorem cmp_vl : ∀ {l m : List Nat}, l.length = m.length → (∀ x ∈ l, x < 256) → (∀ x ∈ m, x < 256) → Lib.compareBytes (l.map UInt8.ofNat) (m.map UInt8.ofNat) = cmpK (vl l) (vl m)
  | [], [], _, _, _ => rfl
  | [], _ :: _, h, _, _ => by cases h
  | _ :: _, [], h, _, _ => by cases h
  | a :: l, b :: m, h, hl, hm => by
    have hlen : l.length = m.length := by simpa using h
    have ih := cmp_vl hlen (fun x hx => hl x (List.mem_cons_of_mem _ hx)) (fun x hx => hm x (List.mem_cons_of_mem _ hx))
    have ha : a < 256 := hl a List.mem_cons_self
    have hb : b < 256 := hm b List.mem_cons_self
    have hx := vl_lt (l := l) fun x hx => hl x (List.mem_cons_of_mem _ hx)
    have hy := vl_lt (l := m) fun x hx => hm x (List.mem_cons_of_mem _ hx)
    have q : ∀ {c d : Nat}, c < 256 → d < 256 → (UInt8.ofNat c < UInt8.ofNat d ↔ c < d) := by
      intro c d hc hd
      rw [UInt8.lt_iff_toNat_lt, UInt8.toNat_ofNat', UInt8.toNat_ofNat']
      omega
    rw [List.map_cons, List.map_cons, Lib.compareBytes, ih, vl, vl, hlen]
    rw [hlen] at hx
    unfold cmpK
    by_cases h1 : a < b
    · rw [if_pos ((q ha hb).2 h1), if_pos (vl_step hx h1)]
    · rw [if_neg fun h => h1 ((q ha hb).1 h)]
      by_cases h2 : b < a
      · have := vl_step (y := vl l) hy h2
        rw [if_pos ((q hb ha).2 h2), if_neg (by omega), if_pos this]
      · have e : a = b := by omega
        subst e
        rw [if_neg fun h => h2 ((q hb ha).1 h)]
        have e1 : (a * 256 ^ m.length + vl l < a * 256 ^ m.length + vl m) = (vl l < vl m) := propext ⟨fun h => by omega, fun h => by omega⟩
        have e2 : (a * 256 ^ m.length + vl m < a * 256 ^ m.length + vl l) = (vl m < vl l) := propext ⟨fun h => by omega, fun h => by omega⟩
        simp only [e1, e2]
theorem vl_inj : ∀ {l m : List Nat}, l.length = m.length → (∀ x ∈ l, x < 256) → (∀ x ∈ m, x < 256) → vl l = vl m → l = m
  | [], [], _, _, _, _ => rfl
  | [], _ :: _, h, _, _, _ => by cases h
  | _ :: _, [], h, _, _, _ => by cases h
  | a :: l, b :: m, h, hl, hm, he => by
    have hlen : l.length = m.length := by simpa using h
    have hx := vl_lt (l := l) fun x hx => hl x (List.mem_cons_of_mem _ hx)
    have hy := vl_lt (l := m) fun x hx => hm x (List.mem_cons_of_mem _ hx)
    rw [vl, vl, hlen] at he
    rw [hlen] at hx
    have e : a = b := by
      rcases Nat.lt_trichotomy a b with h1 | h1 | h1
      · have := vl_step (y := vl m) hx h1; omega
      · exact h1
      · have := vl_step (y := vl l) hy h1; omega
    subst e
    rw [vl_inj hlen (fun x hx => hl x (List.mem_cons_of_mem _ hx)) (fun x hx => hm x (List.mem_cons_of_mem _ hx)) (by omega)]
def kv (w : Nat → Int) : Nat := vl ((List.range 32).map fun j => (w j).toNat)
def by32 (w : Nat → Int) : Prop := ∀ j, j < 32 → 0 ≤ w j ∧ w j < 256
theorem kv_mem {w : Nat → Int} (h : by32 w) : ∀ x ∈ (List.range 32).map fun j => (w j).toNat, x < 256 := by
  intro x hx
  obtain ⟨j, hj, rfl⟩ := List.mem_map.1 hx
  have := h j (List.mem_range.1 hj)
  omega
theorem kv_ofNat (w : Nat → Int) : ((List.range 32).map fun j => UInt8.ofNat (w j).toNat) = ((List.range 32).map fun j => (w j).toNat).map UInt8.ofNat := by
  rw [List.map_map]; rfl
theorem kv_congr {w v : Nat → Int} (h : ∀ j, j < 32 → w j = v j) : kv w = kv v := by
  unfold kv
  congr 1
  exact List.map_congr_left fun j hj => by rw [h j (List.mem_range.1 hj)]
theorem kv_iff {w v : Nat → Int} (hw : by32 w) (hv : by32 v) : kv w = kv v ↔ ∀ j, j < 32 → w j = v j := by
  refine ⟨fun h j hj => ?_, kv_congr⟩
  have := vl_inj (by simp) (kv_mem hw) (kv_mem hv) h
  have e := congrArg (fun l => l[j]?) this
  simp only [List.getElem?_map, List.getElem?_range hj, Option.map_some, Option.some.injEq] at e
  have h1 := hw j hj
  have h2 := hv j hj
  omega
theorem kv_beq {w v : Nat → Int} (hw : by32 w) (hv : by32 v) : ((List.range 32).all fun j => w j == v j) = decide (kv w = kv v) := by
  rw [Bool.eq_iff_iff, decide_eq_true_eq, kv_iff hw hv, List.all_eq_true]
  exact ⟨fun h j hj => beq_iff_eq.1 (h j (List.mem_range.2 hj)), fun h j hj => beq_iff_eq.2 (h j (List.mem_range.1 hj))⟩
structure bcP (n : Nat) (f : Nat → Nat → SC) : Prop where
  bn : n = 32
  bc : ∀ j, j < 32 → (f j 0).conc Rho.nil = .int .u8 (kOf f j 0)
  br : by32 fun j => kOf f j 0
def specBc : FSpec := fun args =>
  match args with
  | [.sc (.xs _ n _ 1 f), .sc (.xs _ m _ 1 g)] => some ([bcP n f, bcP m g], .one (.sc (.val (.int .i64 (cmpK (kv fun j => kOf f j 0) (kv fun j => kOf g j 0))))))
  | _ => none
def bcE : Array Value → Sem Value := Extern.BytealgCompare.compare
theorem run_bytes {P : Program} {w : World} {a : Option Addr} {n cap : Nat} {f : Nat → Nat → SC} {E : Env} (hE : ∀ b o v, E.fz b o v → w.cell? ⟨b, o, none⟩ = some v) (hb : (SC.xs a n cap 1 f).bnd E) (h : bcP n f) :
    (Extern.Bytes.bytesOf (.slice a n cap)).run P w = .ok ⟨((List.range 32).map fun j => UInt8.ofNat (kOf f j 0).toNat).toArray⟩ w := by
  obtain ⟨h1, h2, h3⟩ := h
  obtain ⟨b1, _, b2⟩ := hb
  cases a with
  | none => have := (b1 rfl).1; omega
  | some b =>
    obtain ⟨k1, k2⟩ := b2 b rfl
    have k1 := k1 (by omega)
    have hc := Lib.run_loadBytesX (P := P) w ((List.range 32).map fun j => kOf f j 0) b .empty (fun j x hj => by
      rcases Nat.lt_or_ge j 32 with hl | hl
      · rw [List.getElem?_map, List.getElem?_range hl] at hj
        simp only [Option.map_some, Option.some.injEq] at hj
        subst hj
        obtain ⟨_, _, q⟩ := k2 j (by omega) 0 (by omega)
        rw [h2 j hl] at q
        have e := hE _ _ _ q
        rw [show b.off + (j * 1 + 0) = (b.add j).off by rw [add_off]; omega, ← add_block b j] at e
        rw [← e]
        have : (b.add j).spot = none := add_spot k1 j
        cases hb : b.add j with
        | mk x y z => rw [hb] at this; simp only at this; subst this; rfl
      · rw [List.getElem?_map, List.getElem?_eq_none (by simpa using hl)] at hj
        cases hj)
    have e2 : Extern.Bytes.bytesOf (.slice (some b) n cap) = Extern.Bytes.loadBytes b n .empty := rfl
    rw [e2]
    rw [List.length_map, List.length_range, ← h1] at hc
    rw [hc]
    congr 1
    apply ByteArray.ext
    apply Array.ext'
    simp [Lib.bytesOf, Function.comp_def, h1]
theorem FnOK_bc {P : Program} {f : Nat} {fn : Func} (hf : P.funcs[f]? = some fn) (hn : (fn.name == "runtime.NumGoroutine") = false) (hb : fn.body.isNone = true) (h1 : Extern.findNext fn = none) (h2 : Extern.find fn = some bcE) : FnOK P f specBc := by
  intro args ps sv hs hp
  unfold specBc at hs
  split at hs
  · rename_i a n cap f1 b m cb g1
    simp only [Option.some.injEq, Prod.mk.injEq] at hs
    obtain ⟨rfl, rfl⟩ := hs
    obtain ⟨p1, p2, _⟩ := hp
    refine ⟨trivial, fun ρ w hz _ hbd => .inr ⟨.int .i64 (cmpK (kv fun j => kOf f1 j 0) (kv fun j => kOf g1 j 0)), ?_, rfl⟩⟩
    rw [run_callFunc_extern hf hn hb h1 h2]
    have b1 := hbd (.sc (.xs a n cap 1 f1)) (by simp)
    have b2 := hbd (.sc (.xs b m cb 1 g1)) (by simp)
    have r1 := run_bytes (P := P) (w := w) (E := ⟨fun _ => True, ρ.fz⟩) hz b1 p1
    have r2 := run_bytes (P := P) (w := w) (E := ⟨fun _ => True, ρ.fz⟩) hz b2 p2
    have e : bcE #[.slice a n cap, .slice b m cb] = (do pure (goInt (Extern.BytealgCompare.cmp (← Extern.Bytes.bytesOf (.slice a n cap)) (← Extern.Bytes.bytesOf (.slice b m cb))))) := rfl
    simp only [List.map_cons, List.map_nil, SA.conc, SC.conc]
    rw [e]
    simp only [Sem.run_bind, r1, r2, Result.andThen_ok, Sem.run_pure]
    rw [Lib.cmp_eq]
    simp only [kv_ofNat]
    rw [cmp_vl (by simp) (kv_mem p1.br) (kv_mem p2.br)]
    rfl
  · cases hs
attribute [irreducible] kv
end Go.Sx
end

section
namespace Go.Proofs.Ytnjdoebaneogjaa
open Go.Sx
set_option maxRecDepth 100000
def sWh (w : Nat → Int) : SA := .agg [.f .u8 32 w]
def sHo (w : Nat → Int) (a : Nat) : SA := .agg [.f .u8 32 w, .u a]
def cxBc : Cx := [(43, specBc)]
def bcC : List (List FD) → List Prop
  | [[.x _ n _ f], [.x _ m _ g]] => [bcP n f, bcP m g]
  | _ => [False]
def bcG : List (List FD) → List RS
  | [[.x _ _ _ f], [.x _ _ _ g]] => [.v (sI .i64 (cmpK (kv fun j => kOf f j 0) (kv fun j => kOf g j 0)))]
  | _ => []
def cBc : SSpec := specQ false [.one (.x 1), .one (.x 1)] id bcC bcG
def slAg : List (Nat × SSpec) := [(42, cBc)]
def agC : List (List FD) → List Prop
  | [[.y w, .u _], [.y v]] => [by32 w, by32 v]
  | _ => [False]
def agG : List (List FD) → List RS
  | [[.y w, .u _], [.y v]] => [.v (sI .i64 (cmpK (kv w) (kv v)))]
  | _ => []
def cAg : SSpec := specQ false [.st [.y 32, .u], .st [.y 32]] id agC agG
theorem vc_bcm (a : Option Addr) (n cap : Nat) (f : Nat → Nat → SC) (b : Option Addr) (m cb : Nat) (g : Nat → Nat → SC) (r : Int) :
    OwesR Try.prog cxBc [] [] 10 Try.f42 [.sc (.xs a n cap 1 f), .sc (.xs b m cb 1 g)] false [.v (sI .i64 r)] =
    (bcP n f ∧ bcP m g ∧ cmpK (kv fun (j : Nat) => kOf f j 0) (kv fun (j : Nat) => kOf g j 0) = r) := by kernel_rfl
theorem vc_ag (w : Nat → Int) (x : Nat) (v : Nat → Int) (r : Int) :
    OwesR Try.prog .none slAg [] 10 Try.f38 [sHo w x, sWh v] false [.v (sI .i64 r)] =
    (32 ≤ 32 ∧ ∀ (a : Go.Addr), 32 ≤ 32 ∧ ∀ (a_1 : Go.Addr), Option.some a = Option.some a ∧ 32 = 32 ∧ 32 = 32 ∧ (∀ (i : Nat), i < 32 → w i = w i) ∧ Option.some a_1 = Option.some a_1 ∧ 32 = 32 ∧ 32 = 32 ∧ (∀ (i : Nat), i < 32 → v i = v i) ∧ (bcP 32 fun (i x : Nat) => SC.val (Go.Value.int Go.IntKind.u8 (w i))) ∧ (bcP 32 fun (i x : Nat) => SC.val (Go.Value.int Go.IntKind.u8 (v i))) ∧ cmpK (kv fun (j : Nat) => kOf (fun (i x : Nat) => SC.val (Go.Value.int Go.IntKind.u8 (w i))) j 0) (kv fun (j : Nat) => kOf (fun (i x : Nat) => SC.val (Go.Value.int Go.IntKind.u8 (v i))) j 0) = r) := by kernel_rfl
end Go.Proofs.Ytnjdoebaneogjaa
end

section
namespace Go.Proofs.Ytnjdoebaneogjaa
open Go.Sx
set_option maxRecDepth 100000
theorem cxok_bc : CxOK Try.prog cxBc := ⟨fun p hp => by rw [List.mem_singleton.1 hp]; exact FnOKg.up (FnOK_bc Try.func43 (by kernel_rfl) (by kernel_rfl) (by kernel_rfl) (by kernel_rfl)) [], fun _ h => (by cases h)⟩
theorem card_bc {gl : Globs} : FnOKs Try.prog gl 42 cBc := by
  refine FnOKs.up0 (FnOKs_Q (cx := cxBc) cxok_bc (sl := []) oks_nil Try.func42 (by kernel_rfl) (by kernel_rfl) fun ls hc => ?_) gl
  unfold bcC at hc
  split at hc
  · rename_i a n cap f b m cb g
    obtain ⟨p, q, _⟩ := hc
    refine ⟨[], 10, fun r hr => ?_, ?_⟩
    · rw [List.mem_singleton.1 hr]; exact trivial
    · show OwesR _ _ _ _ _ _ [.sc (.xs a n cap 1 f), .sc (.xs b m cb 1 g)] false [.v (sI .i64 _)]
      rw [vc_bcm]
      exact ⟨p, q, rfl⟩
  · exact hc.1.elim
theorem bc_of {w : Nat → Int} (h : by32 w) : bcP 32 fun i _ => .val (.int .u8 (w i)) := ⟨rfl, fun _ _ => rfl, h⟩
theorem card_ag {gl : Globs} : FnOKs Try.prog gl 38 cAg := by
  refine FnOKs.up0 (FnOKs_Q (cx := Cx.none) ⟨fun _ h => (by cases h), fun _ h => (by cases h)⟩ (sl := slAg) (oks_cons card_bc oks_nil) Try.func38 (by kernel_rfl) (by kernel_rfl) fun ls hc => ?_) gl
  unfold agC at hc
  split at hc
  · rename_i w x v
    obtain ⟨p, q, _⟩ := hc
    refine ⟨[], 10, fun r hr => ?_, ?_⟩
    · rw [List.mem_singleton.1 hr]; exact trivial
    · show OwesR _ _ _ _ _ _ [sHo w x, sWh v] false [.v (sI .i64 _)]
      rw [vc_ag]
      exact ⟨Nat.le_refl _, fun _ => ⟨Nat.le_refl _, fun _ => ⟨rfl, rfl, rfl, fun _ _ => rfl, rfl, rfl, rfl, fun _ _ => rfl, bc_of p, bc_of q, rfl⟩⟩⟩
  · exact hc.1.elim
end Go.Proofs.Ytnjdoebaneogjaa
end

section
namespace Go.Proofs.Ytnjdoebaneogjaa
open Go.Sx
set_option maxRecDepth 100000
def cxPlus : Cx := [(34, specAdd64)]
def cxLess : Cx := [(33, specSub64)]
def cxAdd : Cx := [(23, specUU plusG)]
def cxSub : Cx := [(22, specUU lessG)]
theorem vc_plus (a b : Nat) :
    Owes Try.prog cxPlus [] 100 Try.f23 [sU a, sU b] (plusG a b) =
    ((0 : Int) ≤ limb a 0 ∧ (0 : Int) ≤ limb b 0 ∧ ((0 : Int) ≤ (0 : Int) ∧ (0 : Int) ≤ (1 : Int)) ∧ (0 : Int) ≤ limb a 1 ∧ (0 : Int) ≤ limb b 1 ∧ ((0 : Int) ≤ (limb a 0 + limb b 0 + (0 : Int)) / (18446744073709551616 : Int) ∧ (limb a 0 + limb b 0 + (0 : Int)) / (18446744073709551616 : Int) ≤ (1 : Int)) ∧ (0 : Int) ≤ limb a 2 ∧ (0 : Int) ≤ limb b 2 ∧ ((0 : Int) ≤ (limb a 1 + limb b 1 + (limb a 0 + limb b 0 + (0 : Int)) / (18446744073709551616 : Int)) / (18446744073709551616 : Int) ∧ (limb a 1 + limb b 1 + (limb a 0 + limb b 0 + (0 : Int)) / (18446744073709551616 : Int)) / (18446744073709551616 : Int) ≤ (1 : Int)) ∧ (0 : Int) ≤ limb a 3 ∧ (0 : Int) ≤ limb b 3 ∧ ((0 : Int) ≤ (limb a 2 + limb b 2 + (limb a 1 + limb b 1 + (limb a 0 + limb b 0 + (0 : Int)) / (18446744073709551616 : Int)) / (18446744073709551616 : Int)) / (18446744073709551616 : Int) ∧ (limb a 2 + limb b 2 + (limb a 1 + limb b 1 + (limb a 0 + limb b 0 + (0 : Int)) / (18446744073709551616 : Int)) / (18446744073709551616 : Int)) / (18446744073709551616 : Int) ≤ (1 : Int)) ∧ (((0 : Int) ≤ (limb a 0 + limb b 0 + (0 : Int)) % (18446744073709551616 : Int) ∧ (limb a 0 + limb b 0 + (0 : Int)) % (18446744073709551616 : Int) < (2 : Int) ^ 64) ∧ ((0 : Int) ≤ (limb a 1 + limb b 1 + (limb a 0 + limb b 0 + (0 : Int)) / (18446744073709551616 : Int)) % (18446744073709551616 : Int) ∧ (limb a 1 + limb b 1 + (limb a 0 + limb b 0 + (0 : Int)) / (18446744073709551616 : Int)) % (18446744073709551616 : Int) < (2 : Int) ^ 64) ∧ ((0 : Int) ≤ (limb a 2 + limb b 2 + (limb a 1 + limb b 1 + (limb a 0 + limb b 0 + (0 : Int)) / (18446744073709551616 : Int)) / (18446744073709551616 : Int)) % (18446744073709551616 : Int) ∧ (limb a 2 + limb b 2 + (limb a 1 + limb b 1 + (limb a 0 + limb b 0 + (0 : Int)) / (18446744073709551616 : Int)) / (18446744073709551616 : Int)) % (18446744073709551616 : Int) < (2 : Int) ^ 64) ∧ ((0 : Int) ≤ (limb a 3 + limb b 3 + (limb a 2 + limb b 2 + (limb a 1 + limb b 1 + (limb a 0 + limb b 0 + (0 : Int)) / (18446744073709551616 : Int)) / (18446744073709551616 : Int)) / (18446744073709551616 : Int)) % (18446744073709551616 : Int) ∧ (limb a 3 + limb b 3 + (limb a 2 + limb b 2 + (limb a 1 + limb b 1 + (limb a 0 + limb b 0 + (0 : Int)) / (18446744073709551616 : Int)) / (18446744073709551616 : Int)) / (18446744073709551616 : Int)) % (18446744073709551616 : Int) < (2 : Int) ^ 64) ∧ join ((limb a 0 + limb b 0 + (0 : Int)) % (18446744073709551616 : Int)) ((limb a 1 + limb b 1 + (limb a 0 + limb b 0 + (0 : Int)) / (18446744073709551616 : Int)) % (18446744073709551616 : Int)) ((limb a 2 + limb b 2 + (limb a 1 + limb b 1 + (limb a 0 + limb b 0 + (0 : Int)) / (18446744073709551616 : Int)) / (18446744073709551616 : Int)) % (18446744073709551616 : Int)) ((limb a 3 + limb b 3 + (limb a 2 + limb b 2 + (limb a 1 + limb b 1 + (limb a 0 + limb b 0 + (0 : Int)) / (18446744073709551616 : Int)) / (18446744073709551616 : Int)) / (18446744073709551616 : Int)) % (18446744073709551616 : Int)) % M256 = (a + b) % M256 ∧ True) ∧ (limb a 3 + limb b 3 + (limb a 2 + limb b 2 + (limb a 1 + limb b 1 + (limb a 0 + limb b 0 + (0 : Int)) / (18446744073709551616 : Int)) / (18446744073709551616 : Int)) / (18446744073709551616 : Int)) / (18446744073709551616 : Int) = (↑((a % M256 + b % M256) / M256) : Int)) := by kernel_rfl
theorem vc_less (a b : Nat) :
    Owes Try.prog cxLess [] 100 Try.f22 [sU a, sU b] (lessG a b) =
    (((0 : Int) ≤ limb a 0 ∧ limb a 0 < (18446744073709551616 : Int)) ∧ ((0 : Int) ≤ limb b 0 ∧ limb b 0 < (18446744073709551616 : Int)) ∧ ((0 : Int) ≤ (0 : Int) ∧ (0 : Int) ≤ (1 : Int)) ∧ ((0 : Int) ≤ limb a 1 ∧ limb a 1 < (18446744073709551616 : Int)) ∧ ((0 : Int) ≤ limb b 1 ∧ limb b 1 < (18446744073709551616 : Int)) ∧ ((0 : Int) ≤ -((limb a 0 - limb b 0 - (0 : Int)) / (18446744073709551616 : Int)) ∧ -((limb a 0 - limb b 0 - (0 : Int)) / (18446744073709551616 : Int)) ≤ (1 : Int)) ∧ ((0 : Int) ≤ limb a 2 ∧ limb a 2 < (18446744073709551616 : Int)) ∧ ((0 : Int) ≤ limb b 2 ∧ limb b 2 < (18446744073709551616 : Int)) ∧ ((0 : Int) ≤ -((limb a 1 - limb b 1 - -((limb a 0 - limb b 0 - (0 : Int)) / (18446744073709551616 : Int))) / (18446744073709551616 : Int)) ∧ -((limb a 1 - limb b 1 - -((limb a 0 - limb b 0 - (0 : Int)) / (18446744073709551616 : Int))) / (18446744073709551616 : Int)) ≤ (1 : Int)) ∧ ((0 : Int) ≤ limb a 3 ∧ limb a 3 < (18446744073709551616 : Int)) ∧ ((0 : Int) ≤ limb b 3 ∧ limb b 3 < (18446744073709551616 : Int)) ∧ ((0 : Int) ≤ -((limb a 2 - limb b 2 - -((limb a 1 - limb b 1 - -((limb a 0 - limb b 0 - (0 : Int)) / (18446744073709551616 : Int))) / (18446744073709551616 : Int))) / (18446744073709551616 : Int)) ∧ -((limb a 2 - limb b 2 - -((limb a 1 - limb b 1 - -((limb a 0 - limb b 0 - (0 : Int)) / (18446744073709551616 : Int))) / (18446744073709551616 : Int))) / (18446744073709551616 : Int)) ≤ (1 : Int)) ∧ (((0 : Int) ≤ (limb a 0 - limb b 0 - (0 : Int)) % (18446744073709551616 : Int) ∧ (limb a 0 - limb b 0 - (0 : Int)) % (18446744073709551616 : Int) < (2 : Int) ^ 64) ∧ ((0 : Int) ≤ (limb a 1 - limb b 1 - -((limb a 0 - limb b 0 - (0 : Int)) / (18446744073709551616 : Int))) % (18446744073709551616 : Int) ∧ (limb a 1 - limb b 1 - -((limb a 0 - limb b 0 - (0 : Int)) / (18446744073709551616 : Int))) % (18446744073709551616 : Int) < (2 : Int) ^ 64) ∧ ((0 : Int) ≤ (limb a 2 - limb b 2 - -((limb a 1 - limb b 1 - -((limb a 0 - limb b 0 - (0 : Int)) / (18446744073709551616 : Int))) / (18446744073709551616 : Int))) % (18446744073709551616 : Int) ∧ (limb a 2 - limb b 2 - -((limb a 1 - limb b 1 - -((limb a 0 - limb b 0 - (0 : Int)) / (18446744073709551616 : Int))) / (18446744073709551616 : Int))) % (18446744073709551616 : Int) < (2 : Int) ^ 64) ∧ ((0 : Int) ≤ (limb a 3 - limb b 3 - -((limb a 2 - limb b 2 - -((limb a 1 - limb b 1 - -((limb a 0 - limb b 0 - (0 : Int)) / (18446744073709551616 : Int))) / (18446744073709551616 : Int))) / (18446744073709551616 : Int))) % (18446744073709551616 : Int) ∧ (limb a 3 - limb b 3 - -((limb a 2 - limb b 2 - -((limb a 1 - limb b 1 - -((limb a 0 - limb b 0 - (0 : Int)) / (18446744073709551616 : Int))) / (18446744073709551616 : Int))) / (18446744073709551616 : Int))) % (18446744073709551616 : Int) < (2 : Int) ^ 64) ∧ join ((limb a 0 - limb b 0 - (0 : Int)) % (18446744073709551616 : Int)) ((limb a 1 - limb b 1 - -((limb a 0 - limb b 0 - (0 : Int)) / (18446744073709551616 : Int))) % (18446744073709551616 : Int)) ((limb a 2 - limb b 2 - -((limb a 1 - limb b 1 - -((limb a 0 - limb b 0 - (0 : Int)) / (18446744073709551616 : Int))) / (18446744073709551616 : Int))) % (18446744073709551616 : Int)) ((limb a 3 - limb b 3 - -((limb a 2 - limb b 2 - -((limb a 1 - limb b 1 - -((limb a 0 - limb b 0 - (0 : Int)) / (18446744073709551616 : Int))) / (18446744073709551616 : Int))) / (18446744073709551616 : Int))) % (18446744073709551616 : Int)) % M256 = (a % M256 + M256 - b % M256) % M256 ∧ True) ∧ -((limb a 3 - limb b 3 - -((limb a 2 - limb b 2 - -((limb a 1 - limb b 1 - -((limb a 0 - limb b 0 - (0 : Int)) / (18446744073709551616 : Int))) / (18446744073709551616 : Int))) / (18446744073709551616 : Int))) / (18446744073709551616 : Int)) = if a % M256 < b % M256 then (1 : Int) else (0 : Int)) := by kernel_rfl
theorem vc_Add (a b : Nat) :
    Owes Try.prog cxAdd [] 100 Try.f13 [sU a, sU b] (addG a b) =
    (((a + b) % M256 = (a + b) % M256 ∧ True) ∧ ((↑((a % M256 + b % M256) / M256) : Int) != (0 : Int)) = Decidable.decide (M256 ≤ a % M256 + b % M256)) := by kernel_rfl
theorem vc_Sub (a b : Nat) :
    Owes Try.prog cxSub [] 100 Try.f12 [sU a, sU b] (subG a b) =
    (((a % M256 + M256 - b % M256) % M256 = (a % M256 + M256 - b % M256) % M256 ∧ True) ∧ ((if a % M256 < b % M256 then (1 : Int) else (0 : Int)) != (0 : Int)) = Decidable.decide (a % M256 < b % M256)) := by kernel_rfl
theorem vc_Cmp (a b : Nat) :
    Owes Try.prog Cx.none [] 100 Try.f10 [sU a, sU b] (cmpG a b) =
    ((Decidable.decide (limb a 3 < limb b 3) = Bool.true → (-1 : Int) = cmpN a b) ∧ (Decidable.decide (limb a 3 < limb b 3) = Bool.false → (Decidable.decide (limb a 3 > limb b 3) = Bool.true → (1 : Int) = cmpN a b) ∧ (Decidable.decide (limb a 3 > limb b 3) = Bool.false → (Decidable.decide (limb a 2 < limb b 2) = Bool.true → (-1 : Int) = cmpN a b) ∧ (Decidable.decide (limb a 2 < limb b 2) = Bool.false → (Decidable.decide (limb a 2 > limb b 2) = Bool.true → (1 : Int) = cmpN a b) ∧ (Decidable.decide (limb a 2 > limb b 2) = Bool.false → (Decidable.decide (limb a 1 < limb b 1) = Bool.true → (-1 : Int) = cmpN a b) ∧ (Decidable.decide (limb a 1 < limb b 1) = Bool.false → (Decidable.decide (limb a 1 > limb b 1) = Bool.true → (1 : Int) = cmpN a b) ∧ (Decidable.decide (limb a 1 > limb b 1) = Bool.false → (Decidable.decide (limb a 0 < limb b 0) = Bool.true → (-1 : Int) = cmpN a b) ∧ (Decidable.decide (limb a 0 < limb b 0) = Bool.false → (Decidable.decide (limb a 0 > limb b 0) = Bool.true → (1 : Int) = cmpN a b) ∧ (Decidable.decide (limb a 0 > limb b 0) = Bool.false → (0 : Int) = cmpN a b))))))))) := by kernel_rfl
theorem vc_picked (n m : Int) :
    Owes Try.prog Cx.none [] 100 Try.f6 [sI .i64 n, sI .i64 m] (pickedG n m) =
    (m ≠ (0 : Int) ∧ (Decidable.decide (n.tmod m < (0 : Int)) = Bool.true → Go.IntKind.i64.wrap (n.tmod m + m) = n % m) ∧ (Decidable.decide (n.tmod m < (0 : Int)) = Bool.false → n.tmod m = n % m)) := by kernel_rfl
end Go.Proofs.Ytnjdoebaneogjaa
end
