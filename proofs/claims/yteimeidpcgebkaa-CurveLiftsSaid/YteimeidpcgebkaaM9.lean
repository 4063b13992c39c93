/-
  Texts: Sx14, Sx15, V14, V73, V6, V4, P1, P2, P3, P4.
-/
import Derived.Test.YteimeidpcgebkaaM1
import Derived.Test.YteimeidpcgebkaaM2
import Derived.Test.YteimeidpcgebkaaM3
import Derived.Test.YteimeidpcgebkaaM4
import Derived.Test.YteimeidpcgebkaaM5
import Derived.Test.YteimeidpcgebkaaM6
import Derived.Test.YteimeidpcgebkaaM7
import Derived.Test.YteimeidpcgebkaaM8
section
namespace Go.Sx
open Go.RowKit
inductive RK where
  | k (x : SK)
  | s (n w : Nat) (g : Nat → Nat → SC)
inductive RS where
  | v (x : SA)
  | s (n : Nat) (k : IntKind) (g : Nat → Int)
  | rows (n wd : Nat) (g : Nat → Nat → SC)
  | st (ks : List RK)
structure SSpec where
  share : Bool
  of : List SA → Option (List Prop × List RS)
def xsI (a : Option Addr) (n cap : Nat) (k : IntKind) (g : Nat → Int) : SA := .sc (.xs a n cap 1 fun i _ => .val (.int k (g i)))
def answersK : List RK → (List SK → Prop) → Prop
  | [], K => K []
  | .k x :: r, K => answersK r fun l => K (x :: l)
  | .s n w g :: r, K => ∀ (a : Option Addr) (cap : Nat), (a = none → n = 0 ∧ cap = 0) → n ≤ cap → answersK r fun l => K (.c (.xs a n cap w g) :: l)
def answers : List RS → (List SA → Prop) → Prop
  | [], K => K []
  | .v x :: r, K => answers r fun l => K (x :: l)
  | .s n k g :: r, K => ∀ (a : Option Addr) (cap : Nat), (a = none → n = 0 ∧ cap = 0) → n ≤ cap → answers r fun l => K (xsI a n cap k g :: l)
  | .rows n wd g :: r, K => ∀ (a : Option Addr) (cap : Nat), (a = none → n = 0 ∧ cap = 0) → n ≤ cap → answers r fun l => K (.sc (.xs a n cap wd g) :: l)
  | .st ks :: r, K => answersK ks fun l => answers r fun l' => K (.agg l :: l')
def isSl (w : World) (far : Nat → Prop) (n wd : Nat) (g : Nat → Nat → SC) (y : Value) : Prop :=
  ∃ a cap, y = .slice a n cap ∧ (a = none → n = 0 ∧ cap = 0) ∧ n ≤ cap ∧ ∀ b, a = some b → b.spot = none ∧ ∀ i, i < n → ∀ c, c < wd → ((g i c).bnd none0 ∧ (g i c).fit = true) ∧ far b.block ∧ w.cell? ⟨b.block, b.off + (i * wd + c), none⟩ = some ((g i c).conc Rho.nil)
def isG (w : World) (far : Nat → Prop) : List RK → List Value → Prop
  | [], vs => vs = []
  | .k x :: r, vs => ∃ vs', vs = concs Rho.nil [x] ++ vs' ∧ x.bnd none0 ∧ isG w far r vs'
  | .s n wd g :: r, vs => ∃ v vs', vs = v :: vs' ∧ isSl w far n wd g v ∧ isG w far r vs'
def RS.is (w : World) (far : Nat → Prop) : RS → Value → Prop
  | .v x, y => y = x.conc Rho.nil ∧ x.bnd none0
  | .s n k g, y => ∃ a cap, y = .slice a n cap ∧ (a = none → n = 0 ∧ cap = 0) ∧ n ≤ cap ∧ ∀ b, a = some b → b.spot = none ∧ ∀ i, i < n → far b.block ∧ w.cell? ⟨b.block, b.off + i, none⟩ = some (.int k (g i))
  | .rows n wd g, y => isSl w far n wd g y
  | .st ks, y => ∃ vs : List Value, y = .agg vs.toArray ∧ isG w far ks vs
def RS.isL (w : World) (far : Nat → Prop) : List RS → List Value → Prop
  | [], [] => True
  | r :: rs, y :: ys => r.is w far y ∧ RS.isL w far rs ys
  | _, _ => False
def valL : List Value → Value
  | [v] => v
  | vs => .tuple vs.toArray
def FnOKs (P : Program) (gl : Globs) (f : Nat) (s : SSpec) : Prop :=
  ∀ args ps rs, s.of args = some (ps, rs) → Ok ps → ∀ (ρ : Rho) (w : World), FzOK ρ.fz w → GlobsOK gl ρ.fz → (∀ x ∈ args, x.bnd ⟨fun _ => True, ρ.fz⟩) →
    (callFunc f (args.map (SA.conc ρ)).toArray).run P w = .ok (.enter f (args.map (SA.conc ρ)).toArray) w ∧
      Calls P f (args.map (SA.conc ρ)).toArray w fun e w' => ∃ vs, e = .returned (valL vs) ∧ RS.isL w' (fun b => w.heap.size ≤ b ∨ (s.share = true ∧ ∃ o u, ρ.fz b o u)) rs vs ∧ Below w.heap.size w w'
def getSS : List (Nat × SSpec) → Nat → Option SSpec
  | [], _ => none
  | (g, s) :: r, f => match Nat.beq g f with
    | true => some s
    | false => getSS r f
theorem getSS_ok {P : Program} {gl : Globs} : ∀ {l : List (Nat × SSpec)} {f : Nat} {s : SSpec}, (∀ p ∈ l, FnOKs P gl p.1 p.2) → getSS l f = some s → FnOKs P gl f s
  | [], _, _, _, h => by simp [getSS] at h
  | (g, s') :: r, f, s, hc, h => by
    simp only [getSS] at h
    split at h
    · rename_i hg
      simp only [Option.some.injEq] at h; subst h
      have : g = f := Nat.eq_of_beq_eq_true hg
      subst this
      exact hc (g, s') (by simp)
    · exact getSS_ok (fun p hp => hc p (by simp [hp])) h
def lentK (ob : List SO) : List SK → (List SK → Prop) → Prop
  | [], K => K []
  | .c (.slw o w off len cap) :: r, K => match ob[o]? with
    | some (.row _ w' n g _) => match Nat.beq w w' with
      | true => ands [off + len ≤ n, len ≤ cap] (∀ a : Addr, lentK ob r fun l => K (.c (.xs (some a) len cap w (fun i c => g (off + i) c)) :: l))
      | false => StuckAt "lent"
    | _ => StuckAt "lent"
  | k :: r, K => lentK ob r fun l => K (k :: l)
def lent (ob : List SO) : List SA → (List SA → Prop) → Prop
  | [], K => K []
  | .sc (.sl o off len cap) :: r, K => match ob[o]? with
    | some (.cells _ ks _) => match sub ks off len with
      | some cs => match kindHead cs with
        | some k => match kindAll k cs with
          | true => ands [len ≤ cap] (∀ a : Addr, lent ob r fun l => K (xsI (some a) len cap k (selG cs) :: l))
          | false => StuckAt "lent"
        | none => StuckAt "lent"
      | none => StuckAt "lent"
    | _ => StuckAt "lent"
  | .sc (.slw o w off len cap) :: r, K => match ob[o]? with
    | some (.row _ w' n g _) => match Nat.beq w w' with
      | true => ands [off + len ≤ n, len ≤ cap] (∀ a : Addr, lent ob r fun l => K (.sc (.xs (some a) len cap w (fun i c => g (off + i) c)) :: l))
      | false => StuckAt "lent"
    | _ => StuckAt "lent"
  | .agg ks :: r, K => lentK ob ks fun ks' => lent ob r fun l => K (.agg ks' :: l)
  | x :: r, K => lent ob r fun l => K (x :: l)
def inlS (sl : List (Nat × SSpec)) (inner : Inl) : Inl := fun f args ob k =>
  match getSS sl f with
  | none => inner f args ob k
  | some s => match s.share with
    | false => lent ob args fun args' => match s.of args' with
      | some (ps, rs) => ands ps (answers rs fun l => k (resV l) ob)
      | none => StuckAt "card"
    | true => match frzOf args with
      | none => match s.of args with
        | some (ps, rs) => ands ps (answers rs fun l => k (resV l) ob)
        | none => StuckAt "card"
      | some (pre, o, off, len, cap, post) => match ob[o]? with
        | some (.cells _ ks _) => match sub ks off len with
          | some cs => match kindHead cs with
            | some kd => match kindAll kd cs && (ob.set o .dead).all (obB (liveB (ob.set o .dead))) with
              | true => ands [len ≤ cap] (∀ a : Addr, match s.of (pre ++ xsI (some a) len cap kd (selG cs) :: post) with
                | some (ps, rs) => ands ps (answers rs fun l => k (resV l) (ob.set o .dead))
                | none => StuckAt "card")
              | false => StuckAt "taken"
            | none => StuckAt "taken"
          | none => StuckAt "taken"
        | _ => StuckAt "taken"
section
variable {P : Program} {W0 : Base} {ρ : Rho} {tm : List SV} {ob : List SO} {a : Act} {w : World}
theorem valL_conc (ρ : Rho) (l : List SA) : (resV l).rep ρ (valL (l.map (SA.conc ρ))) := by
  match l with
  | [] => rfl
  | [x] => rfl
  | x :: y :: r => rfl
theorem resV_bnd {n : Env} {l : List SA} (h : ∀ x ∈ l, x.bnd n) : (resV l).bnd n := by
  match l, h with
  | [], _ => exact fun x hx => by cases hx
  | [x], h => exact h x (by simp)
  | x :: y :: r, h => exact h
theorem isSl.far {w : World} {p q : Nat → Prop} (h : ∀ b, p b → q b) {n wd : Nat} {g : Nat → Nat → SC} {y : Value} : isSl w p n wd g y → isSl w q n wd g y :=
  fun ⟨a, c, e, h1, h2, h3⟩ => ⟨a, c, e, h1, h2, fun b hb => ⟨(h3 b hb).1, fun i hi c hc => ⟨((h3 b hb).2 i hi c hc).1, h _ ((h3 b hb).2 i hi c hc).2.1, ((h3 b hb).2 i hi c hc).2.2⟩⟩⟩
theorem isG.far {w : World} {p q : Nat → Prop} (h : ∀ b, p b → q b) : ∀ {ks : List RK} {vs : List Value}, isG w p ks vs → isG w q ks vs
  | [], _, k => k
  | .k _ :: _, _, ⟨vs', e, hb, k⟩ => ⟨vs', e, hb, isG.far h k⟩
  | .s _ _ _ :: _, _, ⟨v, vs', e, hs, k⟩ => ⟨v, vs', e, hs.far h, isG.far h k⟩
theorem RS.is.far {w : World} {p q : Nat → Prop} (h : ∀ b, p b → q b) : ∀ {r : RS} {y : Value}, r.is w p y → r.is w q y
  | .v _, _, k => k
  | .s _ _ _, _, ⟨a, c, e, h1, h2, h3⟩ => ⟨a, c, e, h1, h2, fun b hb => ⟨(h3 b hb).1, fun i hi => ⟨h _ ((h3 b hb).2 i hi).1, ((h3 b hb).2 i hi).2⟩⟩⟩
  | .rows _ _ _, _, k => isSl.far h k
  | .st _, _, ⟨vs, e, k⟩ => ⟨vs, e, k.far h⟩
theorem RS.isL.far {w : World} {p q : Nat → Prop} : ∀ {rs : List RS} {ys : List Value}, RS.isL w p rs ys → (∀ b, p b → q b) → RS.isL w q rs ys
  | [], [], _, _ => trivial
  | _ :: _, _ :: _, k, h => ⟨k.1.far h, RS.isL.far k.2 h⟩
  | [], _ :: _, k, _ => by exact k.elim
  | _ :: _, [], k, _ => by exact k.elim
theorem isSl.bnd {w : World} {far : Nat → Prop} {n wd : Nat} {g : Nat → Nat → SC} {a : Option Addr} {cap : Nat} (h1 : a = none → n = 0 ∧ cap = 0) (h2 : n ≤ cap)
    (h3 : ∀ b, a = some b → b.spot = none ∧ ∀ i, i < n → ∀ c, c < wd → ((g i c).bnd none0 ∧ (g i c).fit = true) ∧ far b.block ∧ w.cell? ⟨b.block, b.off + (i * wd + c), none⟩ = some ((g i c).conc Rho.nil))
    (fz : Nat → Nat → Value → Prop) (hz : ∀ b o v, far b → w.cell? ⟨b, o, none⟩ = some v → fz b o v) : (SC.xs a n cap wd g).bnd ⟨fun _ => False, fz⟩ :=
  ⟨h1, h2, fun b hb => ⟨(h3 b hb).1, fun i hi c hc => by
    obtain ⟨⟨q1, q2⟩, q3, q4⟩ := (h3 b hb).2 i hi c hc
    exact ⟨SC.bnd_mono none0_le q1, q2, hz _ _ _ q3 q4⟩⟩⟩
theorem answersK_pick {w : World} {far : Nat → Prop} : ∀ {ks : List RK} {vs : List Value} {K : List SK → Prop}, answersK ks K → isG w far ks vs → ∃ l, K l ∧ (∀ ρ : Rho, concs ρ l = vs) ∧
    ∀ fz : Nat → Nat → Value → Prop, (∀ b o v, far b → w.cell? ⟨b, o, none⟩ = some v → fz b o v) → ∀ x ∈ l, x.bnd ⟨fun _ => False, fz⟩
  | [], _, K, h, hv => ⟨[], h, fun _ => by rw [show _ = [] from hv]; rfl, fun _ _ x hx => by cases hx⟩
  | .k x :: r, vs, K, h, hv => by
    obtain ⟨vs', rfl, hb, hr⟩ := hv
    obtain ⟨l, k1, k2, k3⟩ := answersK_pick (K := fun l => K (x :: l)) h hr
    refine ⟨x :: l, k1, fun ρ => ?_, fun fz hz y hy => ?_⟩
    · rw [concs_cons ρ x l, k2 ρ, Agree.sks (n := none0) (ρ := Rho.nil) (ρ' := ρ) (fun _ hi => hi.elim) (fun c hc => by rw [List.mem_singleton.1 hc]; exact hb)]
    · rcases List.mem_cons.1 hy with rfl | hy
      · exact SK.bnd_mono none0_le hb
      · exact k3 fz hz y hy
  | .s n wd g :: r, vs, K, h, hv => by
    obtain ⟨v, vs', rfl, ⟨ad, cap, e, h1, h2, h3⟩, hr⟩ := hv
    obtain ⟨l, k1, k2, k3⟩ := answersK_pick (K := fun l => K (.c (.xs ad n cap wd g) :: l)) (h ad cap h1 h2) hr
    refine ⟨.c (.xs ad n cap wd g) :: l, k1, fun ρ => ?_, fun fz hz y hy => ?_⟩
    · rw [concs_cons ρ _ l, k2 ρ, e]; rfl
    · rcases List.mem_cons.1 hy with rfl | hy
      · exact isSl.bnd h1 h2 h3 fz hz
      · exact k3 fz hz y hy
theorem answers_pick {w : World} {far : Nat → Prop} : ∀ {rs : List RS} {vs : List Value} {K : List SA → Prop}, answers rs K → RS.isL w far rs vs → ∃ l, K l ∧ (∀ ρ : Rho, l.map (SA.conc ρ) = vs) ∧
    ∀ fz : Nat → Nat → Value → Prop, (∀ b o v, far b → w.cell? ⟨b, o, none⟩ = some v → fz b o v) → ∀ x ∈ l, x.bnd ⟨fun _ => False, fz⟩
  | [], [], K, h, _ => ⟨[], h, fun _ => rfl, fun _ _ x hx => by cases hx⟩
  | .v x :: r, v :: vs, K, h, hv => by
    obtain ⟨⟨e, hb⟩, hr⟩ := hv
    obtain ⟨l, k1, k2, k3⟩ := answers_pick (K := fun l => K (x :: l)) h hr
    refine ⟨x :: l, k1, fun ρ => ?_, fun fz hz y hy => ?_⟩
    · rw [List.map_cons, k2 ρ, e, Agree.sa (n := none0) (ρ := Rho.nil) (ρ' := ρ) (fun _ hi => hi.elim) hb]
    · rcases List.mem_cons.1 hy with rfl | hy
      · exact SA.bnd_mono none0_le hb
      · exact k3 fz hz y hy
  | .s n k g :: r, v :: vs, K, h, hv => by
    obtain ⟨⟨ad, cap, e, h1, h2, h3⟩, hr⟩ := hv
    obtain ⟨l, k1, k2, k3⟩ := answers_pick (K := fun l => K (xsI ad n cap k g :: l)) (h ad cap h1 h2) hr
    refine ⟨xsI ad n cap k g :: l, k1, fun ρ => ?_, fun fz hz y hy => ?_⟩
    · rw [List.map_cons, k2 ρ, e]; rfl
    · rcases List.mem_cons.1 hy with rfl | hy
      · refine ⟨h1, h2, fun b hb => ⟨(h3 b hb).1, fun i hi c hc => ⟨trivial, rfl, ?_⟩⟩⟩
        have hc0 : c = 0 := by omega
        subst hc0
        have := (h3 b hb).2 i hi
        rw [Nat.mul_one, Nat.add_zero]
        exact hz _ _ _ this.1 this.2
      · exact k3 fz hz y hy
  | .rows n wd g :: r, v :: vs, K, h, hv => by
    obtain ⟨⟨ad, cap, e, h1, h2, h3⟩, hr⟩ := hv
    obtain ⟨l, k1, k2, k3⟩ := answers_pick (K := fun l => K (.sc (.xs ad n cap wd g) :: l)) (h ad cap h1 h2) hr
    refine ⟨.sc (.xs ad n cap wd g) :: l, k1, fun ρ => ?_, fun fz hz y hy => ?_⟩
    · rw [List.map_cons, k2 ρ, e]; rfl
    · rcases List.mem_cons.1 hy with rfl | hy
      · exact isSl.bnd h1 h2 h3 fz hz
      · exact k3 fz hz y hy
  | .st ks :: r, v :: vs, K, h, hv => by
    obtain ⟨⟨us, e, hg⟩, hr⟩ := hv
    obtain ⟨l1, h', e1, b1⟩ := answersK_pick (K := fun l => answers r fun l' => K (.agg l :: l')) h hg
    obtain ⟨l, k1, k2, k3⟩ := answers_pick (K := fun l => K (.agg l1 :: l)) h' hr
    refine ⟨.agg l1 :: l, k1, fun ρ => ?_, fun fz hz y hy => ?_⟩
    · rw [List.map_cons, k2 ρ, e]; simp only [SA.conc, e1]
    · rcases List.mem_cons.1 hy with rfl | hy
      · exact b1 fz hz
      · exact k3 fz hz y hy
  | [], _ :: _, _, _, hv => by exact hv.elim
  | .v _ :: _, [], _, _, hv => by exact hv.elim
  | .s _ _ _ :: _, [], _, _, hv => by exact hv.elim
  | .rows _ _ _ :: _, [], _, _, hv => by exact hv.elim
  | .st _ :: _, [], _, _, hv => by exact hv.elim
abbrev seenEnv (w : World) : Env := ⟨fun _ => True, fun b o v => w.cell? ⟨b, o, none⟩ = some v⟩
theorem lent_row (H : Holds W0 ρ tm ob a w) {o : Nat} {e' : TypeId} {w1 n sp off len cap : Nat} {g : Nat → Nat → SC} (hob : ob[o]? = some (.row e' w1 n g sp)) (hol : off + len ≤ n) (hlc : len ≤ cap) :
    (SC.xs (some ⟨ρ o, off * w1, none⟩) len cap w1 fun i c => g (off + i) c).bnd (seenEnv w) := by
  have hle : Env.le (lv ρ ob) (seenEnv w) := ⟨fun _ _ => trivial, fun b o v hv => (H.mem.frz b o v hv).1⟩
  obtain ⟨_, ⟨rest, _, hrow⟩, hok⟩ := H.mem.rows hob
  refine ⟨fun e => (by cases e), hlc, fun bb hbb => ?_⟩
  simp only [Option.some.injEq] at hbb
  subst hbb
  refine ⟨rfl, fun i hi c hc => ?_⟩
  obtain ⟨q1, q2⟩ := hok (off + i) (by omega) c hc
  refine ⟨SC.bnd_mono (n := (lv ρ ob).bare) (m := (seenEnv w).bare) ⟨fun _ x => x, hle.fz⟩ q1, q2, ?_⟩
  have hg := rowc_get (w := w1) (n := n) (g := g) (i := off + i) (c := c) (by omega) hc
  have hlt : (off + i) * w1 + c < n * w1 := by
    have : (off + i + 1) * w1 ≤ n * w1 := Nat.mul_le_mul_right _ (by omega)
    rw [Nat.add_mul, Nat.one_mul] at this
    omega
  simp only [World.cell?, hrow]
  rw [show off * w1 + (i * w1 + c) = (off + i) * w1 + c by rw [Nat.add_mul]; omega, List.getElem?_toArray, List.getElem?_append_left (by rw [rowc_length]; exact hlt)]
  exact hg
theorem lentK_sound (H : Holds W0 ρ tm ob a w) : ∀ {ks : List SK} {K : List SK → Prop}, (∀ k ∈ ks, k.bnd (lv ρ ob)) → lentK ob ks K → ∃ l, K l ∧ concs ρ l = concs ρ ks ∧ ∀ k ∈ l, k.bnd (seenEnv w)
  | [], K, _, h => ⟨[], h, rfl, fun x hx => by cases hx⟩
  | x :: r, K, hb, h => by
    have hle : Env.le (lv ρ ob) (seenEnv w) := ⟨fun _ _ => trivial, fun b o v hv => (H.mem.frz b o v hv).1⟩
    have hr : ∀ y ∈ r, y.bnd (lv ρ ob) := fun y hy => hb y (by simp [hy])
    unfold lentK at h
    split at h
    · rename_i heq; cases heq
    · rename_i o w1 off len cap r' heq
      simp only [List.cons.injEq] at heq
      obtain ⟨rfl, rfl⟩ := heq
      split at h
      case h_2 => exact h.no
      rename_i e' w2 n g sp hob
      split at h
      case h_2 => exact h.no
      rename_i hw
      have hw1 := Nat.eq_of_beq_eq_true hw
      subst hw1
      obtain ⟨⟨hol, hlc, _⟩, h⟩ := ands_iff.1 h
      obtain ⟨l, k1, k2, k3⟩ := lentK_sound H hr (h ⟨ρ o, off * w1, none⟩)
      refine ⟨_, k1, by rw [concs_cons, concs_cons ρ (.c (.slw o w1 off len cap)), k2]; rfl, fun y hy => ?_⟩
      rcases List.mem_cons.1 hy with rfl | hy
      · exact lent_row H hob hol hlc
      · exact k3 y hy
    · rename_i y r' K' _ heq
      simp only [List.cons.injEq] at heq
      obtain ⟨rfl, rfl⟩ := heq
      obtain ⟨l, k1, k2, k3⟩ := lentK_sound H hr h
      refine ⟨_, k1, by rw [concs_cons ρ x l, concs_cons ρ x r, k2], fun y hy => ?_⟩
      rcases List.mem_cons.1 hy with rfl | hy
      · exact SK.bnd_mono hle (hb y (by simp))
      · exact k3 y hy
theorem lent_sound (H : Holds W0 ρ tm ob a w) : ∀ {args : List SA} {K : List SA → Prop}, (∀ x ∈ args, x.bnd (lv ρ ob)) → lent ob args K → ∃ l, K l ∧ l.map (SA.conc ρ) = args.map (SA.conc ρ) ∧ ∀ x ∈ l, x.bnd ⟨fun _ => True, fun b o v => w.cell? ⟨b, o, none⟩ = some v⟩
  | [], K, _, h => ⟨[], h, rfl, fun x hx => by cases hx⟩
  | x :: r, K, hb, h => by
    have hle : Env.le (lv ρ ob) ⟨fun _ => True, fun b o v => w.cell? ⟨b, o, none⟩ = some v⟩ := ⟨fun _ _ => trivial, fun b o v hv => (H.mem.frz b o v hv).1⟩
    have hr : ∀ y ∈ r, y.bnd (lv ρ ob) := fun y hy => hb y (by simp [hy])
    unfold lent at h
    split at h
    · rename_i heq; cases heq
    · rename_i o off len cap r' heq
      simp only [List.cons.injEq] at heq
      obtain ⟨rfl, rfl⟩ := heq
      split at h
      case h_2 => exact h.no
      rename_i e' ks sp hob
      split at h
      case h_2 => exact h.no
      rename_i cs hcs
      split at h
      case h_2 => exact h.no
      rename_i k hk
      split at h
      case h_2 => exact h.no
      rename_i hka
      obtain ⟨⟨hlc, _⟩, h⟩ := ands_iff.1 h
      obtain ⟨_, ⟨rest, _, hrow⟩, _⟩ := H.mem.obj o e' ks sp hob
      obtain ⟨l, k1, k2, k3⟩ := lent_sound H hr (h ⟨ρ o, off, none⟩)
      refine ⟨_, k1, by rw [List.map_cons, List.map_cons, k2]; rfl, fun y hy => ?_⟩
      rcases List.mem_cons.1 hy with rfl | hy
      · refine ⟨fun e => (by cases e), hlc, fun bb hbb => ?_⟩
        simp only [Option.some.injEq] at hbb
        subst hbb
        refine ⟨rfl, fun i hi c hc => ⟨trivial, rfl, ?_⟩⟩
        have hc0 : c = 0 := by omega
        subst hc0
        obtain ⟨l1, l2⟩ := concs_sub hcs ρ
        have hlen : (flat cs).length = len := by
          obtain ⟨a, b⟩ := sub_flat hcs
          rw [b]; simp; omega
        have := selG_conc hka ρ (j := i) (by omega)
        rw [l2, List.getElem?_take, if_pos hi, List.getElem?_drop] at this
        simp only [World.cell?, hrow, Nat.mul_one, Nat.add_zero]
        rw [List.getElem?_toArray, List.getElem?_append_left (List.getElem?_eq_some_iff.1 this).1]
        exact this
      · exact k3 y hy
    · rename_i o w1 off len cap r' heq
      simp only [List.cons.injEq] at heq
      obtain ⟨rfl, rfl⟩ := heq
      split at h
      case h_2 => exact h.no
      rename_i e' w2 n g sp hob
      split at h
      case h_2 => exact h.no
      rename_i hw
      have hw1 := Nat.eq_of_beq_eq_true hw
      subst hw1
      obtain ⟨⟨hol, hlc, _⟩, h⟩ := ands_iff.1 h
      obtain ⟨l, k1, k2, k3⟩ := lent_sound H hr (h ⟨ρ o, off * w1, none⟩)
      refine ⟨_, k1, by rw [List.map_cons, List.map_cons, k2]; rfl, fun y hy => ?_⟩
      rcases List.mem_cons.1 hy with rfl | hy
      · exact lent_row H hob hol hlc
      · exact k3 y hy
    · rename_i ks r' heq
      simp only [List.cons.injEq] at heq
      obtain ⟨rfl, rfl⟩ := heq
      obtain ⟨ks', h', e1, e2⟩ := lentK_sound H (hb (.agg ks) (by simp)) h
      obtain ⟨l, k1, k2, k3⟩ := lent_sound H hr h'
      refine ⟨_, k1, by rw [List.map_cons, List.map_cons, k2]; simp only [SA.conc, e1], fun y hy => ?_⟩
      rcases List.mem_cons.1 hy with rfl | hy
      · exact e2
      · exact k3 y hy
    · rename_i y r' K' _ _ _ heq
      simp only [List.cons.injEq] at heq
      obtain ⟨rfl, rfl⟩ := heq
      obtain ⟨l, k1, k2, k3⟩ := lent_sound H hr h
      refine ⟨_, k1, by rw [List.map_cons, List.map_cons, k2], fun y hy => ?_⟩
      rcases List.mem_cons.1 hy with rfl | hy
      · exact SA.bnd_mono hle (hb y (by simp))
      · exact k3 y hy
theorem shared (H : Holds W0 ρ tm ob a w) {w' : World} (hbl : Below w.heap.size w w') {sh : Prop} {rs : List RS} {vs : List Value} {k : SV → List SO → Prop} (h : answers rs fun l => k (resV l) ob) (hvs : RS.isL w' (fun b => w.heap.size ≤ b ∨ (sh ∧ ∃ o u, ρ.fz b o u)) rs vs) :
    ∃ ρ' sv, k sv ob ∧ sv.rep ρ' (valL vs) ∧ sv.bnd (lv ρ' ob) ∧ Holds W0 ρ' tm ob a w' := by
  obtain ⟨xs, hk, hx1, hx2⟩ := answers_pick h hvs
  have hlt : ∀ i, live ob i → ρ i < w.heap.size := by
    rintro i ⟨x, hi, hx⟩
    obtain ⟨_, ⟨_, _, h2⟩, _⟩ := H.mem.objs i x hi hx
    exact heap_lt h2
  have H1 := (H.world hbl).frozen (fun b o v => (w.heap.size ≤ b ∨ (sh ∧ ∃ o u, ρ.fz b o u)) ∧ w'.cell? ⟨b, o, none⟩ = some v)
    (fun b o v hF => ⟨hF.2, fun i hi => by
      rcases hF.1 with hb | ⟨_, o, u, hf⟩
      · have := hlt i hi; omega
      · exact (H.mem.frz b o u hf).2 i hi⟩)
    (fun b o v hF => by
      rcases hF.1 with hb | ⟨_, hf⟩
      · exact .inr (Nat.le_trans H.below.size hb)
      · exact .inl hf)
  refine ⟨⟨ρ.pos, _⟩, _, hk, ?_, ?_, H1⟩
  · rw [← hx1 ⟨ρ.pos, _⟩]
    exact valL_conc _ xs
  · have hle : Env.le ⟨fun _ => False, fun b o v => ρ.fz b o v ∨ (w.heap.size ≤ b ∨ sh ∧ ∃ o u, ρ.fz b o u) ∧ w'.cell? ⟨b, o, none⟩ = some v⟩ (lv ⟨ρ.pos, fun b o v => ρ.fz b o v ∨ (w.heap.size ≤ b ∨ sh ∧ ∃ o u, ρ.fz b o u) ∧ w'.cell? ⟨b, o, none⟩ = some v⟩ ob) := ⟨fun _ h => h.elim, fun _ _ _ h => h⟩
    exact resV_bnd fun x hx => SA.bnd_mono hle (hx2 _ (fun b o v hf hc => .inr ⟨hf, hc⟩) x hx)
end
theorem inlS_ok {P : Program} {gl : Globs} {sl : List (Nat × SSpec)} (hsl : ∀ p ∈ sl, FnOKs P gl p.1 p.2) {inner : Inl} (hin : InlOK P gl inner) : InlOK P gl (inlS sl inner) := by
  intro f args ob k h Z ρ tm a w hz H hargs
  unfold inlS at h
  split at h
  · exact hin f args ob k h hz H hargs
  rename_i s hs
  have hfn := getSS_ok hsl hs
  split at h
  · -- lent
    rename_i hsh
    obtain ⟨l, hl, e1, b1⟩ := lent_sound H hargs h
    split at hl
    case h_2 => exact hl.no
    rename_i ps rs hof
    obtain ⟨hp, hl⟩ := ands_iff.1 hl
    have hle : Env.le (lv ρ ob) ⟨fun _ => True, fun b o v => w.cell? ⟨b, o, none⟩ = some v⟩ := ⟨fun _ _ => trivial, fun b o v hv => (H.mem.frz b o v hv).1⟩
    have hgl : GlobsOK gl fun b o v => w.cell? ⟨b, o, none⟩ = some v := by
      rw [← hz]
      intro p hp
      obtain ⟨g1, g2⟩ := H.gl p hp
      exact ⟨fun k hk => SK.bnd_mono (n := ⟨fun _ => False, ρ.fz⟩) (m := ⟨fun _ => False, fun b o v => w.cell? ⟨b, o, none⟩ = some v⟩) ⟨fun _ x => x, hle.fz⟩ (g1 k hk), fun o v h => hle.fz _ _ _ (g2 o v h)⟩
    obtain ⟨r, hc⟩ := hfn l ps rs hof hp ⟨ρ.pos, fun b o v => w.cell? ⟨b, o, none⟩ = some v⟩ w (fun _ _ _ h => h) hgl b1
    have hpos : l.map (SA.conc ⟨ρ.pos, fun b o v => w.cell? ⟨b, o, none⟩ = some v⟩) = args.map (SA.conc ρ) := by
      rw [← e1]; exact List.map_congr_left fun x _ => conc_pos x
    rw [hpos] at r hc
    refine ⟨r, hc.mono ?_⟩
    rintro e w' ⟨vs, rfl, hvs, hbl⟩
    have hvs' : RS.isL w' (fun b => w.heap.size ≤ b ∨ (False ∧ ∃ o u, ρ.fz b o u)) rs vs := hvs.far fun b hb => by
      rcases hb with hb | ⟨hb, _⟩
      · exact .inl hb
      · rw [hsh] at hb; cases hb
    obtain ⟨ρ', sv, q1, q2, q3, q4⟩ := shared H hbl hl hvs'
    exact ⟨_, rfl, ρ', sv, ob, q1, q2, q3, q4.scrubbed⟩
  · split at h
    · -- nothing of one's own
      split at h
      case h_2 => exact h.no
      rename_i ps rs hof
      obtain ⟨hp, h⟩ := ands_iff.1 h
      obtain ⟨r, hc⟩ := hfn args ps rs hof hp ρ w (fun b o v hv => (H.mem.frz b o v hv).1) (hz ▸ H.gl) (fun x hx => SA.bnd_mono lv_all (hargs x hx))
      refine ⟨r, hc.mono ?_⟩
      rintro e w' ⟨vs, rfl, hvs, hbl⟩
      obtain ⟨ρ', sv, q1, q2, q3, q4⟩ := shared H hbl h hvs
      exact ⟨_, rfl, ρ', sv, ob, q1, q2, q3, q4.scrubbed⟩
    · rename_i pre o off len cap post hfz
      split at h
      case h_2 => exact h.no
      rename_i e' ks sp hob
      split at h
      case h_2 => exact h.no
      rename_i cs hcs
      split at h
      case h_2 => exact h.no
      rename_i kd hkd
      split at h
      case h_2 => exact h.no
      rename_i hkb
      simp only [Bool.and_eq_true] at hkb
      obtain ⟨⟨hlc, _⟩, h⟩ := ands_iff.1 h
      have hys := frzOf_spec hfz
      obtain ⟨_, ⟨rest, _, hrow⟩, _⟩ := H.mem.obj o e' ks sp hob
      have hgb : w.grownBy w (some (ρ o)) := ⟨rfl, rfl, rfl, Nat.le_refl _, fun _ _ _ => rfl⟩
      have H1 := (H.killed hob rfl hgb hkb.2).frozen (fun bl c v => bl = ρ o ∧ (concs ρ ks ++ rest)[c]? = some v) (fun bl c v hF => by
        obtain ⟨rfl, hv⟩ := hF
        refine ⟨by simp only [World.cell?, hrow]; simpa using hv, fun i hi => ?_⟩
        obtain ⟨q1, q2⟩ := live_dead.1 hi
        exact fun e => q2 (H.mem.injs _ _ q1 (live_cells hob) e)) (fun bl c v hF => by rw [hF.1]; exact .inr (H.mem.objs _ _ hob rfl).1)
      have h := h ⟨ρ o, off, none⟩
      split at h
      case h_2 => exact h.no
      rename_i ps rs hof
      obtain ⟨hp, h⟩ := ands_iff.1 h
      have hle : Env.le (lv ρ ob) ⟨fun _ => True, fun bl c v => ρ.fz bl c v ∨ (bl = ρ o ∧ (concs ρ ks ++ rest)[c]? = some v)⟩ := ⟨fun _ _ => trivial, fun _ _ _ x => .inl x⟩
      have hxs : (xsI (some ⟨ρ o, off, none⟩) len cap kd (selG cs)).bnd ⟨fun _ => True, fun bl c v => ρ.fz bl c v ∨ (bl = ρ o ∧ (concs ρ ks ++ rest)[c]? = some v)⟩ := by
        refine ⟨fun e => (by cases e), hlc, fun bb hb => ?_⟩
        simp only [Option.some.injEq] at hb
        subst hb
        refine ⟨rfl, fun i hi c hc => ⟨trivial, rfl, .inr ⟨rfl, ?_⟩⟩⟩
        have hc0 : c = 0 := by omega
        subst hc0
        obtain ⟨l1, l2⟩ := concs_sub hcs ρ
        have hlen : (flat cs).length = len := by
          obtain ⟨a, b⟩ := sub_flat hcs
          rw [b]; simp; omega
        have := selG_conc hkb.1 ρ (j := i) (by omega)
        rw [l2, List.getElem?_take, if_pos hi, List.getElem?_drop] at this
        rw [Nat.mul_one, Nat.add_zero, List.getElem?_append_left (List.getElem?_eq_some_iff.1 this).1]
        exact this
      have hall : ∀ x ∈ pre ++ xsI (some ⟨ρ o, off, none⟩) len cap kd (selG cs) :: post, x.bnd ⟨fun _ => True, fun bl c v => ρ.fz bl c v ∨ (bl = ρ o ∧ (concs ρ ks ++ rest)[c]? = some v)⟩ := by
        intro x hx
        have old : ∀ y ∈ args, y.bnd ⟨fun _ => True, fun bl c v => ρ.fz bl c v ∨ (bl = ρ o ∧ (concs ρ ks ++ rest)[c]? = some v)⟩ := fun y hy => SA.bnd_mono hle (hargs y hy)
        rw [hys] at old
        rcases List.mem_append.1 hx with hx | hx
        · exact old x (by simp [hx])
        · rcases List.mem_cons.1 hx with rfl | hx
          · exact hxs
          · exact old x (by simp [hx])
      have hconc : (pre ++ xsI (some ⟨ρ o, off, none⟩) len cap kd (selG cs) :: post).map (SA.conc ⟨ρ.pos, fun bl c v => ρ.fz bl c v ∨ (bl = ρ o ∧ (concs ρ ks ++ rest)[c]? = some v)⟩) = args.map (SA.conc ρ) := by
        rw [List.map_congr_left (fun x _ => conc_pos x), hys]
        simp only [List.map_append, List.map_cons]
        rfl
      obtain ⟨r, hc⟩ := hfn _ ps rs hof hp ⟨ρ.pos, fun bl c v => ρ.fz bl c v ∨ (bl = ρ o ∧ (concs ρ ks ++ rest)[c]? = some v)⟩ w (fun b c v hv => (H1.mem.frz b c v hv).1) (hz ▸ H1.gl) hall
      rw [hconc] at r hc
      refine ⟨r, hc.mono ?_⟩
      rintro e w' ⟨vs, rfl, hvs, hbl⟩
      obtain ⟨ρ', sv, q1, q2, q3, q4⟩ := shared H1 hbl h hvs
      exact ⟨_, rfl, ρ', sv, _, q1, q2, q3, q4⟩
section
variable {P : Program} {W0 : Base} {ρ : Rho} {tm : List SV} {ob : List SO} {a : Act} {w : World}
def inlX (P : Program) (cx : Cx) (sl : List (Nat × SSpec)) (dr : Drawn) (iv : List (Nat × Hint)) (N : Nat) : Nat → Inl
  | 0 => inlS sl noInl
  | d + 1 => inlS sl fun f args ob k =>
    match P.funcs[f]? with
    | some fn =>
      match fn.body, fn.name == "runtime.NumGoroutine" with
      | some c, false => sx P { cx with kn := ob.length } (inlX P cx sl dr iv N d) dr iv N ((f + 1) * 100000) ob.length c (slots0 args fn.ntmps) ob (ret P fn.results.toList k)
      | _, _ => StuckAt "no text"
    | none => StuckAt "no function"
theorem inlX_ok {cx : Cx} (hcx : CxOK P cx) {sl : List (Nat × SSpec)} (hsl : ∀ p ∈ sl, FnOKs P cx.gl p.1 p.2) {dr : Drawn} (hdr : DrawnOK P cx dr) (iv : List (Nat × Hint)) (N : Nat) : ∀ d, InlOK P cx.gl (inlX P cx sl dr iv N d)
  | 0 => inlS_ok hsl (noInl_ok P cx.gl)
  | d + 1 => by
    refine inlS_ok hsl ?_
    intro f args ob k h Z ρ tm a w hz H hargs
    split at h
    case h_2 => exact h.no
    rename_i fn hf
    split at h
    case h_2 => exact h.no
    rename_i c hb hn
    refine ⟨run_callFunc_enter hf (by rw [hb]; rfl) hn _ w, ?_⟩
    refine calls_of_sx (cx := { cx with kn := ob.length }) hcx (inlX_ok hcx hsl hdr iv N d) hdr iv N _ hf hb args ρ hargs w H.below H.mem (by rw [← hz]; exact H.gl) (Nat.le_refl _) H.keeps k (fun sv ob' ρ' v w' hk hr hbd hB hm hkp hfz hkk => ?_) h
    refine ⟨v, rfl, ρ', sv, ob', hk, hr, hbd, H.onto (fun i hi hi' => ?_) hfz.le hfz.own hB hm ⟨fun i hi => ?_, fun i hi => hkp.2.1 i (H.kept.2.1 i hi), Nat.le_trans H.kept.2.2 hkp.2.2⟩ hkk⟩
    · rcases hkp.1 i hi with ⟨_, e⟩ | e
      · exact e
      · obtain ⟨_, h', hh⟩ := hi'; rw [e] at h'; cases h'; cases hh
    · rcases H.kept.1 i hi with ⟨k1, k2⟩ | k1
      · rcases hkp.1 i k1 with ⟨q1, q2⟩ | q
        · exact .inl ⟨q1, Eq.trans q2 k2⟩
        · exact .inr q
      · exact .inr (hkp.2.1 i k1)
def isInt (k : IntKind) (n : Int) (s : SC) : Prop :=
  match asI (.sc s) with
  | some (k', m) => if k' = k then m = n else False
  | none => False
theorem isInt_sound {k : IntKind} {n : Int} {s : SC} (h : isInt k n s) (ρ : Rho) : s.conc ρ = .int k n := by
  unfold isInt at h
  split at h
  · rename_i k' m hm
    split at h
    · rename_i e
      subst e
      subst h
      exact asI_sound hm ρ
    · exact h.elim
  · exact h.elim
def okS (sh : Bool) (ob : List SO) (n wd : Nat) (g : Nat → Nat → SC) : SC → Prop
  | .val (.slice none 0 0) => n = 0
  | .slw o w off len cap => match ob[o]? with
    | some (.row _ w' m h _) => match Nat.beq w wd && Nat.beq w' wd with
      | true => ands [off + len ≤ m, len = n, len ≤ cap] (∀ i, i < n → allC wd fun c => simC (h (off + i) c) (g i c))
      | false => StuckAt "row"
    | _ => StuckAt "row"
  | .xs _ len _ w h => match sh, Nat.beq w wd with
    | true, true => ands [len = n] (∀ i, i < n → allC wd fun c => simC (h i c) (g i c))
    | _, _ => StuckAt "shared"
  | _ => StuckAt "result"
def okK (sh : Bool) (ob : List SO) : List RK → List SK → Prop
  | [], [] => True
  | .k x :: r, y :: r' => match grab (y :: r') x.cells.length, seek (y :: r') x.cells.length with
    | some a, some b => ands [sameK a [x]] (okK sh ob r b)
    | _, _ => StuckAt "parts"
  | .s n wd g :: r, .c y :: r' => okS sh ob n wd g y ∧ okK sh ob r r'
  | _, _ => StuckAt "parts"
def okR (sh : Bool) (ob : List SO) : RS → SA → Prop
  | .v y, x => sameA x y
  | .s n k g, .sc x => match x with
    | .val (.slice none 0 0) => n = 0
    | .slw o w off len cap => match ob[o]? with
      | some (.row _ w' m h _) => match Nat.beq w 1 && Nat.beq w' 1 with
        | true => ands [off + len ≤ m, len = n, len ≤ cap] (∀ i, i < n → isInt k (g i) (h (off + i) 0))
        | false => StuckAt "row"
      | _ => StuckAt "row"
    | .sl o off len cap => match ob[o]? with
      | some (.cells _ ks _) => match sub ks off len with
        | some cs => match kindAll k cs with
          | true => ands [len = n, len ≤ cap] (∀ i, i < n → selG cs i = g i)
          | false => StuckAt "cells"
        | none => StuckAt "cells"
      | _ => StuckAt "cells"
    | .xs _ len _ w h => match sh, Nat.beq w 1 with
      | true, true => ands [len = n] (∀ i, i < n → isInt k (g i) (h i 0))
      | _, _ => StuckAt "shared"
    | _ => StuckAt "result"
  | .rows n wd g, .sc x => okS sh ob n wd g x
  | .st ks, .agg l => okK sh ob ks l
  | _, _ => StuckAt "result"
def okRL (sh : Bool) (ob : List SO) : List RS → List SA → Prop
  | [], [] => True
  | [r], [x] => okR sh ob r x
  | r :: rs, x :: xs => okR sh ob r x ∧ okRL sh ob rs xs
  | _, _ => False
def okRS (sh : Bool) (rs : List RS) (sv : SV) (ob : List SO) : Prop :=
  match sv with
  | .one x => okRL sh ob rs [x]
  | .tup [_] => False
  | .tup xs => okRL sh ob rs xs
  | _ => False
def closedG (n wd : Nat) (g : Nat → Nat → SC) : Prop := ∀ i, i < n → ∀ c, c < wd → (g i c).bnd none0 ∧ (g i c).fit = true
def RK.closed : RK → Prop
  | .k x => x.bnd none0
  | .s n wd g => closedG n wd g
def RS.closed : RS → Prop
  | .v x => x.bnd none0
  | .s _ _ _ => True
  | .rows n wd g => closedG n wd g
  | .st ks => ∀ k ∈ ks, k.closed
theorem okS_sound {B : Nat} {F : Nat → Nat → Value → Prop} {ob : List SO} (hm : Mem B ρ ob w) (hf : ∀ b o v, ρ.fz b o v → (∃ o u, F b o u) ∨ B ≤ b) {sh : Bool} {n wd : Nat} {g : Nat → Nat → SC} {x : SC} (hr : closedG n wd g) (hx : x.bnd (lv ρ ob)) (h : okS sh ob n wd g x) :
    isSl w (fun b => B ≤ b ∨ (sh = true ∧ ∃ o u, F b o u)) n wd g (x.conc ρ) := by
  unfold okS at h
  split at h
  · subst h
    exact ⟨none, 0, rfl, fun _ => ⟨rfl, rfl⟩, Nat.le_refl _, fun b hb => by cases hb⟩
  · rename_i o w1 off len cap
    split at h
    case h_2 => exact h.no
    rename_i e' w2 m g' sp hob
    split at h
    case h_2 => exact h.no
    rename_i hw
    simp only [Bool.and_eq_true] at hw
    have hw1 := Nat.eq_of_beq_eq_true hw.1
    have hw2 := Nat.eq_of_beq_eq_true hw.2
    subst hw1
    subst hw2
    obtain ⟨⟨hol, hln, hlc, _⟩, h⟩ := ands_iff.1 h
    subst hln
    obtain ⟨hB, ⟨rest, _, hrow⟩, _⟩ := hm.rows hob
    refine ⟨some ⟨ρ o, off * w2, none⟩, cap, rfl, fun e => (by cases e), hlc, fun b hb => ?_⟩
    simp only [Option.some.injEq] at hb
    subst hb
    refine ⟨rfl, fun i hi c hc => ⟨hr i hi c hc, .inl hB, ?_⟩⟩
    have hg := rowc_get (w := w2) (n := m) (g := g') (i := off + i) (c := c) (by omega) hc
    have hlt : (off + i) * w2 + c < m * w2 := by
      have : (off + i + 1) * w2 ≤ m * w2 := Nat.mul_le_mul_right _ (by omega)
      rw [Nat.add_mul, Nat.one_mul] at this
      omega
    simp only [World.cell?, hrow]
    rw [show off * w2 + (i * w2 + c) = (off + i) * w2 + c by rw [Nat.add_mul]; omega, List.getElem?_toArray, List.getElem?_append_left (by rw [rowc_length]; exact hlt), ← simC_sound Rho.nil (allC_at (h i hi) c hc)]
    exact hg
  · rename_i ad len cap w1 h'
    split at h
    case h_2 => exact h.no
    rename_i hs hw
    have hw1 := Nat.eq_of_beq_eq_true hw
    subst hw1
    obtain ⟨⟨hln, _⟩, h⟩ := ands_iff.1 h
    subst hln
    obtain ⟨b1, b2, b3⟩ := hx
    refine ⟨ad, cap, rfl, b1, b2, fun b hb => ⟨(b3 b hb).1, fun i hi c hc => ?_⟩⟩
    obtain ⟨_, _, q⟩ := (b3 b hb).2 i hi c hc
    rw [simC_sound Rho.nil (allC_at (h i hi) c hc)] at q
    refine ⟨hr i hi c hc, ?_, (hm.frz _ _ _ q).1⟩
    rcases hf _ _ _ q with k | k
    · exact .inr ⟨rfl, k⟩
    · exact .inl k
  · exact h.no
theorem okK_sound {B : Nat} {F : Nat → Nat → Value → Prop} {ob : List SO} (hm : Mem B ρ ob w) (hf : ∀ b o v, ρ.fz b o v → (∃ o u, F b o u) ∨ B ≤ b) {sh : Bool} : ∀ {ks : List RK} {l : List SK}, (∀ k ∈ ks, k.closed) → (∀ x ∈ l, x.bnd (lv ρ ob)) → okK sh ob ks l →
    isG w (fun b => B ≤ b ∨ (sh = true ∧ ∃ o u, F b o u)) ks (concs ρ l)
  | [], [], _, _, _ => rfl
  | .k x :: r, y :: r', hk, hl, h => by
    unfold okK at h
    split at h
    case h_2 => exact h.no
    rename_i a b ha hb'
    obtain ⟨⟨h1, _⟩, h2⟩ := ands_iff.1 h
    have hb : x.bnd none0 := hk (.k x) (by simp)
    have hcat : concs ρ (y :: r') = concs ρ a ++ concs ρ b := by
      have e1 := (grab_flat _ _ ha).2
      have e2 := (seek_flat _ _ hb').2
      unfold concs
      rw [← List.map_append, e1, e2, List.take_append_drop]
    refine ⟨concs ρ b, ?_, hb, okK_sound hm hf (fun k h => hk k (by simp [h])) (bnd_flat.2 (mem_seek hb' (bnd_flat.1 hl))) h2⟩
    rw [hcat, sameK_sound ρ _ _ h1, Agree.sks (n := none0) (ρ := Rho.nil) (ρ' := ρ) (fun _ hi => hi.elim) (fun c hc => by rw [List.mem_singleton.1 hc]; exact hb)]
  | .s n wd g :: r, .c y :: r', hk, hl, h =>
    ⟨y.conc ρ, concs ρ r', by rw [concs_cons ρ _ r']; rfl, okS_sound hm hf (hk (.s n wd g) (by simp)) (hl (.c y) (by simp)) h.1, okK_sound hm hf (fun k h => hk k (by simp [h])) (fun x h => hl x (by simp [h])) h.2⟩
  | [], _ :: _, _, _, h | .k _ :: _, [], _, _, h | .s _ _ _ :: _, [], _, _, h | .s _ _ _ :: _, .u _ :: _, _, _, h | .s _ _ _ :: _, .f _ _ _ :: _, _, _, h => by unfold okK at h; exact h.no
theorem okR_sound {B : Nat} {F : Nat → Nat → Value → Prop} {ob : List SO} (hm : Mem B ρ ob w) (hf : ∀ b o v, ρ.fz b o v → (∃ o u, F b o u) ∨ B ≤ b) {sh : Bool} {r : RS} {x : SA} (hr : r.closed) (hx : x.bnd (lv ρ ob)) (h : okR sh ob r x) : r.is w (fun b => B ≤ b ∨ (sh = true ∧ ∃ o u, F b o u)) (x.conc ρ) := by
  cases r with
  | rows n wd g =>
    cases x with
    | sc x => exact okS_sound hm hf hr hx h
    | agg l => unfold okR at h; exact h.no
  | st ks =>
    cases x with
    | sc x => unfold okR at h; exact h.no
    | agg l => exact ⟨concs ρ l, rfl, okK_sound hm hf hr hx h⟩
  | v y => exact ⟨by rw [sameA_sound ρ h]; exact (Agree.sa (n := none0) (ρ := ρ) (ρ' := Rho.nil) (fun _ hi => hi.elim) hr).symm, hr⟩
  | s n k g =>
    unfold okR at h
    split at h
    · rename_i h1; cases h1
    · rename_i n' k' g' x heq
      simp only [RS.s.injEq] at heq
      obtain ⟨rfl, rfl, rfl⟩ := heq
      split at h
      · subst h
        exact ⟨none, 0, rfl, fun _ => ⟨rfl, rfl⟩, Nat.le_refl _, fun b hb => by cases hb⟩
      · rename_i o w1 off len cap
        split at h
        case h_2 => exact h.no
        rename_i e' w2 m g' sp hob
        split at h
        case h_2 => exact h.no
        rename_i hw
        simp only [Bool.and_eq_true] at hw
        have hw1 := Nat.eq_of_beq_eq_true hw.1
        have hw2 := Nat.eq_of_beq_eq_true hw.2
        subst hw1
        subst hw2
        obtain ⟨⟨hol, hln, hlc, _⟩, h⟩ := ands_iff.1 h
        subst hln
        obtain ⟨hB, ⟨rest, _, hrow⟩, hok⟩ := hm.rows hob
        refine ⟨some ⟨ρ o, off, none⟩, cap, by simp only [SA.conc, SC.conc, Nat.mul_one], fun e => (by cases e), hlc, fun b hb => ?_⟩
        simp only [Option.some.injEq] at hb
        subst hb
        refine ⟨rfl, fun i hi => ⟨.inl hB, ?_⟩⟩
        have hg := rowc_get (w := 1) (n := m) (g := g') (i := off + i) (c := 0) (by omega) (by omega)
        simp only [World.cell?, hrow]
        rw [List.getElem?_toArray, List.getElem?_append_left (by rw [rowc_length]; omega), show off + i = (off + i) * 1 + 0 by omega, hg, isInt_sound (h i hi)]
        rfl
      · rename_i o off len cap
        split at h
        case h_2 => exact h.no
        rename_i e' ks sp hob
        split at h
        case h_2 => exact h.no
        rename_i cs hcs
        split at h
        case h_2 => exact h.no
        rename_i hka
        obtain ⟨⟨hln, hlc, _⟩, h⟩ := ands_iff.1 h
        subst hln
        obtain ⟨hB, ⟨rest, _, hrow⟩, _⟩ := hm.obj o e' ks sp hob
        refine ⟨some ⟨ρ o, off, none⟩, cap, rfl, fun e => (by cases e), hlc, fun b hb => ?_⟩
        simp only [Option.some.injEq] at hb
        subst hb
        refine ⟨rfl, fun i hi => ⟨.inl hB, ?_⟩⟩
        obtain ⟨l1, l2⟩ := concs_sub hcs ρ
        have hlen : (flat cs).length = len := by
          obtain ⟨a, b⟩ := sub_flat hcs
          rw [b]; simp; omega
        have := selG_conc hka ρ (j := i) (by omega)
        rw [l2, List.getElem?_take, if_pos hi, List.getElem?_drop, h i hi] at this
        simp only [World.cell?, hrow]
        rw [List.getElem?_toArray, List.getElem?_append_left (List.getElem?_eq_some_iff.1 this).1]
        exact this
      · rename_i ad len cap w1 h'
        split at h
        case h_2 => exact h.no
        rename_i hs hw
        have hw1 := Nat.eq_of_beq_eq_true hw
        subst hw1
        obtain ⟨⟨hln, _⟩, h⟩ := ands_iff.1 h
        subst hln
        obtain ⟨b1, b2, b3⟩ := hx
        refine ⟨ad, cap, rfl, b1, b2, fun b hb => ⟨(b3 b hb).1, fun i hi => ?_⟩⟩
        obtain ⟨_, _, q⟩ := (b3 b hb).2 i hi 0 (by omega)
        rw [isInt_sound (h i hi), Nat.mul_one, Nat.add_zero] at q
        refine ⟨?_, (hm.frz _ _ _ q).1⟩
        rcases hf _ _ _ q with k | k
        · exact .inr ⟨rfl, k⟩
        · exact .inl k
      · exact h.no
    · rename_i h1; cases h1
    · rename_i h1; cases h1
    · exact h.no
theorem okRL_sound {B : Nat} {F : Nat → Nat → Value → Prop} {ob : List SO} (hm : Mem B ρ ob w) (hf : ∀ b o v, ρ.fz b o v → (∃ o u, F b o u) ∨ B ≤ b) {sh : Bool} : ∀ {rs : List RS} {xs : List SA}, (∀ r ∈ rs, r.closed) → (∀ x ∈ xs, x.bnd (lv ρ ob)) → okRL sh ob rs xs → RS.isL w (fun b => B ≤ b ∨ (sh = true ∧ ∃ o u, F b o u)) rs (xs.map (SA.conc ρ))
  | [], [], _, _, _ => trivial
  | [r], [x], hr, hx, h => ⟨okR_sound hm hf (hr r (by simp)) (hx x (by simp)) h, trivial⟩
  | r :: r2 :: rs, x :: xs, hr, hx, h => ⟨okR_sound hm hf (hr r (by simp)) (hx x (by simp)) h.1, okRL_sound hm hf (fun y hy => hr y (by simp [hy])) (fun y hy => hx y (by simp [hy])) h.2⟩
  | [r], x :: y :: xs, hr, hx, h => ⟨okR_sound hm hf (hr r (by simp)) (hx x (by simp)) h.1, by exact h.2.elim⟩
  | [], _ :: _, _, _, h => by exact h.elim
  | [_], [], _, _, h => by exact h.elim
  | _ :: _ :: _, [], _, _, h => by exact h.elim
def OwesS (P : Program) (cx : Cx) (sl : List (Nat × SSpec)) (iv : List (Nat × Hint)) (N : Nat) (fn : Func) (args : List SA) (post : SV → List SO → Prop) : Prop :=
  sx P cx (inlX P cx sl drawOK iv N 8) drawOK iv N 0 0 (fn.body.getD .skip) (slots0 args fn.ntmps) [] (ret P fn.results.toList post)
def OwesV (P : Program) (cx : Cx) (sl : List (Nat × SSpec)) (iv : List (Nat × Hint)) (N : Nat) (fn : Func) (args : List SA) (out : SV) : Prop :=
  OwesS P cx sl iv N fn args fun sv _ => same sv out
def OwesR (P : Program) (cx : Cx) (sl : List (Nat × SSpec)) (iv : List (Nat × Hint)) (N : Nat) (fn : Func) (args : List SA) (sh : Bool) (rs : List RS) : Prop :=
  OwesS P cx sl iv N fn args (okRS sh rs)
theorem calls_of_owesS {cx : Cx} (hcx : CxOK P cx) {sl : List (Nat × SSpec)} (hsl : ∀ p ∈ sl, FnOKs P cx.gl p.1 p.2) {iv : List (Nat × Hint)} {N : Nat} {f : FuncId} {fn : Func} (hf : P.funcs[f]? = some fn) (hb : fn.body.isSome = true) {args : List SA} {post : SV → List SO → Prop}
    (h : OwesS P cx sl iv N fn args post) (ρ : Rho) (w : World) (hz : FzOK ρ.fz w) (hg : GlobsOK cx.gl ρ.fz) (hargs : ∀ x ∈ args, x.bnd ⟨fun _ => False, ρ.fz⟩) :
    Calls P f (args.map (SA.conc ρ)).toArray w fun e w' => ∃ v, e = .returned v ∧ Below w.heap.size w w' ∧ ∃ sv ob' ρ', post sv ob' ∧ sv.rep ρ' v ∧ sv.bnd (lv ρ' ob') ∧ Mem w.heap.size ρ' ob' w' ∧ FzLe ⟨w, [], ρ, cx.gl, noKeep⟩ ρ' := by
  obtain ⟨c, hc⟩ := Option.isSome_iff_exists.1 hb
  unfold OwesS at h
  rw [hc] at h
  exact calls_of_sx hcx (inlX_ok hcx hsl (drawOK_ok hcx) iv N 8) (drawOK_ok hcx) iv N 0 hf hc (Z := w) (ob := []) args ρ (fun x hx => SA.bnd_mono (n := ⟨fun _ => False, ρ.fz⟩) (m := lv ρ []) ⟨fun _ k => k.elim, fun _ _ _ k => k⟩ (hargs x hx)) w (Below.refl _ _) (Mem.start hz) hg (Nat.zero_le _) (Keeps.none _ _ _) _
    (fun sv ob' ρ' v w' hp hr hbd hb hm _ hfz _ => ⟨v, rfl, hb, sv, ob', ρ', hp, hr, hbd, hm, hfz⟩) h
theorem FnOK_owesV {cx : Cx} (hcx : CxOK P cx) {sl : List (Nat × SSpec)} (hsl : ∀ p ∈ sl, FnOKs P cx.gl p.1 p.2) {f : Nat} {fn : Func} (hf : P.funcs[f]? = some fn) (hb : fn.body.isSome = true) (hn : (fn.name == "runtime.NumGoroutine") = false) {s : FSpec}
    (h : ∀ args ps sv, s args = some (ps, sv) → Ok ps → ∃ iv N args', (∀ ρ, args.map (SA.conc ρ) = args'.map (SA.conc ρ)) ∧ (∀ fz, (∀ x ∈ args, x.bnd ⟨fun _ => True, fz⟩) → ∀ x ∈ args', x.bnd ⟨fun _ => False, fz⟩) ∧ sv.bnd none0 ∧ OwesV P cx sl iv N fn args' sv) : FnOKg P cx.gl f s :=
  FnOK_of hf hb hn fun args ps sv hs hp => by
    obtain ⟨iv, N, args', h1, h2, h3, h4⟩ := h args ps sv hs hp
    refine ⟨h3, fun ρ w hz hg ha => ?_⟩
    rw [h1]
    refine (calls_of_owesS hcx hsl hf hb h4 ρ w hz hg (h2 _ ha)).mono ?_
    rintro e w' ⟨v, rfl, hbl, sv', ob', ρ', hp', hr, _⟩
    exact ⟨v, rfl, rep_none0 h3 (same_sound hp' ρ' v hr), hbl⟩
theorem FnOKs_owes {cx : Cx} (hcx : CxOK P cx) {sl : List (Nat × SSpec)} (hsl : ∀ p ∈ sl, FnOKs P cx.gl p.1 p.2) {f : Nat} {fn : Func} (hf : P.funcs[f]? = some fn) (hb : fn.body.isSome = true) (hn : (fn.name == "runtime.NumGoroutine") = false) {s : SSpec}
    (h : ∀ args ps rs, s.of args = some (ps, rs) → Ok ps → ∃ iv N args', (∀ ρ, args.map (SA.conc ρ) = args'.map (SA.conc ρ)) ∧ (∀ fz, (∀ x ∈ args, x.bnd ⟨fun _ => True, fz⟩) → ∀ x ∈ args', x.bnd ⟨fun _ => False, fz⟩) ∧ (∀ r ∈ rs, r.closed) ∧ OwesR P cx sl iv N fn args' s.share rs) : FnOKs P cx.gl f s := by
  intro args ps rs hs hp ρ w hz hg ha
  refine ⟨run_callFunc_enter hf hb hn _ w, ?_⟩
  obtain ⟨iv, N, args', h1, h2, h3, h4⟩ := h args ps rs hs hp
  rw [h1]
  refine (calls_of_owesS hcx hsl hf hb h4 ρ w hz hg (h2 _ ha)).mono ?_
  rintro e w' ⟨v, rfl, hbl, sv, ob', ρ', hp', hr, hbd, hm, hfz⟩
  have key : ∀ xs : List SA, (∀ x ∈ xs, x.bnd (lv ρ' ob')) → okRL s.share ob' rs xs → RS.isL w' (fun b => w.heap.size ≤ b ∨ (s.share = true ∧ ∃ o u, ρ.fz b o u)) rs (xs.map (SA.conc ρ')) := fun xs hx hk => okRL_sound (F := ρ.fz) hm hfz.own h3 hx hk
  unfold okRS at hp'
  split at hp'
  · rename_i x
    exact ⟨_, by rw [hr]; rfl, key [x] (fun y hy => by simp only [List.mem_singleton] at hy; subst hy; exact hbd) hp', hbl⟩
  · exact hp'.elim
  · rename_i xs hne
    refine ⟨xs.map (SA.conc ρ'), ?_, key xs hbd hp', hbl⟩
    rw [hr]
    match xs, hne with
    | [], _ => rfl
    | [x], hne => exact absurd rfl (hne x)
    | x :: y :: r, _ => rfl
  · exact hp'.elim
end
attribute [irreducible] OwesS OwesV OwesR
end Go.Sx
end

section
namespace Go.Sx
open Go.RowKit
def inlW (wl : List (Nat × WSpec)) (inner : Inl) : Inl := fun f args ob k =>
  match getW wl f with
  | none => inner f args ob k
  | some s => match wdo s args ob with
    | some (ps, sv, o, _, m) => ands ps (k sv (ob.set o (noteO s.e s.k m)))
    | none => StuckAt "cell"
theorem inlW_ok {P : Program} {gl : Globs} {wl : List (Nat × WSpec)} (hwl : ∀ p ∈ wl, FnOKw P gl p.1 p.2) {inner : Inl} (hin : InlOK P gl inner) : InlOK P gl (inlW wl inner) := by
  intro f args ob k h Z ρ tm a w hz H hargs
  unfold inlW at h
  split at h
  · exact hin f args ob k h hz H hargs
  rename_i s hs
  split at h
  case h_2 => exact h.no
  rename_i ps sv o n m hd
  obtain ⟨hp, h⟩ := ands_iff.1 h
  obtain ⟨r, hc⟩ := wdo_sound H (hz ▸ getW_ok hwl hs) hargs hd hp
  refine ⟨r, hc.mono ?_⟩
  rintro e w' ⟨v, rfl, hv, hb, H'⟩
  exact ⟨v, rfl, ρ, sv, _, h, hv, SV.bnd_mono none0_le hb, H'.scrubbed⟩
section
variable {P : Program}
def inlY (P : Program) (cx : Cx) (sl : List (Nat × SSpec)) (dr : Drawn) (iv : List (Nat × Hint)) (N : Nat) : Nat → Inl
  | 0 => inlW cx.wf (inlS sl noInl)
  | d + 1 => inlW cx.wf (inlS sl fun f args ob k =>
    match P.funcs[f]? with
    | some fn =>
      match fn.body, fn.name == "runtime.NumGoroutine" with
      | some c, false => sx P { cx with kn := ob.length } (inlY P cx sl dr iv N d) dr iv N ((f + 1) * 100000) ob.length c (slots0 args fn.ntmps) ob (ret P fn.results.toList k)
      | _, _ => StuckAt "no text"
    | none => StuckAt "no function")
theorem inlY_ok {cx : Cx} (hcx : CxOK P cx) {sl : List (Nat × SSpec)} (hsl : ∀ p ∈ sl, FnOKs P cx.gl p.1 p.2) {dr : Drawn} (hdr : DrawnOK P cx dr) (iv : List (Nat × Hint)) (N : Nat) : ∀ d, InlOK P cx.gl (inlY P cx sl dr iv N d)
  | 0 => inlW_ok hcx.2 (inlS_ok hsl (noInl_ok P cx.gl))
  | d + 1 => by
    refine inlW_ok hcx.2 (inlS_ok hsl ?_)
    intro f args ob k h Z ρ tm a w hz H hargs
    split at h
    case h_2 => exact h.no
    rename_i fn hf
    split at h
    case h_2 => exact h.no
    rename_i c hb hn
    refine ⟨run_callFunc_enter hf (by rw [hb]; rfl) hn _ w, ?_⟩
    refine calls_of_sx (cx := { cx with kn := ob.length }) hcx (inlY_ok hcx hsl hdr iv N d) hdr iv N _ hf hb args ρ hargs w H.below H.mem (by rw [← hz]; exact H.gl) (Nat.le_refl _) H.keeps k (fun sv ob' ρ' v w' hk hr hbd hB hm hkp hfz hkk => ?_) h
    refine ⟨v, rfl, ρ', sv, ob', hk, hr, hbd, H.onto (fun i hi hi' => ?_) hfz.le hfz.own hB hm ⟨fun i hi => ?_, fun i hi => hkp.2.1 i (H.kept.2.1 i hi), Nat.le_trans H.kept.2.2 hkp.2.2⟩ hkk⟩
    · rcases hkp.1 i hi with ⟨_, e⟩ | e
      · exact e
      · obtain ⟨_, h', hh⟩ := hi'; rw [e] at h'; cases h'; cases hh
    · rcases H.kept.1 i hi with ⟨k1, k2⟩ | k1
      · rcases hkp.1 i k1 with ⟨q1, q2⟩ | q
        · exact .inl ⟨q1, Eq.trans q2 k2⟩
        · exact .inr q
      · exact .inr (hkp.2.1 i k1)
def noteIs (ob : List SO) (e : TypeId) (k : IntKind) (m : Int) : Prop :=
  match ob with
  | .cells e' [.c x] 0 :: _ => match Nat.beq e' e with
    | true => isInt k m x
    | false => False
  | _ => False
def OwesW (P : Program) (cx : Cx) (sl : List (Nat × SSpec)) (iv : List (Nat × Hint)) (N : Nat) (fn : Func) (args : List SA) (e : TypeId) (k : IntKind) (n : Int) (out : SV) (m : Int) : Prop :=
  sx P { cx with kn := 1 } (inlY P cx sl drawOK iv N 8) drawOK iv N 0 1 (fn.body.getD .skip) (slots0 args fn.ntmps) [noteO e k n] (ret P fn.results.toList fun sv ob => same sv out ∧ noteIs ob e k m)
def OwesU (P : Program) (cx : Cx) (sl : List (Nat × SSpec)) (iv : List (Nat × Hint)) (N : Nat) (fn : Func) (args : List SA) (out : SV) : Prop :=
  sx P { cx with kn := 0 } (inlY P cx sl drawOK iv N 8) drawOK iv N 0 0 (fn.body.getD .skip) (slots0 args fn.ntmps) [] (ret P fn.results.toList fun sv _ => same sv out)
theorem calls_of_owesU {cx : Cx} (hcx : CxOK P cx) {sl : List (Nat × SSpec)} (hsl : ∀ p ∈ sl, FnOKs P cx.gl p.1 p.2) {iv : List (Nat × Hint)} {N : Nat} {f : FuncId} {fn : Func} (hf : P.funcs[f]? = some fn) (hb : fn.body.isSome = true) {args : List SA} {out : SV}
    (h : OwesU P cx sl iv N fn args out) (ρ : Rho) (w : World) (hz : FzOK ρ.fz w) (hg : GlobsOK cx.gl ρ.fz) (hargs : ∀ x ∈ args, x.bnd ⟨fun _ => False, ρ.fz⟩) :
    Calls P f (args.map (SA.conc ρ)).toArray w fun e w' => ∃ v, e = .returned v ∧ (∃ ρ', out.rep ρ' v) ∧ Below w.heap.size w w' := by
  obtain ⟨c, hc⟩ := Option.isSome_iff_exists.1 hb
  unfold OwesU at h
  rw [hc] at h
  exact calls_of_sx (cx := { cx with kn := 0 }) hcx (inlY_ok hcx hsl (drawOK_ok hcx) iv N 8) (drawOK_ok hcx) iv N 0 hf hc (Z := w) (ob := []) args ρ (fun x hx => SA.bnd_mono (n := ⟨fun _ => False, ρ.fz⟩) (m := lv ρ []) ⟨fun _ k => k.elim, fun _ _ _ k => k⟩ (hargs x hx)) w (Below.refl _ _) (Mem.start hz) hg (Nat.zero_le _) (Keeps.none _ _ _) _
    (fun sv ob' ρ' v w' hp hr hbd hb hm _ hfz _ => ⟨v, rfl, ⟨ρ', same_sound hp ρ' v hr⟩, hb⟩) h
theorem FnOKw_owes {cx : Cx} (hcx : CxOK P cx) {sl : List (Nat × SSpec)} (hsl : ∀ p ∈ sl, FnOKs P cx.gl p.1 p.2) {f : Nat} {fn : Func} (hf : P.funcs[f]? = some fn) (hb : fn.body.isSome = true) (hn : (fn.name == "runtime.NumGoroutine") = false) {s : WSpec}
    (h : ∀ args n ps sv m, s.of args n = some (ps, sv, m) → Ok ps → ∃ iv N args', (∀ ρ, args.map (SA.conc ρ) = args'.map (SA.conc ρ)) ∧ (∀ E : Env, E.lv 0 → (∀ x ∈ args, x.bnd E) → ∀ x ∈ args', x.bnd E) ∧ sv.bnd none0 ∧ OwesW P cx sl iv N fn args' s.e s.k n sv m) : FnOKw P cx.gl f s := by
  intro args n ps sv m hs hp
  obtain ⟨iv, N, args', h1, h2, h3, h4⟩ := h args n ps sv m hs hp
  refine ⟨h3, fun Z ρ w hB hm hg ha keep hkeep => ⟨run_callFunc_enter hf hb hn _ w, ?_⟩⟩
  rw [h1]
  obtain ⟨c, hc⟩ := Option.isSome_iff_exists.1 hb
  unfold OwesW at h4
  rw [hc] at h4
  refine calls_of_sx (cx := { cx with kn := 1 }) hcx (inlY_ok hcx hsl (drawOK_ok hcx) iv N 8) (drawOK_ok hcx) iv N 0 hf hc (Z := Z) (ob := [noteO s.e s.k n]) args' ρ (h2 _ ⟨_, rfl, rfl⟩ ha) w hB hm hg (Nat.le_refl _) hkeep _ (fun sv' ob' ρ' v w' hq hr hbd hB' hm' hkp hfz hkk => ?_) h4
  obtain ⟨q1, q2⟩ := hq
  unfold noteIs at q2
  split at q2
  case h_2 => exact q2.elim
  rename_i e' x r
  split at q2
  case h_2 => exact q2.elim
  rename_i he
  have he := Nat.eq_of_beq_eq_true he
  subst he
  have hx := isInt_sound q2 ρ'
  have hl0 : live (SO.cells s.e [.c x] 0 :: r) 0 := ⟨_, rfl, rfl⟩
  refine ⟨v, ρ', rfl, rep_none0 h3 (same_sound q1 ρ' v hr), hB', ⟨fun i y hi hy => ?_, fun i j hi hj _ => ?_, fun b c v hv => ?_⟩, ?_, hfz.le, fun b y hy => ⟨(hkk b y hy).1, fun i hi => ?_⟩⟩
  · cases i with
    | succ i => simp at hi
    | zero =>
      simp only [List.getElem?_cons_zero, Option.some.injEq] at hi
      subst hi
      obtain ⟨p1, ⟨rest, p2, p3⟩, _⟩ := hm'.obj 0 s.e [.c x] 0 rfl
      refine ⟨p1, ⟨rest, p2, ?_⟩, fun k hk => ?_, fun k hk => ?_⟩
      · rw [p3]
        simp only [concs, flat, SK.cells, List.cons_append, List.nil_append, List.append_nil, List.map_cons, List.map_nil, hx, noteO, SO.vals, SO.elem]
        rfl
      · simp only [List.mem_singleton] at hk; subst hk; exact trivial
      · simp only [List.mem_singleton] at hk; subst hk; rfl
  · obtain ⟨y, hy, _⟩ := hi
    obtain ⟨z, hz', _⟩ := hj
    cases i with
    | succ i => simp at hy
    | zero => cases j with
      | succ j => simp at hz'
      | zero => rfl
  · obtain ⟨k1, k2⟩ := hm'.frz b c v hv
    refine ⟨k1, fun i hi => ?_⟩
    obtain ⟨y, hy, _⟩ := hi
    cases i with
    | succ i => simp at hy
    | zero => exact k2 0 hl0
  · rcases hkp.1 0 ⟨_, rfl, rfl⟩ with ⟨_, e⟩ | e
    · exact e
    · cases e
  · obtain ⟨z, hz', _⟩ := hi
    cases i with
    | succ i => simp at hz'
    | zero => exact (hkk b y hy).2 0 hl0
def asArgW : AP → SA → Option (List Prop × List At)
  | .hand, .agg ks => match takeU ks with
    | some (p, n, [.c (.ptr i off)]) => match Nat.beq i 0 && Nat.beq off 0 with
      | true => some (p, [.u n])
      | false => none
    | _ => none
  | .hand, _ => none
  | ap, x => asArg ap x
def mkArgW : AP → List At → SA
  | .hand, [.u n] => .agg [.u n, .c (.ptr 0 0)]
  | .hand, _ => .agg []
  | ap, l => mkArg ap l none
theorem asArgW_sound {ap : AP} {x : SA} {q : List Prop} {l : List At} (h : asArgW ap x = some (q, l)) (hq : Ok q) (ρ : Rho) : x.conc ρ = (mkArgW ap l).conc ρ := by
  unfold asArgW at h
  split at h
  · rename_i ks
    split at h
    · rename_i p n i off hu
      split at h
      · rename_i hs
        simp only [Bool.and_eq_true] at hs
        have h1 := Nat.eq_of_beq_eq_true hs.1
        have h2 := Nat.eq_of_beq_eq_true hs.2
        subst h1
        subst h2
        simp only [Option.some.injEq, Prod.mk.injEq] at h
        obtain ⟨rfl, rfl⟩ := h
        simp only [SA.conc, mkArgW, takeU_sound hu hq ρ]
      · cases h
    · cases h
  · cases h
  · rename_i hne
    cases ap with
    | hand =>
      cases x with
      | sc c => cases h
      | agg ks => exact (hne ks rfl rfl).elim
    | str ps =>
      unfold asArg at h
      cases x with
      | sc c => cases h
      | agg ks =>
        simp only [SA.conc, mkArgW, mkArg, asKs_sound ρ h hq]
    | int k =>
      simp only [asArg] at h
      split at h
      · rename_i k' n hi
        split at h
        · rename_i hk
          subst hk
          simp only [Option.some.injEq, Prod.mk.injEq] at h
          obtain ⟨rfl, rfl⟩ := h
          exact asI_canon hi ρ
        · cases h
      · cases h
    | bit =>
      unfold asArg at h
      cases x with
      | agg ks => cases h
      | sc c =>
        simp only at h
        split at h
        · rename_i b hb
          simp only [Option.some.injEq, Prod.mk.injEq] at h
          obtain ⟨rfl, rfl⟩ := h
          exact asBit_sound hb ρ
        · cases h
theorem mkArgW_bnd (ap : AP) (l : List At) {E : Env} (h : E.lv 0) : (mkArgW ap l).bnd E := by
  unfold mkArgW
  split
  · intro k hk
    simp only [List.mem_cons, List.not_mem_nil, or_false] at hk
    rcases hk with rfl | rfl
    · exact trivial
    · exact h
  · intro k hk
    simp at hk
  · exact SA.bnd_mono none0_le (mkArg_bnd _ _ _)
def asArgsW : List AP → List SA → Option (List Prop × List (List At))
  | [], [] => some ([], [])
  | ap :: sh, x :: r => match asArgW ap x with
    | some (p, l) => match asArgsW sh r with
      | some (q, ls) => some (p ++ q, l :: ls)
      | none => none
    | none => none
  | _, _ => none
def mkArgsW : List AP → List (List At) → List SA
  | ap :: sh, l :: ls => mkArgW ap l :: mkArgsW sh ls
  | _, _ => []
theorem asArgsW_sound (ρ : Rho) : ∀ {sh : List AP} {xs : List SA} {q : List Prop} {ls : List (List At)}, asArgsW sh xs = some (q, ls) → Ok q → xs.map (SA.conc ρ) = (mkArgsW sh ls).map (SA.conc ρ)
  | [], [], q, ls, h, _ => by simp only [asArgsW, Option.some.injEq, Prod.mk.injEq] at h; obtain ⟨_, rfl⟩ := h; rfl
  | [], _ :: _, q, ls, h, _ => by simp [asArgsW] at h
  | _ :: _, [], q, ls, h, _ => by simp [asArgsW] at h
  | ap :: sh, x :: r, q, ls, h, hq => by
    simp only [asArgsW] at h
    split at h
    · rename_i p l hx
      split at h
      · rename_i q' l' hr
        simp only [Option.some.injEq, Prod.mk.injEq] at h
        obtain ⟨rfl, rfl⟩ := h
        obtain ⟨h1, h2⟩ := Ok.append.1 hq
        simp only [mkArgsW, List.map_cons, asArgW_sound hx h1 ρ, asArgsW_sound ρ hr h2]
      · cases h
    · cases h
theorem mkArgsW_bnd {E : Env} (h : E.lv 0) : ∀ (sh : List AP) (ls : List (List At)), ∀ x ∈ mkArgsW sh ls, x.bnd E
  | [], _, x, hx => by simp [mkArgsW] at hx
  | _ :: _, [], x, hx => by simp [mkArgsW] at hx
  | ap :: sh, l :: ls, x, hx => by
    simp only [mkArgsW, List.mem_cons] at hx
    rcases hx with rfl | hx
    · exact mkArgW_bnd _ _ h
    · exact mkArgsW_bnd h sh ls x hx
def specWr (e : TypeId) (k : IntKind) (sh : List AP) (c : List (List At) → List Prop) (g : List (List At) → SV) (t : List (List At) → Int → Int) : WSpec where
  e := e
  k := k
  of := fun args n => match asArgsW sh args with
    | some (p, ls) => some (p ++ c ls, g ls, t ls n)
    | none => none
theorem FnOKw_A {cx : Cx} (hcx : CxOK P cx) {sl : List (Nat × SSpec)} (hsl : ∀ p ∈ sl, FnOKs P cx.gl p.1 p.2) {e : TypeId} {k : IntKind} {sh : List AP} {c : List (List At) → List Prop} {g : List (List At) → SV} {t : List (List At) → Int → Int} {iv : List (List At) → List (Nat × Hint)} {N : Nat} {f : Nat} {fn : Func} (hf : P.funcs[f]? = some fn) (hb : fn.body.isSome = true) (hn : (fn.name == "runtime.NumGoroutine") = false) (hg : ∀ ls, (g ls).bnd none0)
    (h : ∀ ls n, Ok (c ls) → OwesW P cx sl (iv ls) N fn (mkArgsW sh ls) e k n (g ls) (t ls n)) : FnOKw P cx.gl f (specWr e k sh c g t) := by
  refine FnOKw_owes hcx hsl hf hb hn fun args n ps sv m hs hp => ?_
  simp only [specWr] at hs
  split at hs
  · rename_i p ls ha
    simp only [Option.some.injEq, Prod.mk.injEq] at hs
    obtain ⟨rfl, rfl, rfl⟩ := hs
    obtain ⟨o1, o2⟩ := Ok.append.1 hp
    exact ⟨iv ls, N, mkArgsW sh ls, fun ρ => asArgsW_sound ρ ha o1, fun E hE _ => mkArgsW_bnd hE sh ls, hg ls, h ls n o2⟩
  · cases hs
def specWn (e : TypeId) (k : IntKind) (sh : List AP) (c : List (List At) → List Prop) (g : List (List At) → Int → SV) (t : List (List At) → Int → Int) : WSpec where
  e := e
  k := k
  of := fun args n => match asArgsW sh args with
    | some (p, ls) => some (p ++ c ls, g ls n, t ls n)
    | none => none
theorem FnOKw_N {cx : Cx} (hcx : CxOK P cx) {sl : List (Nat × SSpec)} (hsl : ∀ p ∈ sl, FnOKs P cx.gl p.1 p.2) {e : TypeId} {k : IntKind} {sh : List AP} {c : List (List At) → List Prop} {g : List (List At) → Int → SV} {t : List (List At) → Int → Int} {iv : List (List At) → List (Nat × Hint)} {N : Nat} {f : Nat} {fn : Func} (hf : P.funcs[f]? = some fn) (hb : fn.body.isSome = true) (hn : (fn.name == "runtime.NumGoroutine") = false) (hg : ∀ ls n, (g ls n).bnd none0)
    (h : ∀ ls n, Ok (c ls) → OwesW P cx sl (iv ls) N fn (mkArgsW sh ls) e k n (g ls n) (t ls n)) : FnOKw P cx.gl f (specWn e k sh c g t) := by
  refine FnOKw_owes hcx hsl hf hb hn fun args n ps sv m hs hp => ?_
  simp only [specWn] at hs
  split at hs
  · rename_i p ls ha
    simp only [Option.some.injEq, Prod.mk.injEq] at hs
    obtain ⟨rfl, rfl, rfl⟩ := hs
    obtain ⟨o1, o2⟩ := Ok.append.1 hp
    exact ⟨iv ls, N, mkArgsW sh ls, fun ρ => asArgsW_sound ρ ha o1, fun E hE _ => mkArgsW_bnd hE sh ls, hg ls n, h ls n o2⟩
  · cases hs
theorem FnOKU_A {cx : Cx} (hcx : CxOK P cx) {sl : List (Nat × SSpec)} (hsl : ∀ p ∈ sl, FnOKs P cx.gl p.1 p.2) {sh : List AP} {c : List (List At) → List Prop} {g : List (List At) → SV} {iv : List (List At) → List (Nat × Hint)} {N : Nat} {f : Nat} {fn : Func} (hf : P.funcs[f]? = some fn) (hb : fn.body.isSome = true) (hn : (fn.name == "runtime.NumGoroutine") = false) (hg : ∀ ls, (g ls).bnd none0)
    (h : ∀ ls vs, Ok (c ls) → OwesU P cx sl (iv ls) N fn (mkArgs sh ls vs) (g ls)) : FnOKg P cx.gl f (specA sh c g) := by
  refine FnOK_of hf hb hn fun args ps sv hs hp => ?_
  unfold specA at hs
  split at hs
  · rename_i p ls ha
    simp only [Option.some.injEq, Prod.mk.injEq] at hs
    obtain ⟨rfl, rfl⟩ := hs
    obtain ⟨o1, o2⟩ := Ok.append.1 hp
    refine ⟨hg ls, fun ρ w hzz hgg _ => ?_⟩
    obtain ⟨vs, hv⟩ := asArgs_sound ρ ha o1
    rw [hv]
    refine (calls_of_owesU hcx hsl hf hb (h ls vs o2) ρ w hzz hgg fun x hx => SA.bnd_mono none0_le (mkArgs_bnd sh ls vs x hx)).mono ?_
    rintro e w' ⟨v, rfl, ⟨ρ', hr⟩, hbl⟩
    exact ⟨v, rfl, rep_none0 (hg ls) hr, hbl⟩
  · cases hs
end
attribute [irreducible] OwesW OwesU
end Go.Sx
end

section
namespace Go.Proofs.Yteimeidpcgebkaa
open Go.Sx
set_option maxRecDepth 100000
abbrev pPt : List PK := [.u, .u, .b]
abbrev pCv : List PK := [.u, .u, .u, .u, .u, .u, .b]
abbrev Pt := Nat × Nat × Bool
abbrev sPt (x y : Nat) (f : Bool) : SA := .agg [.u x, .u y, .c (.val (.bool f))]
abbrev sCv (P A B N X Y : Nat) (F : Bool) : SA := .agg [.u P, .u A, .u B, .u N, .u X, .u Y, .c (.val (.bool F))]
def ptS (p : Pt) : SA := .agg [.u p.1, .u p.2.1, .c (.val (.bool p.2.2))]
def tw3 (m x : Nat) : Nat := (x + (x + x) % m) % m
def rhsN (m A B x : Nat) : Nat := ((x * (x * x % m) % m + A * x % m) % m + B) % m
def slopesN (m A B : Nat) : Nat := (((A * (A * A % m) % m + A * (A * A % m) % m) % m + (A * (A * A % m) % m + A * (A * A % m) % m) % m) % m + tw3 m (tw3 m (tw3 m (B * B % m)))) % m
def voidG : List (List At) → SV := fun _ => .tup []
def oddG (a : Nat) : SV := .one (sB (a % M256 % 2 == 1))
def farG : SV := .one (.agg [.u 0, .u 0, .c (.bit true)])
abbrev tErr : Go.TypeId := 29
abbrev sHd (m : Nat) : SA := .agg [.u m, .c (.ptr 0 0)]
def tdV (n : Int) (p : Pt) : Pt := if n = 0 then p else (0, 0, false)
def tdG : List (List At) → Int → SV
  | [[.u _], [.u x, .u y, .b f]], e => .tup [ptS (tdV e (x, y, f)), sI .i64 e]
  | _, _ => .tup []
def tdC : List (List At) → List Prop
  | [[.u _], [.u _, .u _, .b _]] => []
  | _ => [False]
def cTd : WSpec := specWn tErr .i64 [.hand, .str pPt] tdC tdG (fun _ n => n)
theorem vc_isOdd (a : Nat) :
    Owes Try.prog Cx.none [] 100 Try.f25 [sU a] (oddG a) =
    (((limb a 0).tmod (2 : Int) == (1 : Int)) = (a % M256 % 2 == 1)) := by kernel_rfl
theorem vc_far  :
    Owes Try.prog Cx.none [] 100 Try.f19 [] farG =
    (0 = 0 ∧ 0 = 0 ∧ Bool.true = Bool.true ∧ True) := by kernel_rfl
theorem wc_told (m x y r1 r2 : Nat) (f r3 : Bool) (n d e : Int) :
    OwesW Try.prog .none [] [] 10 Try.f14 [sHd m, sPt x y f] tErr .i64 n (.tup [sPt r1 r2 r3, sI .i64 d]) e =
    (let x1 : Nat := r1 % M256; let x2 : Nat := r2 % M256; ((n != (0 : Int)) = Bool.true → ((0 = x1 ∧ 0 = x2 ∧ Bool.false = r3 ∧ True) ∧ n = d) ∧ n = e) ∧ ((n != (0 : Int)) = Bool.false → ((x % M256 = x1 ∧ y % M256 = x2 ∧ f = r3 ∧ True) ∧ (0 : Int) = d) ∧ n = e)) := by kernel_rfl
end Go.Proofs.Yteimeidpcgebkaa
end

section
namespace Go.Proofs.Yteimeidpcgebkaa
open Go.Sx
set_option maxRecDepth 100000
def nt (b : Bool) (n : Int) : Int := cond b n 16
def okF (a b m : Nat) : Bool := fE a b m == 0
def okI (b m : Nat) : Bool := finvE b m == 0
def hAV (m a b : Nat) : Nat := if fE a b m = 0 then (a % M256 + b % M256) % (m % M256) else 0
def hSV (m a b : Nat) : Nat := if fE a b m = 0 then (a % M256 + m % M256 - b % M256) % (m % M256) else 0
def hMV (m a b : Nat) : Nat := if fE a b m = 0 then a % M256 * (b % M256) % (m % M256) else 0
def hIV (m b : Nat) : Nat := if finvE b m = 0 then invN (b % M256) (m % M256) else 0
def hPV (m a : Nat) : Nat := if pE a m = 0 then (a % M256) ^ (m % M256 / 4 + 1) % (m % M256) else 0
def hDV (m a b : Nat) : Nat := hMV m a (hIV m b)
def hDT (m a b : Nat) (n : Int) : Int := nt (okF a (hIV m b) m) (nt (okI b m) n)
def h3V (m a : Nat) : Nat := hAV m a (hAV m a a)
def h3T (m a : Nat) (n : Int) : Int := nt (okF a (hAV m a a) m) (nt (okF a a m) n)
def rgtV (m A B x : Nat) : Nat := hAV m (hAV m (hMV m x (hMV m x x)) (hMV m A x)) B
def rgtT (m A B x : Nat) (n : Int) : Int := nt (okF (hAV m (hMV m x (hMV m x x)) (hMV m A x)) B m) (nt (okF (hMV m x (hMV m x x)) (hMV m A x) m) (nt (okF A x m) (nt (okF x (hMV m x x) m) (nt (okF x x m) n))))
def slpV (m A B : Nat) : Nat := hAV m (hAV m (hAV m (hMV m A (hMV m A A)) (hMV m A (hMV m A A))) (hAV m (hMV m A (hMV m A A)) (hMV m A (hMV m A A)))) (h3V m (h3V m (h3V m (hMV m B B))))
def slpT (m A B : Nat) (n : Int) : Int :=
  nt (okF (hAV m (hAV m (hMV m A (hMV m A A)) (hMV m A (hMV m A A))) (hAV m (hMV m A (hMV m A A)) (hMV m A (hMV m A A)))) (h3V m (h3V m (h3V m (hMV m B B)))) m)
    (h3T m (h3V m (h3V m (hMV m B B))) (h3T m (h3V m (hMV m B B)) (h3T m (hMV m B B)
      (nt (okF (hAV m (hMV m A (hMV m A A)) (hMV m A (hMV m A A))) (hAV m (hMV m A (hMV m A A)) (hMV m A (hMV m A A))) m) (nt (okF (hMV m A (hMV m A A)) (hMV m A (hMV m A A)) m)
        (nt (okF B B m) (nt (okF A (hMV m A A) m) (nt (okF A A m) n))))))))
def havT (m A B : Nat) (x y : Nat) (f : Bool) (n : Int) : Int := cond f (nt (x % M256 == 0 && y % M256 == 0) n) (nt (hMV m y y % M256 == rgtV m A B x % M256) (rgtT m A B x (nt (okF y y m) n)))
def mbeT (m P A B N X Y : Nat) (F : Bool) (n : Int) : Int :=
  havT m A B X Y F (nt (!F) (nt (!(slpV m A B % M256 == 0)) (slpT m A B (nt (decide (1 < N % M256)) (nt (decide (3 < P % M256) && decide (P % M256 % 4 = 3)) n)))))
def mustC : List (List At) → List Prop
  | [[.u _], [.b _]] => []
  | _ => [False]
def mustT : List (List At) → Int → Int
  | [[.u _], [.b x]], n => nt x n
  | _, n => n
def wKeptC : List (List At) → List Prop
  | [[.u _], [.u _], [.i _]] => []
  | _ => [False]
def wKeptT : List (List At) → Int → Int
  | [[.u _], [.u _], [.i e]], n => nt (e == 0) n
  | _, n => n
def w2C : List (List At) → List Prop
  | [[.u _], [.u _], [.u _]] => []
  | _ => [False]
def w1C : List (List At) → List Prop
  | [[.u _], [.u _]] => []
  | _ => [False]
def w2T : List (List At) → Int → Int
  | [[.u m], [.u a], [.u b]], n => nt (okF a b m) n
  | _, n => n
def wAddG : List (List At) → SV
  | [[.u m], [.u a], [.u b]] => .one (sU (hAV m a b))
  | _ => .tup []
def wSubG : List (List At) → SV
  | [[.u m], [.u a], [.u b]] => .one (sU (hSV m a b))
  | _ => .tup []
def wMulG : List (List At) → SV
  | [[.u m], [.u a], [.u b]] => .one (sU (hMV m a b))
  | _ => .tup []
def wTwG : List (List At) → SV
  | [[.u m], [.u a]] => .one (sU (hAV m a a))
  | _ => .tup []
def wTwT : List (List At) → Int → Int
  | [[.u m], [.u a]], n => nt (okF a a m) n
  | _, n => n
def wThG : List (List At) → SV
  | [[.u m], [.u a]] => .one (sU (h3V m a))
  | _ => .tup []
def wThT : List (List At) → Int → Int
  | [[.u m], [.u a]], n => h3T m a n
  | _, n => n
def wRtG : List (List At) → SV
  | [[.u m], [.u a]] => .one (sU (hPV m a))
  | _ => .tup []
def wRtT : List (List At) → Int → Int
  | [[.u m], [.u a]], n => nt (pE a m == 0) n
  | _, n => n
def wRgC : List (List At) → List Prop
  | [[.u _], [.u _, .u _, .u _, .u _, .u _, .u _, .b _], [.u _]] => []
  | _ => [False]
def wRgG : List (List At) → SV
  | [[.u m], [.u _, .u A, .u B, .u _, .u _, .u _, .b _], [.u x]] => .one (sU (rgtV m A B x))
  | _ => .tup []
def wRgT : List (List At) → Int → Int
  | [[.u m], [.u _, .u A, .u B, .u _, .u _, .u _, .b _], [.u x]], n => rgtT m A B x n
  | _, n => n
def wCvC : List (List At) → List Prop
  | [[.u _], [.u _, .u _, .u _, .u _, .u _, .u _, .b _]] => []
  | _ => [False]
def wSlG : List (List At) → SV
  | [[.u m], [.u _, .u A, .u B, .u _, .u _, .u _, .b _]] => .one (sU (slpV m A B))
  | _ => .tup []
def wSlT : List (List At) → Int → Int
  | [[.u m], [.u _, .u A, .u B, .u _, .u _, .u _, .b _]], n => slpT m A B n
  | _, n => n
def wHvC : List (List At) → List Prop
  | [[.u _], [.u _, .u _, .u _, .u _, .u _, .u _, .b _], [.u _, .u _, .b _]] => []
  | _ => [False]
def wHvT : List (List At) → Int → Int
  | [[.u m], [.u _, .u A, .u B, .u _, .u _, .u _, .b _], [.u x, .u y, .b f]], n => havT m A B x y f n
  | _, n => n
def wBeT : List (List At) → Int → Int
  | [[.u m], [.u P, .u A, .u B, .u N, .u X, .u Y, .b F]], n => mbeT m P A B N X Y F n
  | _, n => n
abbrev shCv : List AP := [.hand, .str pCv]
def wMust : WSpec := specWr tErr .i64 [.hand, .bit] mustC voidG mustT
def wKept : WSpec := specWr tErr .i64 [.hand, .str [.u], .int .i64] wKeptC keptG wKeptT
def wAdd : WSpec := specWr tErr .i64 shH2 w2C wAddG w2T
def wSub : WSpec := specWr tErr .i64 shH2 w2C wSubG w2T
def wMul : WSpec := specWr tErr .i64 shH2 w2C wMulG w2T
def wTwice : WSpec := specWr tErr .i64 shH1 w1C wTwG wTwT
def wThrice : WSpec := specWr tErr .i64 shH1 w1C wThG wThT
def wRoot : WSpec := specWr tErr .i64 shH1 w1C wRtG wRtT
def wRight : WSpec := specWr tErr .i64 [.hand, .str pCv, .str [.u]] wRgC wRgG wRgT
def wSlopes : WSpec := specWr tErr .i64 shCv wCvC wSlG wSlT
def wHave : WSpec := specWr tErr .i64 [.hand, .str pCv, .str pPt] wHvC voidG wHvT
def wBe : WSpec := specWr tErr .i64 shCv wCvC voidG wBeT
def cyKept : Cx := ⟨[], [], 0, [(27, wMust)]⟩
def cyAdd : Cx := ⟨[(58, specUUU noC faddG)], [], 0, [(47, wKept)]⟩
def cySub : Cx := ⟨[(49, specUUU noC fsubG)], [], 0, [(47, wKept)]⟩
def cyMul : Cx := ⟨[(57, specUUU noC fmulG)], [], 0, [(47, wKept)]⟩
def cyTwice : Cx := ⟨[], [], 0, [(38, wAdd)]⟩
def cyThrice : Cx := ⟨[], [], 0, [(38, wAdd), (55, wTwice)]⟩
def cyRoot : Cx := ⟨[(45, specUU dmG), (46, specUU addG), (48, specUUU noC fpowG)], [], 0, [(47, wKept)]⟩
def cyRight : Cx := ⟨[], [], 0, [(38, wAdd), (37, wMul)]⟩
def cySlopes : Cx := ⟨[], [], 0, [(38, wAdd), (37, wMul), (55, wTwice), (56, wThrice)]⟩
def cyHave : Cx := ⟨[(19, spec0 farG)], [], 0, [(37, wMul), (24, wRight), (27, wMust)]⟩
def cyBe : Cx := ⟨[(22, specUU cmpG)], [], 0, [(36, wSlopes), (13, wHave), (27, wMust)]⟩
theorem wc_must (m : Nat) (x : Bool) (n : Int) :
    OwesW Try.prog .none [] [] 10 Try.f27 [sHd m, sB x] tErr .i64 n (.tup []) (nt x n) =
    (((!x) = Bool.true → True ∧ (16 : Int) = nt x n) ∧ ((!x) = Bool.false → True ∧ n = nt x n)) := by kernel_rfl
theorem wc_kept (m a : Nat) (e : Int) (n : Int) :
    OwesW Try.prog cyKept [] [] 10 Try.f47 [sHd m, sU a, sI .i64 e] tErr .i64 n (.one (sU a)) (nt (e == 0) n) =
    (let x1 : Nat := a % M256; let x2 : Bool := e == (0 : Int); (x1 = x1 ∧ True) ∧ mustT [[At.u m], [At.b x2]] n = nt x2 n) := by kernel_rfl
theorem wc_add (m a b : Nat) (n : Int) :
    OwesW Try.prog cyAdd [] [] 10 Try.f38 [sHd m, sU a, sU b] tErr .i64 n (.one (sU (hAV m a b))) (nt (okF a b m) n) =
    (let x1 : Nat := if fE a b m = (0 : Int) then (a % M256 + b % M256) % (m % M256) else 0; (x1 % M256 = hAV m a b % M256 ∧ True) ∧ wKeptT [[At.u m], [At.u x1], [At.i (fE a b m)]] n = nt (okF a b m) n) := by kernel_rfl
theorem wc_sub (m a b : Nat) (n : Int) :
    OwesW Try.prog cySub [] [] 10 Try.f26 [sHd m, sU a, sU b] tErr .i64 n (.one (sU (hSV m a b))) (nt (okF a b m) n) =
    (let x1 : Nat := m % M256; let x2 : Nat := if fE a b m = (0 : Int) then (a % M256 + x1 - b % M256) % x1 else 0; (x2 % M256 = hSV m a b % M256 ∧ True) ∧ wKeptT [[At.u m], [At.u x2], [At.i (fE a b m)]] n = nt (okF a b m) n) := by kernel_rfl
theorem wc_mul (m a b : Nat) (n : Int) :
    OwesW Try.prog cyMul [] [] 10 Try.f37 [sHd m, sU a, sU b] tErr .i64 n (.one (sU (hMV m a b))) (nt (okF a b m) n) =
    (let x1 : Nat := if fE a b m = (0 : Int) then a % M256 * (b % M256) % (m % M256) else 0; (x1 % M256 = hMV m a b % M256 ∧ True) ∧ wKeptT [[At.u m], [At.u x1], [At.i (fE a b m)]] n = nt (okF a b m) n) := by kernel_rfl
theorem wc_twice (m a : Nat) (n : Int) :
    OwesW Try.prog cyTwice [] [] 10 Try.f55 [sHd m, sU a] tErr .i64 n (.one (sU (hAV m a a))) (nt (okF a a m) n) =
    (let x1 : Nat := hAV m a a % M256; (x1 = x1 ∧ True) ∧ w2T [[At.u m], [At.u a], [At.u a]] n = nt (okF a a m) n) := by kernel_rfl
theorem wc_thrice (m a : Nat) (n : Int) :
    OwesW Try.prog cyThrice [] [] 10 Try.f56 [sHd m, sU a] tErr .i64 n (.one (sU (h3V m a))) (h3T m a n) =
    ((hAV m a (hAV m a a) % M256 = h3V m a % M256 ∧ True) ∧ w2T [[At.u m], [At.u a], [At.u (hAV m a a)]] (wTwT [[At.u m], [At.u a]] n) = h3T m a n) := by kernel_rfl
theorem wc_root (m a : Nat) (n : Int) :
    OwesW Try.prog cyRoot [] [] 10 Try.f23 [sHd m, sU a] tErr .i64 n (.one (sU (hPV m a))) (nt (pE a m == 0) n) =
    (let x1 : Nat := m % M256; let x2 : Nat := if pE a m = (0 : Int) then (a % M256) ^ (((if 4 = 0 then 0 else x1 / 4) + 1) % M256) % x1 else 0; (x2 % M256 = hPV m a % M256 ∧ True) ∧ wKeptT [[At.u m], [At.u x2], [At.i (pE a m)]] n = nt (pE a m == (0 : Int)) n) := by kernel_rfl
theorem wc_right (m P A B N X Y x : Nat) (F : Bool) (n : Int) :
    OwesW Try.prog cyRight [] [] 10 Try.f24 [sHd m, sCv P A B N X Y F, sU x] tErr .i64 n (.one (sU (rgtV m A B x))) (rgtT m A B x n) =
    (let x1 : Nat := hAV m (hMV m x (hMV m x x)) (hMV m A x); (hAV m x1 B % M256 = rgtV m A B x % M256 ∧ True) ∧ w2T [[At.u m], [At.u x1], [At.u B]] (w2T [[At.u m], [At.u (hMV m x (hMV m x x))], [At.u (hMV m A x)]] (w2T [[At.u m], [At.u A], [At.u x]] (w2T [[At.u m], [At.u x], [At.u (hMV m x x)]] (w2T [[At.u m], [At.u x], [At.u x]] n)))) = rgtT m A B x n) := by kernel_rfl
theorem wc_slopes (m P A B N X Y : Nat) (F : Bool) (n : Int) :
    OwesW Try.prog cySlopes [] [] 10 Try.f36 [sHd m, sCv P A B N X Y F] tErr .i64 n (.one (sU (slpV m A B))) (slpT m A B n) =
    (let x1 : Nat := hAV m (hMV m A (hMV m A A)) (hMV m A (hMV m A A)); let x2 : Nat := hAV m x1 x1; let x3 : Nat := h3V m (h3V m (h3V m (hMV m B B))); (hAV m x2 x3 % M256 = slpV m A B % M256 ∧ True) ∧ w2T [[At.u m], [At.u x2], [At.u x3]] (wThT [[At.u m], [At.u (h3V m (h3V m (hMV m B B)))]] (wThT [[At.u m], [At.u (h3V m (hMV m B B))]] (wThT [[At.u m], [At.u (hMV m B B)]] (wTwT [[At.u m], [At.u x1]] (wTwT [[At.u m], [At.u (hMV m A (hMV m A A))]] (w2T [[At.u m], [At.u B], [At.u B]] (w2T [[At.u m], [At.u A], [At.u (hMV m A A)]] (w2T [[At.u m], [At.u A], [At.u A]] n)))))))) = slpT m A B n) := by kernel_rfl
theorem wc_have (m P A B N X Y x y : Nat) (F f : Bool) (n : Int) :
    OwesW Try.prog cyHave [] [] 10 Try.f13 [sHd m, sCv P A B N X Y F, sPt x y f] tErr .i64 n (.tup []) (havT m A B x y f n) =
    ((f = Bool.true → True ∧ mustT [[At.u m], [At.b (conj [x % M256 == 0, y % M256 == 0, f == Bool.true])]] n = havT m A B x y f n) ∧ (f = Bool.false → True ∧ mustT [[At.u m], [At.b (conj [hMV m y y % M256 == rgtV m A B x % M256])]] (wRgT [[At.u m], [At.u P, At.u A, At.u B, At.u N, At.u X, At.u Y, At.b F], [At.u x]] (w2T [[At.u m], [At.u y], [At.u y]] n)) = havT m A B x y f n)) := by kernel_rfl
theorem wc_be (m P A B N X Y : Nat) (F : Bool) (n : Int) :
    OwesW Try.prog cyBe [] [] 10 Try.f12 [sHd m, sCv P A B N X Y F] tErr .i64 n (.tup []) (mbeT m P A B N X Y F n) =
    (let x1 : Bool := Decidable.decide (cmpN P 3 > (0 : Int)); (x1 = Bool.true → x1 = Bool.true) ∧ (x1 = Bool.true → x1 = Bool.true) ∧ (x1 = Bool.true → x1 = Bool.true) ∧ (x1 = Bool.true → x1 = Bool.true) ∧ (x1 = Bool.true → x1 = Bool.true) ∧ True ∧ wHvT [[At.u m], [At.u P, At.u A, At.u B, At.u N, At.u X, At.u Y, At.b F], [At.u X, At.u Y, At.b F]] (mustT [[At.u m], [At.b !F]] (mustT [[At.u m], [At.b !conj [slpV m A B % M256 == 0]]] (wSlT [[At.u m], [At.u P, At.u A, At.u B, At.u N, At.u X, At.u Y, At.b F]] (mustT [[At.u m], [At.b (Decidable.decide (cmpN N 1 > (0 : Int)))]] (mustT [[At.u m], [At.b (x1 && (limb P 0).tmod (4 : Int) == (3 : Int))]] n))))) = mbeT m P A B N X Y F n) := by kernel_rfl
end Go.Proofs.Yteimeidpcgebkaa
end

section
namespace Go.Proofs.Yteimeidpcgebkaa
open Go.Sx
set_option maxRecDepth 100000
end Go.Proofs.Yteimeidpcgebkaa
end

section
namespace Go.Proofs.Yteimeidpcgebkaa
open Go.Sx
set_option maxRecDepth 100000
end Go.Proofs.Yteimeidpcgebkaa
end

section
namespace Go.Proofs.Yteimeidpcgebkaa
open Go.Sx
theorem split4 (n : Nat) : ∃ a b c d : Nat, limb n 0 = a ∧ limb n 1 = b ∧ limb n 2 = c ∧ limb n 3 = d ∧ a < 18446744073709551616 ∧ b < 18446744073709551616 ∧ c < 18446744073709551616 ∧ d < 18446744073709551616 ∧
    n % M256 = a + 18446744073709551616 * b + 340282366920938463463374607431768211456 * c + 6277101735386680763835789423207666416102355444464034512896 * d := by
  refine ⟨n / 2 ^ (64 * 0) % 2 ^ 64, n / 2 ^ (64 * 1) % 2 ^ 64, n / 2 ^ (64 * 2) % 2 ^ 64, n / 2 ^ (64 * 3) % 2 ^ 64, rfl, rfl, rfl, rfl, Nat.mod_lt _ (by decide), Nat.mod_lt _ (by decide), Nat.mod_lt _ (by decide), Nat.mod_lt _ (by decide), ?_⟩
  rw [limbs_sum]
  simp only [Nat.mul_zero, Nat.pow_zero, Nat.div_one, Nat.mul_one, Nat.reduceMul, Nat.reducePow]
theorem M256_eq : M256 = 115792089237316195423570985008687907853269984665640564039457584007913129639936 := by decide
theorem carry_step (x y c : Nat) (hx : x < 18446744073709551616) (hy : y < 18446744073709551616) (hc : c ≤ 1) :
    ∃ s d : Nat, ((x : Int) + y + c) % 18446744073709551616 = s ∧ ((x : Int) + y + c) / 18446744073709551616 = d ∧ s < 18446744073709551616 ∧ d ≤ 1 ∧ x + y + c = s + 18446744073709551616 * d :=
  ⟨(x + y + c) % 18446744073709551616, (x + y + c) / 18446744073709551616, by omega, by omega, by omega, by omega, by omega⟩
theorem divmod_of {A S c M : Nat} (h : A = S + M * c) (hS : S < M) : A % M = S ∧ A / M = c := by
  subst h
  rw [Nat.add_mul_mod_self_left, Nat.mod_eq_of_lt hS, Nat.add_mul_div_left _ _ (by omega), Nat.div_eq_of_lt hS]
  exact ⟨rfl, by omega⟩
theorem ok_plus : ∀ a b, Owes Try.prog cxPlus [] 100 Try.f62 [sU a, sU b] (plusG a b) := by
  intro a b
  rw [vc_plus]
  have hab := Nat.add_mod a b M256
  obtain ⟨a0, a1, a2, a3, e0, e1, e2, e3, h0, h1, h2, h3, ha⟩ := split4 a
  obtain ⟨b0, b1, b2, b3, f0, f1, f2, f3, k0, k1, k2, k3, hb⟩ := split4 b
  rw [e0, e1, e2, e3, f0, f1, f2, f3]
  rw [ha, hb] at hab
  rw [ha, hb]
  obtain ⟨s0, c0, p0, q0, r0, t0, w0⟩ := carry_step a0 b0 0 h0 k0 (by omega)
  obtain ⟨s1, c1, p1, q1, r1, t1, w1⟩ := carry_step a1 b1 c0 h1 k1 t0
  obtain ⟨s2, c2, p2, q2, r2, t2, w2⟩ := carry_step a2 b2 c1 h2 k2 t1
  obtain ⟨s3, c3, p3, q3, r3, t3, w3⟩ := carry_step a3 b3 c2 h3 k3 t2
  simp only [Int.natCast_zero] at p0 q0
  obtain ⟨m1, m2⟩ := divmod_of (A := a0 + 18446744073709551616 * a1 + 340282366920938463463374607431768211456 * a2 + 6277101735386680763835789423207666416102355444464034512896 * a3 +
    (b0 + 18446744073709551616 * b1 + 340282366920938463463374607431768211456 * b2 + 6277101735386680763835789423207666416102355444464034512896 * b3))
    (S := s0 + 2 ^ 64 * s1 + 2 ^ 128 * s2 + 2 ^ 192 * s3) (c := c3) (M := M256) (by rw [M256_eq]; omega) (by rw [M256_eq]; omega)
  rw [m1] at hab
  have hS : (s0 + 2 ^ 64 * s1 + 2 ^ 128 * s2 + 2 ^ 192 * s3) % M256 = s0 + 2 ^ 64 * s1 + 2 ^ 128 * s2 + 2 ^ 192 * s3 := Nat.mod_eq_of_lt (by rw [M256_eq]; omega)
  simp only [q0, q1, q2, q3, p0, p1, p2, p3, join, Int.toNat_natCast, and_true, hab, hS, m2]
  clear ha hb hab hS m1 m2 p0 p1 p2 p3 q0 q1 q2 q3 w0 w1 w2 w3 e0 e1 e2 e3 f0 f1 f2 f3
  refine ⟨?_, ?_, ?_, ?_, ?_, ?_, ?_, ?_, ?_, ?_, ?_, ?_, ?_, ?_, ?_, ?_⟩ <;> omega
theorem borrow_step (x y c : Nat) (hx : x < 18446744073709551616) (hy : y < 18446744073709551616) (hc : c ≤ 1) :
    ∃ s d : Nat, ((x : Int) - y - c) % 18446744073709551616 = s ∧ -(((x : Int) - y - c) / 18446744073709551616) = d ∧ s < 18446744073709551616 ∧ d ≤ 1 ∧ x + 18446744073709551616 * d = s + y + c :=
  ⟨(((x : Int) - y - c) % 18446744073709551616).toNat, (-(((x : Int) - y - c) / 18446744073709551616)).toNat, by omega, by omega, by omega, by omega, by omega⟩
theorem ok_less : ∀ a b, Owes Try.prog cxLess [] 100 Try.f88 [sU a, sU b] (lessG a b) := by
  intro a b
  rw [vc_less]
  obtain ⟨a0, a1, a2, a3, e0, e1, e2, e3, h0, h1, h2, h3, ha⟩ := split4 a
  obtain ⟨b0, b1, b2, b3, f0, f1, f2, f3, k0, k1, k2, k3, hb⟩ := split4 b
  rw [e0, e1, e2, e3, f0, f1, f2, f3, ha, hb]
  obtain ⟨s0, c0, p0, q0, r0, t0, w0⟩ := borrow_step a0 b0 0 h0 k0 (by omega)
  obtain ⟨s1, c1, p1, q1, r1, t1, w1⟩ := borrow_step a1 b1 c0 h1 k1 t0
  obtain ⟨s2, c2, p2, q2, r2, t2, w2⟩ := borrow_step a2 b2 c1 h2 k2 t1
  obtain ⟨s3, c3, p3, q3, r3, t3, w3⟩ := borrow_step a3 b3 c2 h3 k3 t2
  simp only [Int.natCast_zero] at p0 q0
  have key : a0 + 18446744073709551616 * a1 + 340282366920938463463374607431768211456 * a2 + 6277101735386680763835789423207666416102355444464034512896 * a3 + M256 * c3 =
    (s0 + 2 ^ 64 * s1 + 2 ^ 128 * s2 + 2 ^ 192 * s3) + (b0 + 18446744073709551616 * b1 + 340282366920938463463374607431768211456 * b2 + 6277101735386680763835789423207666416102355444464034512896 * b3) := by
    rw [M256_eq]; omega
  simp only [q0, q1, q2, q3, p0, p1, p2, p3, join, Int.toNat_natCast, and_true]
  generalize hA : a0 + 18446744073709551616 * a1 + 340282366920938463463374607431768211456 * a2 + 6277101735386680763835789423207666416102355444464034512896 * a3 = A at *
  generalize hB : b0 + 18446744073709551616 * b1 + 340282366920938463463374607431768211456 * b2 + 6277101735386680763835789423207666416102355444464034512896 * b3 = B at *
  have hA' : A < M256 := by rw [M256_eq]; omega
  have hB' : B < M256 := by rw [M256_eq]; omega
  have hS' : s0 + 2 ^ 64 * s1 + 2 ^ 128 * s2 + 2 ^ 192 * s3 < M256 := by rw [M256_eq]; omega
  generalize s0 + 2 ^ 64 * s1 + 2 ^ 128 * s2 + 2 ^ 192 * s3 = S at *
  rw [Nat.mod_eq_of_lt hS']
  have hc3 : c3 = 0 ∨ c3 = 1 := by omega
  have fin : S = (A + M256 - B) % M256 ∧ (c3 : Int) = if A < B then 1 else 0 := by
    rcases hc3 with rfl | rfl
    · have : ¬ A < B := by omega
      rw [if_neg this]
      refine ⟨?_, rfl⟩
      rw [show A + M256 - B = S + M256 by omega, Nat.add_mod_right, Nat.mod_eq_of_lt hS']
    · have : A < B := by omega
      rw [if_pos this]
      refine ⟨?_, rfl⟩
      rw [show A + M256 - B = S by omega, Nat.mod_eq_of_lt hS']
  obtain ⟨g1, g2⟩ := fin
  rw [← g1, ← g2]
  clear ha hb hA hB key hA' hB' hS' g1 g2 p0 p1 p2 p3 q0 q1 q2 q3 w0 w1 w2 w3 e0 e1 e2 e3 f0 f1 f2 f3
  repeat' apply And.intro
  all_goals first | rfl | omega
theorem ok_Add : ∀ a b, Owes Try.prog cxAdd [] 100 Try.f46 [sU a, sU b] (addG a b) := by
  intro a b
  rw [vc_Add]
  refine ⟨⟨rfl, trivial⟩, ?_⟩
  have hM : 0 < M256 := by decide
  have h1 := Nat.mod_lt a hM
  have h2 := Nat.mod_lt b hM
  rw [Bool.eq_iff_iff]
  simp only [bne_iff_ne, ne_eq, decide_eq_true_eq]
  by_cases h : M256 ≤ a % M256 + b % M256
  · have : (a % M256 + b % M256) / M256 ≠ 0 := by
      have := Nat.div_pos h hM
      omega
    simp only [h, iff_true]; omega
  · have : (a % M256 + b % M256) / M256 = 0 := Nat.div_eq_of_lt (by omega)
    simp [h, this]
theorem ok_Sub : ∀ a b, Owes Try.prog cxSub [] 100 Try.f79 [sU a, sU b] (subG a b) := by
  intro a b
  rw [vc_Sub]
  refine ⟨⟨rfl, trivial⟩, ?_⟩
  by_cases h : a % M256 < b % M256 <;> simp [h]
theorem ok_Cmp : ∀ a b, Owes Try.prog Cx.none [] 100 Try.f22 [sU a, sU b] (cmpG a b) := by
  intro a b
  rw [vc_Cmp]
  obtain ⟨a0, a1, a2, a3, e0, e1, e2, e3, h0, h1, h2, h3, ha⟩ := split4 a
  obtain ⟨b0, b1, b2, b3, f0, f1, f2, f3, k0, k1, k2, k3, hb⟩ := split4 b
  rw [e0, e1, e2, e3, f0, f1, f2, f3]
  simp only [cmpN, ha, hb, decide_eq_true_eq, decide_eq_false_iff_not]
  clear e0 e1 e2 e3 f0 f1 f2 f3 ha hb
  refine ⟨fun h => ?_, fun h => ⟨fun h' => ?_, fun h' => ⟨fun g => ?_, fun g => ⟨fun g' => ?_, fun g' => ⟨fun i => ?_, fun i => ⟨fun i' => ?_, fun i' => ⟨fun j => ?_, fun j => ⟨fun j' => ?_, fun j' => ?_⟩⟩⟩⟩⟩⟩⟩⟩
  all_goals
    split
    · omega
    · first
      | omega
      | (split <;> omega)
end Go.Proofs.Yteimeidpcgebkaa
end

section
namespace Go.Proofs.Yteimeidpcgebkaa
open Go.Sx
end Go.Proofs.Yteimeidpcgebkaa
end

section
namespace Go.Proofs.Yteimeidpcgebkaa
open Go.Sx
theorem wrap_id {n : Int} (h : 0 ≤ n ∧ n < 18446744073709551616) : IntKind.u64.wrap n = n := by
  unfold IntKind.wrap
  simp [IntKind.signed, IntKind.bits]
  omega
theorem limbs_int (a : Nat) : ((a % M256 : Nat) : Int) = limb a 0 + 18446744073709551616 * limb a 1 + 340282366920938463463374607431768211456 * limb a 2 + 6277101735386680763835789423207666416102355444464034512896 * limb a 3 := by
  obtain ⟨a0, a1, a2, a3, e0, e1, e2, e3, _, _, _, _, ha⟩ := split4 a
  rw [ha, e0, e1, e2, e3]
  omega
theorem mul_fin (a b : Nat) (c0 c1 c2 c3 c4 c5 c6 c7 : Int) (h0 : 0 ≤ c0 ∧ c0 < 18446744073709551616) (h1 : 0 ≤ c1 ∧ c1 < 18446744073709551616) (h2 : 0 ≤ c2 ∧ c2 < 18446744073709551616) (h3 : 0 ≤ c3 ∧ c3 < 18446744073709551616)
    (h4 : 0 ≤ c4 ∧ c4 < 18446744073709551616) (h5 : 0 ≤ c5 ∧ c5 < 18446744073709551616) (h6 : 0 ≤ c6 ∧ c6 < 18446744073709551616) (h7 : 0 ≤ c7 ∧ c7 < 18446744073709551616)
    (h : ((a % M256 : Nat) : Int) * ((b % M256 : Nat) : Int) = c0 + 18446744073709551616 * c1 + 340282366920938463463374607431768211456 * c2 + 6277101735386680763835789423207666416102355444464034512896 * c3 + 115792089237316195423570985008687907853269984665640564039457584007913129639936 * (c4 + 18446744073709551616 * c5 + 340282366920938463463374607431768211456 * c6 + 6277101735386680763835789423207666416102355444464034512896 * c7)) :
    join c0 c1 c2 c3 % M256 = a * b % M256 ∧ join c4 c5 c6 c7 % M256 = a % M256 * (b % M256) / M256 % M256 := by
  obtain ⟨c0, rfl⟩ := Int.eq_ofNat_of_zero_le h0.1
  obtain ⟨c1, rfl⟩ := Int.eq_ofNat_of_zero_le h1.1
  obtain ⟨c2, rfl⟩ := Int.eq_ofNat_of_zero_le h2.1
  obtain ⟨c3, rfl⟩ := Int.eq_ofNat_of_zero_le h3.1
  obtain ⟨c4, rfl⟩ := Int.eq_ofNat_of_zero_le h4.1
  obtain ⟨c5, rfl⟩ := Int.eq_ofNat_of_zero_le h5.1
  obtain ⟨c6, rfl⟩ := Int.eq_ofNat_of_zero_le h6.1
  obtain ⟨c7, rfl⟩ := Int.eq_ofNat_of_zero_le h7.1
  have hm := Nat.mul_mod a b M256
  rw [← Int.natCast_mul] at h
  generalize a % M256 * (b % M256) = g at h hm
  have e : g = join c0 c1 c2 c3 + M256 * join c4 c5 c6 c7 := by
    unfold join
    rw [M256_eq]
    simp only [Int.toNat_natCast, Nat.reducePow]
    omega
  have hlt : join c0 c1 c2 c3 < M256 := join_lt (by omega) (by omega) (by omega) (by omega)
  obtain ⟨k1, k2⟩ := divmod_of e hlt
  refine ⟨by rw [hm, k1, Nat.mod_eq_of_lt hlt], by rw [k2]⟩
theorem mac (X O P : Int) (hX : 0 ≤ X ∧ X ≤ 340282366920938463426481119284349108225) (hO : 0 ≤ O ∧ O < 18446744073709551616) (hP : 0 ≤ P ∧ P < 18446744073709551616) :
    X + O + P = (P + (X % 18446744073709551616 + O + 0) % 18446744073709551616 + 0) % 18446744073709551616 +
      18446744073709551616 * IntKind.u64.wrap (IntKind.u64.wrap (X / 18446744073709551616 + (X % 18446744073709551616 + O + 0) / 18446744073709551616) + (P + (X % 18446744073709551616 + O + 0) % 18446744073709551616 + 0) / 18446744073709551616) ∧
    (0 ≤ (P + (X % 18446744073709551616 + O + 0) % 18446744073709551616 + 0) % 18446744073709551616 ∧ (P + (X % 18446744073709551616 + O + 0) % 18446744073709551616 + 0) % 18446744073709551616 < 18446744073709551616) ∧
    (0 ≤ IntKind.u64.wrap (IntKind.u64.wrap (X / 18446744073709551616 + (X % 18446744073709551616 + O + 0) / 18446744073709551616) + (P + (X % 18446744073709551616 + O + 0) % 18446744073709551616 + 0) / 18446744073709551616) ∧
     IntKind.u64.wrap (IntKind.u64.wrap (X / 18446744073709551616 + (X % 18446744073709551616 + O + 0) / 18446744073709551616) + (P + (X % 18446744073709551616 + O + 0) % 18446744073709551616 + 0) / 18446744073709551616) < 18446744073709551616) := by
  have h1 : IntKind.u64.wrap (X / 18446744073709551616 + (X % 18446744073709551616 + O + 0) / 18446744073709551616) = X / 18446744073709551616 + (X % 18446744073709551616 + O + 0) / 18446744073709551616 := wrap_id (by omega)
  rw [h1, wrap_id (by omega)]
  omega
theorem limb_mul (a b : Nat) (i j : Nat) : 0 ≤ limb a i * limb b j ∧ limb a i * limb b j ≤ 340282366920938463426481119284349108225 := by
  have h1 := limb_nonneg a i
  have h2 := limb_nonneg b j
  have h3 := limb_lt a i
  have h4 := limb_lt b j
  refine ⟨Int.mul_nonneg h1 h2, ?_⟩
  have : limb a i * limb b j ≤ 18446744073709551615 * 18446744073709551615 := Int.mul_le_mul (by omega) (by omega) h2 (by decide)
  omega
theorem mul_weigh (a b c0 c1 c2 c3 c4 c5 c6 c7 : Int) (a0 a1 a2 a3 b0 b1 b2 b3 : Int) (ha : a = a0 + 18446744073709551616 * a1 + 340282366920938463463374607431768211456 * a2 + 6277101735386680763835789423207666416102355444464034512896 * a3)
    (hb : b = b0 + 18446744073709551616 * b1 + 340282366920938463463374607431768211456 * b2 + 6277101735386680763835789423207666416102355444464034512896 * b3)
    (h : a0 * b0 + 18446744073709551616 * (a0 * b1 + a1 * b0) + 340282366920938463463374607431768211456 * (a0 * b2 + a1 * b1 + a2 * b0) + 6277101735386680763835789423207666416102355444464034512896 * (a0 * b3 + a1 * b2 + a2 * b1 + a3 * b0) +
      115792089237316195423570985008687907853269984665640564039457584007913129639936 * (a1 * b3 + a2 * b2 + a3 * b1) + 2135987035920910082395021706169552114602704522356652769947041607822219725780640550022962086936576 * (a2 * b3 + a3 * b2) + 39402006196394479212279040100143613805079739270465446667948293404245721771497210611414266254884915640806627990306816 * (a3 * b3) =
      c0 + 18446744073709551616 * c1 + 340282366920938463463374607431768211456 * c2 + 6277101735386680763835789423207666416102355444464034512896 * c3 + 115792089237316195423570985008687907853269984665640564039457584007913129639936 * c4 + 2135987035920910082395021706169552114602704522356652769947041607822219725780640550022962086936576 * c5 + 39402006196394479212279040100143613805079739270465446667948293404245721771497210611414266254884915640806627990306816 * c6 + 726838724295606890549323807888004534353641360687318060281490199180639288113397923326191050713763565560762521606266177933534601628614656 * c7) :
    a * b = c0 + 18446744073709551616 * c1 + 340282366920938463463374607431768211456 * c2 + 6277101735386680763835789423207666416102355444464034512896 * c3 + 115792089237316195423570985008687907853269984665640564039457584007913129639936 * (c4 + 18446744073709551616 * c5 + 340282366920938463463374607431768211456 * c6 + 6277101735386680763835789423207666416102355444464034512896 * c7) := by
  subst ha hb
  simp only [Int.add_mul, Int.mul_add, Int.mul_assoc] at h ⊢
  have e : ∀ (x y : Int) (k : Int), x * (k * y) = k * (x * y) := fun x y k => Int.mul_left_comm x k y
  simp only [e a0, e a1, e a2, e a3] at h ⊢
  omega
set_option maxRecDepth 100000 in
theorem ok_Mul : ∀ a b, Owes Try.prog cxMul2 [] 100 Try.f82 [sU a, sU b] (mulG a b) := by
  intro a b
  rw [vc_Mul]
  have hm := limb_mul a b
  have h01 : (0 : Int) ≤ 1 := by decide
  have hz : (0 : Int) ≤ 0 ∧ (0 : Int) < 18446744073709551616 := by decide
  have hl : ∀ n i, (0 : Int) ≤ limb n i ∧ limb n i < 18446744073709551616 := fun n i => ⟨limb_nonneg n i, limb_lt n i⟩
  intro x1 x2 x3 x4 x5 x6 x7 x8 x9 x10 x11 x12 x13 x14 x15 x16 x17 x18 x19 x20 x21 x22 x23 x24 x25 x26 x27 x28 x29 x30 x31 x32 x33 x34 x35 x36 x37 x38 x39 x40 x41 x42 x43 x44 x45 x46 x47 x48 x49 x50 x51 x52 x53 x54 x55 x56 x57 x58 x59 x60 x61 x62 x63 x64 x65 x66 x67 x68 x69 x70 x71 x72 x73 x74 x75 x76 x77 x78 x79 x80 x81 x82 x83 x84 x85 x86 x87 x88 x89 x90 x91 x92 x93 x94 x95 x96 x97 x98 x99 x100 x101 x102 x103 x104 x105 x106 x107 x108 x109 x110 x111 x112
  obtain ⟨f0_0, p0_0, r0_0⟩ : x1 + 0 + 0 = x104 + 18446744073709551616 * x8 ∧ (0 ≤ x104 ∧ x104 < 18446744073709551616) ∧ (0 ≤ x8 ∧ x8 < 18446744073709551616) := mac x1 0 0 (hm 0 0) hz hz
  obtain ⟨f0_1, p0_1, r0_1⟩ : x5 + x8 + 0 = x25 + 18446744073709551616 * x14 ∧ (0 ≤ x25 ∧ x25 < 18446744073709551616) ∧ (0 ≤ x14 ∧ x14 < 18446744073709551616) := mac x5 x8 0 (hm 0 1) r0_0 hz
  obtain ⟨f0_2, p0_2, r0_2⟩ : x11 + x14 + 0 = x32 + 18446744073709551616 * x20 ∧ (0 ≤ x32 ∧ x32 < 18446744073709551616) ∧ (0 ≤ x20 ∧ x20 < 18446744073709551616) := mac x11 x14 0 (hm 0 2) r0_1 hz
  obtain ⟨f0_3, p0_3, r0_3⟩ : x17 + x20 + 0 = x40 + 18446744073709551616 * x47 ∧ (0 ≤ x40 ∧ x40 < 18446744073709551616) ∧ (0 ≤ x47 ∧ x47 < 18446744073709551616) := mac x17 x20 0 (hm 0 3) r0_2 hz
  obtain ⟨f1_0, p1_0, r1_0⟩ : x23 + 0 + x25 = x105 + 18446744073709551616 * x31 ∧ (0 ≤ x105 ∧ x105 < 18446744073709551616) ∧ (0 ≤ x31 ∧ x31 < 18446744073709551616) := mac x23 0 x25 (hm 1 0) hz p0_1
  obtain ⟨f1_1, p1_1, r1_1⟩ : x28 + x31 + x32 = x52 + 18446744073709551616 * x38 ∧ (0 ≤ x52 ∧ x52 < 18446744073709551616) ∧ (0 ≤ x38 ∧ x38 < 18446744073709551616) := mac x28 x31 x32 (hm 1 1) r1_0 p0_2
  obtain ⟨f1_2, p1_2, r1_2⟩ : x35 + x38 + x40 = x59 + 18446744073709551616 * x46 ∧ (0 ≤ x59 ∧ x59 < 18446744073709551616) ∧ (0 ≤ x46 ∧ x46 < 18446744073709551616) := mac x35 x38 x40 (hm 1 2) r1_1 p0_3
  obtain ⟨f1_3, p1_3, r1_3⟩ : x43 + x46 + x47 = x67 + 18446744073709551616 * x74 ∧ (0 ≤ x67 ∧ x67 < 18446744073709551616) ∧ (0 ≤ x74 ∧ x74 < 18446744073709551616) := mac x43 x46 x47 (hm 1 3) r1_2 r0_3
  obtain ⟨f2_0, p2_0, r2_0⟩ : x50 + 0 + x52 = x106 + 18446744073709551616 * x58 ∧ (0 ≤ x106 ∧ x106 < 18446744073709551616) ∧ (0 ≤ x58 ∧ x58 < 18446744073709551616) := mac x50 0 x52 (hm 2 0) hz p1_1
  obtain ⟨f2_1, p2_1, r2_1⟩ : x55 + x58 + x59 = x79 + 18446744073709551616 * x65 ∧ (0 ≤ x79 ∧ x79 < 18446744073709551616) ∧ (0 ≤ x65 ∧ x65 < 18446744073709551616) := mac x55 x58 x59 (hm 2 1) r2_0 p1_2
  obtain ⟨f2_2, p2_2, r2_2⟩ : x62 + x65 + x67 = x86 + 18446744073709551616 * x73 ∧ (0 ≤ x86 ∧ x86 < 18446744073709551616) ∧ (0 ≤ x73 ∧ x73 < 18446744073709551616) := mac x62 x65 x67 (hm 2 2) r2_1 p1_3
  obtain ⟨f2_3, p2_3, r2_3⟩ : x70 + x73 + x74 = x94 + 18446744073709551616 * x101 ∧ (0 ≤ x94 ∧ x94 < 18446744073709551616) ∧ (0 ≤ x101 ∧ x101 < 18446744073709551616) := mac x70 x73 x74 (hm 2 3) r2_2 r1_3
  obtain ⟨f3_0, p3_0, r3_0⟩ : x77 + 0 + x79 = x107 + 18446744073709551616 * x85 ∧ (0 ≤ x107 ∧ x107 < 18446744073709551616) ∧ (0 ≤ x85 ∧ x85 < 18446744073709551616) := mac x77 0 x79 (hm 3 0) hz p2_1
  obtain ⟨f3_1, p3_1, r3_1⟩ : x82 + x85 + x86 = x108 + 18446744073709551616 * x92 ∧ (0 ≤ x108 ∧ x108 < 18446744073709551616) ∧ (0 ≤ x92 ∧ x92 < 18446744073709551616) := mac x82 x85 x86 (hm 3 1) r3_0 p2_2
  obtain ⟨f3_2, p3_2, r3_2⟩ : x89 + x92 + x94 = x109 + 18446744073709551616 * x100 ∧ (0 ≤ x109 ∧ x109 < 18446744073709551616) ∧ (0 ≤ x100 ∧ x100 < 18446744073709551616) := mac x89 x92 x94 (hm 3 2) r3_1 p2_3
  obtain ⟨f3_3, p3_3, r3_3⟩ : x97 + x100 + x101 = x111 + 18446744073709551616 * x112 ∧ (0 ≤ x111 ∧ x111 < 18446744073709551616) ∧ (0 ≤ x112 ∧ x112 < 18446744073709551616) := mac x97 x100 x101 (hm 3 3) r3_2 r2_3
  have n_x2 : 0 ≤ x2 := Int.emod_nonneg _ (by decide)
  have n_x4 : 0 ≤ x4 := Int.emod_nonneg _ (by decide)
  have n_x6 : 0 ≤ x6 := Int.emod_nonneg _ (by decide)
  have n_x10 : 0 ≤ x10 := Int.emod_nonneg _ (by decide)
  have n_x12 : 0 ≤ x12 := Int.emod_nonneg _ (by decide)
  have n_x16 : 0 ≤ x16 := Int.emod_nonneg _ (by decide)
  have n_x18 : 0 ≤ x18 := Int.emod_nonneg _ (by decide)
  have n_x22 : 0 ≤ x22 := Int.emod_nonneg _ (by decide)
  have n_x24 : 0 ≤ x24 := Int.emod_nonneg _ (by decide)
  have n_x25 : 0 ≤ x25 := Int.emod_nonneg _ (by decide)
  have n_x27 : 0 ≤ x27 := Int.emod_nonneg _ (by decide)
  have n_x29 : 0 ≤ x29 := Int.emod_nonneg _ (by decide)
  have n_x32 : 0 ≤ x32 := Int.emod_nonneg _ (by decide)
  have n_x34 : 0 ≤ x34 := Int.emod_nonneg _ (by decide)
  have n_x36 : 0 ≤ x36 := Int.emod_nonneg _ (by decide)
  have n_x40 : 0 ≤ x40 := Int.emod_nonneg _ (by decide)
  have n_x42 : 0 ≤ x42 := Int.emod_nonneg _ (by decide)
  have n_x44 : 0 ≤ x44 := Int.emod_nonneg _ (by decide)
  have n_x49 : 0 ≤ x49 := Int.emod_nonneg _ (by decide)
  have n_x51 : 0 ≤ x51 := Int.emod_nonneg _ (by decide)
  have n_x52 : 0 ≤ x52 := Int.emod_nonneg _ (by decide)
  have n_x54 : 0 ≤ x54 := Int.emod_nonneg _ (by decide)
  have n_x56 : 0 ≤ x56 := Int.emod_nonneg _ (by decide)
  have n_x59 : 0 ≤ x59 := Int.emod_nonneg _ (by decide)
  have n_x61 : 0 ≤ x61 := Int.emod_nonneg _ (by decide)
  have n_x63 : 0 ≤ x63 := Int.emod_nonneg _ (by decide)
  have n_x67 : 0 ≤ x67 := Int.emod_nonneg _ (by decide)
  have n_x69 : 0 ≤ x69 := Int.emod_nonneg _ (by decide)
  have n_x71 : 0 ≤ x71 := Int.emod_nonneg _ (by decide)
  have n_x76 : 0 ≤ x76 := Int.emod_nonneg _ (by decide)
  have n_x78 : 0 ≤ x78 := Int.emod_nonneg _ (by decide)
  have n_x79 : 0 ≤ x79 := Int.emod_nonneg _ (by decide)
  have n_x81 : 0 ≤ x81 := Int.emod_nonneg _ (by decide)
  have n_x83 : 0 ≤ x83 := Int.emod_nonneg _ (by decide)
  have n_x86 : 0 ≤ x86 := Int.emod_nonneg _ (by decide)
  have n_x88 : 0 ≤ x88 := Int.emod_nonneg _ (by decide)
  have n_x90 : 0 ≤ x90 := Int.emod_nonneg _ (by decide)
  have n_x94 : 0 ≤ x94 := Int.emod_nonneg _ (by decide)
  have n_x96 : 0 ≤ x96 := Int.emod_nonneg _ (by decide)
  have n_x98 : 0 ≤ x98 := Int.emod_nonneg _ (by decide)
  have n_x103 : 0 ≤ x103 := Int.emod_nonneg _ (by decide)
  have n_x104 : 0 ≤ x104 := Int.emod_nonneg _ (by decide)
  have n_x105 : 0 ≤ x105 := Int.emod_nonneg _ (by decide)
  have n_x106 : 0 ≤ x106 := Int.emod_nonneg _ (by decide)
  have n_x107 : 0 ≤ x107 := Int.emod_nonneg _ (by decide)
  have n_x108 : 0 ≤ x108 := Int.emod_nonneg _ (by decide)
  have n_x109 : 0 ≤ x109 := Int.emod_nonneg _ (by decide)
  have n_x111 : 0 ≤ x111 := Int.emod_nonneg _ (by decide)
  have g0_0 : limb a 0 * limb b 0 = x1 := rfl
  have g0_1 : limb a 0 * limb b 1 = x5 := rfl
  have g0_2 : limb a 0 * limb b 2 = x11 := rfl
  have g0_3 : limb a 0 * limb b 3 = x17 := rfl
  have g1_0 : limb a 1 * limb b 0 = x23 := rfl
  have g1_1 : limb a 1 * limb b 1 = x28 := rfl
  have g1_2 : limb a 1 * limb b 2 = x35 := rfl
  have g1_3 : limb a 1 * limb b 3 = x43 := rfl
  have g2_0 : limb a 2 * limb b 0 = x50 := rfl
  have g2_1 : limb a 2 * limb b 1 = x55 := rfl
  have g2_2 : limb a 2 * limb b 2 = x62 := rfl
  have g2_3 : limb a 2 * limb b 3 = x70 := rfl
  have g3_0 : limb a 3 * limb b 0 = x77 := rfl
  have g3_1 : limb a 3 * limb b 1 = x82 := rfl
  have g3_2 : limb a 3 * limb b 2 = x89 := rfl
  have g3_3 : limb a 3 * limb b 3 = x97 := rfl
  clear_value x112 x111 x110 x109 x108 x107 x106 x105 x104 x103 x102 x101 x100 x99 x98 x97 x96 x95 x94 x93 x92 x91 x90 x89 x88 x87 x86 x85 x84 x83 x82 x81 x80 x79 x78 x77 x76 x75 x74 x73 x72 x71 x70 x69 x68 x67 x66 x65 x64 x63 x62 x61 x60 x59 x58 x57 x56 x55 x54 x53 x52 x51 x50 x49 x48 x47 x46 x45 x44 x43 x42 x41 x40 x39 x38 x37 x36 x35 x34 x33 x32 x31 x30 x29 x28 x27 x26 x25 x24 x23 x22 x21 x20 x19 x18 x17 x16 x15 x14 x13 x12 x11 x10 x9 x8 x7 x6 x5 x4 x3 x2 x1
  have hw := mul_weigh ((a % M256 : Nat) : Int) ((b % M256 : Nat) : Int) x104 x105 x106 x107 x108 x109 x111 x112 (limb a 0) (limb a 1) (limb a 2) (limb a 3) (limb b 0) (limb b 1) (limb b 2) (limb b 3) (limbs_int a) (limbs_int b)
    (by rw [g0_0, g0_1, g0_2, g0_3, g1_0, g1_1, g1_2, g1_3, g2_0, g2_1, g2_2, g2_3, g3_0, g3_1, g3_2, g3_3]; clear hm hl n_x2 n_x4 n_x6 n_x10 n_x12 n_x16 n_x18 n_x22 n_x24 n_x25 n_x27 n_x29 n_x32 n_x34 n_x36 n_x40 n_x42 n_x44 n_x49 n_x51 n_x52 n_x54 n_x56 n_x59 n_x61 n_x63 n_x67 n_x69 n_x71 n_x76 n_x78 n_x79 n_x81 n_x83 n_x86 n_x88 n_x90 n_x94 n_x96 n_x98 n_x103 n_x104 n_x105 n_x106 n_x107 n_x108 n_x109 n_x111; omega)
  obtain ⟨q1, q2⟩ := mul_fin a b x104 x105 x106 x107 x108 x109 x111 x112 p0_0 p1_0 p2_0 p3_0 p3_1 p3_2 p3_3 r3_3 hw
  have o_x8 := r0_0.1
  have o_x14 := r0_1.1
  have o_x20 := r0_2.1
  have o_x47 := r0_3.1
  have o_x31 := r1_0.1
  have o_x38 := r1_1.1
  have o_x46 := r1_2.1
  have o_x74 := r1_3.1
  have o_x58 := r2_0.1
  have o_x65 := r2_1.1
  have o_x73 := r2_2.1
  have o_x101 := r2_3.1
  have o_x85 := r3_0.1
  have o_x92 := r3_1.1
  have o_x100 := r3_2.1
  have o_x112 := r3_3.1
  exact ⟨⟨(limb_nonneg _ _), (limb_lt _ _)⟩, ⟨(limb_nonneg _ _), (limb_lt _ _)⟩, n_x2, hz.1, ⟨hz.1, h01⟩, hz.1, n_x4, ⟨hz.1, h01⟩, ⟨(limb_nonneg _ _), (limb_lt _ _)⟩, ⟨(limb_nonneg _ _), (limb_lt _ _)⟩, n_x6, r0_0.1, ⟨hz.1, h01⟩, hz.1, n_x10, ⟨hz.1, h01⟩, ⟨(limb_nonneg _ _), (limb_lt _ _)⟩, ⟨(limb_nonneg _ _), (limb_lt _ _)⟩, n_x12, r0_1.1, ⟨hz.1, h01⟩, hz.1, n_x16, ⟨hz.1, h01⟩, ⟨(limb_nonneg _ _), (limb_lt _ _)⟩, ⟨(limb_nonneg _ _), (limb_lt _ _)⟩, n_x18, r0_2.1, ⟨hz.1, h01⟩, hz.1, n_x22, ⟨hz.1, h01⟩, ⟨(limb_nonneg _ _), (limb_lt _ _)⟩, ⟨(limb_nonneg _ _), (limb_lt _ _)⟩, n_x24, hz.1, ⟨hz.1, h01⟩, p0_1.1, n_x27, ⟨hz.1, h01⟩, ⟨(limb_nonneg _ _), (limb_lt _ _)⟩, ⟨(limb_nonneg _ _), (limb_lt _ _)⟩, n_x29, r1_0.1, ⟨hz.1, h01⟩, p0_2.1, n_x34, ⟨hz.1, h01⟩, ⟨(limb_nonneg _ _), (limb_lt _ _)⟩, ⟨(limb_nonneg _ _), (limb_lt _ _)⟩, n_x36, r1_1.1, ⟨hz.1, h01⟩, p0_3.1, n_x42, ⟨hz.1, h01⟩, ⟨(limb_nonneg _ _), (limb_lt _ _)⟩, ⟨(limb_nonneg _ _), (limb_lt _ _)⟩, n_x44, r1_2.1, ⟨hz.1, h01⟩, r0_3.1, n_x49, ⟨hz.1, h01⟩, ⟨(limb_nonneg _ _), (limb_lt _ _)⟩, ⟨(limb_nonneg _ _), (limb_lt _ _)⟩, n_x51, hz.1, ⟨hz.1, h01⟩, p1_1.1, n_x54, ⟨hz.1, h01⟩, ⟨(limb_nonneg _ _), (limb_lt _ _)⟩, ⟨(limb_nonneg _ _), (limb_lt _ _)⟩, n_x56, r2_0.1, ⟨hz.1, h01⟩, p1_2.1, n_x61, ⟨hz.1, h01⟩, ⟨(limb_nonneg _ _), (limb_lt _ _)⟩, ⟨(limb_nonneg _ _), (limb_lt _ _)⟩, n_x63, r2_1.1, ⟨hz.1, h01⟩, p1_3.1, n_x69, ⟨hz.1, h01⟩, ⟨(limb_nonneg _ _), (limb_lt _ _)⟩, ⟨(limb_nonneg _ _), (limb_lt _ _)⟩, n_x71, r2_2.1, ⟨hz.1, h01⟩, r1_3.1, n_x76, ⟨hz.1, h01⟩, ⟨(limb_nonneg _ _), (limb_lt _ _)⟩, ⟨(limb_nonneg _ _), (limb_lt _ _)⟩, n_x78, hz.1, ⟨hz.1, h01⟩, p2_1.1, n_x81, ⟨hz.1, h01⟩, ⟨(limb_nonneg _ _), (limb_lt _ _)⟩, ⟨(limb_nonneg _ _), (limb_lt _ _)⟩, n_x83, r3_0.1, ⟨hz.1, h01⟩, p2_2.1, n_x88, ⟨hz.1, h01⟩, ⟨(limb_nonneg _ _), (limb_lt _ _)⟩, ⟨(limb_nonneg _ _), (limb_lt _ _)⟩, n_x90, r3_1.1, ⟨hz.1, h01⟩, p2_3.1, n_x96, ⟨hz.1, h01⟩, ⟨(limb_nonneg _ _), (limb_lt _ _)⟩, ⟨(limb_nonneg _ _), (limb_lt _ _)⟩, n_x98, r3_2.1, ⟨hz.1, h01⟩, r2_3.1, n_x103, ⟨hz.1, h01⟩, ⟨⟨p0_0.1, p0_0.2⟩, ⟨p1_0.1, p1_0.2⟩, ⟨p2_0.1, p2_0.2⟩, ⟨p3_0.1, p3_0.2⟩, q1, trivial⟩, ⟨p3_1.1, p3_1.2⟩, ⟨p3_2.1, p3_2.2⟩, ⟨p3_3.1, p3_3.2⟩, ⟨r3_3.1, r3_3.2⟩, q2, trivial⟩
end Go.Proofs.Yteimeidpcgebkaa
end

section
namespace Go.Proofs.Yteimeidpcgebkaa
open Go.Sx
theorem times_step (l n c : Nat) (hl : l < 18446744073709551616) (hn : n < 18446744073709551616) (hc : c < 18446744073709551616) :
    ∃ s d : Nat, ((l : Int) * n % 18446744073709551616 + c + 0) % 18446744073709551616 = s ∧ IntKind.u64.wrap ((l : Int) * n / 18446744073709551616 + ((l : Int) * n % 18446744073709551616 + c + 0) / 18446744073709551616) = d ∧
      s < 18446744073709551616 ∧ d < 18446744073709551616 ∧ l * n + c = s + 18446744073709551616 * d := by
  have hm : l * n ≤ 18446744073709551615 * 18446744073709551615 := Nat.mul_le_mul (by omega) (by omega)
  have e : (l : Int) * n = ((l * n : Nat) : Int) := (Int.natCast_mul l n).symm
  rw [e]
  generalize l * n = g at *
  refine ⟨(g + c) % 18446744073709551616, (g + c) / 18446744073709551616, by omega, ?_, by omega, by omega, by omega⟩
  rw [wrap_id (by omega)]
  omega
theorem ok_times : ∀ a n, 0 ≤ n ∧ n < 18446744073709551616 → Owes Try.prog cxTimes2 [] 100 Try.f87 [sU a, sI .u64 n] (timesG a n) := by
  intro a n hn
  rw [vc_times]
  obtain ⟨q, rfl⟩ := Int.eq_ofNat_of_zero_le hn.1
  have hq : q < 18446744073709551616 := by omega
  intro x1 x2 x3 x4 x5 x6 x7 x8 x9 x10 x11 x12 x13 x14 x15 x16 x17 x18 x19
  obtain ⟨a0, a1, a2, a3, e0, e1, e2, e3, h0, h1, h2, h3, ha⟩ := split4 a
  obtain ⟨s0, d0, p0, q0, r0, t0, w0⟩ := times_step a0 q 0 h0 hq (by omega)
  obtain ⟨s1, d1, p1, q1, r1, t1, w1⟩ := times_step a1 q d0 h1 hq t0
  obtain ⟨s2, d2, p2, q2, r2, t2, w2⟩ := times_step a2 q d1 h2 hq t1
  obtain ⟨s3, d3, p3, q3, r3, t3, w3⟩ := times_step a3 q d2 h3 hq t2
  have m15 : x15 = s0 := by simp only [x15, x5, x2, x1, e0]; exact p0
  have m6 : x6 = d0 := by simp only [x6, x5, x2, x1, e0]; exact q0
  have m17 : x16 = s1 := by simp only [x16, x9, x4, x3, m6, e1]; exact p1
  have m10 : x10 = d1 := by simp only [x10, x9, x4, x3, m6, e1]; exact q1
  have m18 : x17 = s2 := by simp only [x17, x13, x8, x7, m10, e2]; exact p2
  have m14 : x14 = d2 := by simp only [x14, x13, x8, x7, m10, e2]; exact q2
  have m20 : x19 = s3 := by simp only [x19, x18, x12, x11, m14, e3]; exact p3
  have m21 : IntKind.u64.wrap (x11 / 18446744073709551616 + x18 / 18446744073709551616) = d3 := by simp only [x18, x12, x11, m14, e3]; exact q3
  have n2 : 0 ≤ x2 := Int.emod_nonneg _ (by decide)
  have n4 : 0 ≤ x4 := Int.emod_nonneg _ (by decide)
  have n8 : 0 ≤ x8 := Int.emod_nonneg _ (by decide)
  have n12 : 0 ≤ x12 := Int.emod_nonneg _ (by decide)
  clear_value x19 x18 x17 x16 x15 x14 x13 x12 x11 x10 x9 x8 x7 x6 x5 x4 x3 x2 x1
  have key : a % M256 * q = s0 + 18446744073709551616 * s1 + 340282366920938463463374607431768211456 * s2 + 6277101735386680763835789423207666416102355444464034512896 * s3 + M256 * d3 := by
    have e : a % M256 * q = a0 * q + 18446744073709551616 * (a1 * q) + 340282366920938463463374607431768211456 * (a2 * q) + 6277101735386680763835789423207666416102355444464034512896 * (a3 * q) := by
      rw [ha, Nat.add_mul, Nat.add_mul, Nat.add_mul, Nat.mul_assoc, Nat.mul_assoc, Nat.mul_assoc]
    rw [e, M256_eq]
    generalize a0 * q = g0 at *
    generalize a1 * q = g1 at *
    generalize a2 * q = g2 at *
    generalize a3 * q = g3 at *
    omega
  have hlt : s0 + 18446744073709551616 * s1 + 340282366920938463463374607431768211456 * s2 + 6277101735386680763835789423207666416102355444464034512896 * s3 < M256 := by
    rw [M256_eq]; omega
  have hmod : a * q % M256 = (a % M256 * q) % M256 := by rw [Nat.mod_mul_mod]
  rw [m21, m15, m17, m18, m20, m6, m10, m14, e0, e1, e2, e3]
  simp only [Int.toNat_natCast]
  refine ⟨by omega, by omega, n2, by omega, by omega, by omega, by omega, n4, by omega, by omega, by omega, by omega, n8, by omega, by omega, by omega, by omega, n12, by omega, by omega, ⟨by omega, by omega, by omega, by omega, ?_, trivial⟩, ?_⟩
  · rw [hmod, key, Nat.add_mul_mod_self_left]
    rfl
  · rw [key, Nat.add_mul_div_left _ _ (by rw [M256_eq]; decide), Nat.div_eq_of_lt hlt, Nat.zero_add]
end Go.Proofs.Yteimeidpcgebkaa
end
