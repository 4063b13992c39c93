/-
  Texts: Sx14, Dgs, DgA, V60.
-/
import Derived.Test.YtjpddnjgbgpegaaM1
import Derived.Test.YtjpddnjgbgpegaaM2
import Derived.Test.YtjpddnjgbgpegaaM3
import Derived.Test.YtjpddnjgbgpegaaM4
import Derived.Test.YtjpddnjgbgpegaaM5
import Derived.Test.YtjpddnjgbgpegaaM6
import Derived.Test.YtjpddnjgbgpegaaM7
import Derived.Test.YtjpddnjgbgpegaaM8
import Derived.Test.YtjpddnjgbgpegaaM9
import Derived.Test.YtjpddnjgbgpegaaM10
import Derived.Test.YtjpddnjgbgpegaaProg
section
namespace Go.Sx
open Go.RowKit
inductive RK where
  | k (x : SK)
  | s (n w : Nat) (g : Nat → Nat → SC)
inductive RS where
  | v (x : SA)
  | s (n : Nat) (k : IntKind) (g : Nat → Int)
  | rows (n wd : Nat) (g : Nat → Nat → SC)
  | st (ks : List RK)
structure SSpec where
  share : Bool
  of : List SA → Option (List Prop × List RS)
def xsI (a : Option Addr) (n cap : Nat) (k : IntKind) (g : Nat → Int) : SA := .sc (.xs a n cap 1 fun i _ => .val (.int k (g i)))
def answersK : List RK → (List SK → Prop) → Prop
  | [], K => K []
  | .k x :: r, K => answersK r fun l => K (x :: l)
  | .s n w g :: r, K => ∀ (a : Option Addr) (cap : Nat), (a = none → n = 0 ∧ cap = 0) → n ≤ cap → answersK r fun l => K (.c (.xs a n cap w g) :: l)
def answers : List RS → (List SA → Prop) → Prop
  | [], K => K []
  | .v x :: r, K => answers r fun l => K (x :: l)
  | .s n k g :: r, K => ∀ (a : Option Addr) (cap : Nat), (a = none → n = 0 ∧ cap = 0) → n ≤ cap → answers r fun l => K (xsI a n cap k g :: l)
  | .rows n wd g :: r, K => ∀ (a : Option Addr) (cap : Nat), (a = none → n = 0 ∧ cap = 0) → n ≤ cap → answers r fun l => K (.sc (.xs a n cap wd g) :: l)
  | .st ks :: r, K => answersK ks fun l => answers r fun l' => K (.agg l :: l')
def isSl (w : World) (far : Nat → Prop) (n wd : Nat) (g : Nat → Nat → SC) (y : Value) : Prop :=
  ∃ a cap, y = .slice a n cap ∧ (a = none → n = 0 ∧ cap = 0) ∧ n ≤ cap ∧ ∀ b, a = some b → b.spot = none ∧ ∀ i, i < n → ∀ c, c < wd → ((g i c).bnd none0 ∧ (g i c).fit = true) ∧ far b.block ∧ w.cell? ⟨b.block, b.off + (i * wd + c), none⟩ = some ((g i c).conc Rho.nil)
def isG (w : World) (far : Nat → Prop) : List RK → List Value → Prop
  | [], vs => vs = []
  | .k x :: r, vs => ∃ vs', vs = concs Rho.nil [x] ++ vs' ∧ x.bnd none0 ∧ isG w far r vs'
  | .s n wd g :: r, vs => ∃ v vs', vs = v :: vs' ∧ isSl w far n wd g v ∧ isG w far r vs'
def RS.is (w : World) (far : Nat → Prop) : RS → Value → Prop
  | .v x, y => y = x.conc Rho.nil ∧ x.bnd none0
  | .s n k g, y => ∃ a cap, y = .slice a n cap ∧ (a = none → n = 0 ∧ cap = 0) ∧ n ≤ cap ∧ ∀ b, a = some b → b.spot = none ∧ ∀ i, i < n → far b.block ∧ w.cell? ⟨b.block, b.off + i, none⟩ = some (.int k (g i))
  | .rows n wd g, y => isSl w far n wd g y
  | .st ks, y => ∃ vs : List Value, y = .agg vs.toArray ∧ isG w far ks vs
def RS.isL (w : World) (far : Nat → Prop) : List RS → List Value → Prop
  | [], [] => True
  | r :: rs, y :: ys => r.is w far y ∧ RS.isL w far rs ys
  | _, _ => False
def valL : List Value → Value
  | [v] => v
  | vs => .tuple vs.toArray
def FnOKs (P : Program) (gl : Globs) (f : Nat) (s : SSpec) : Prop :=
  ∀ args ps rs, s.of args = some (ps, rs) → Ok ps → ∀ (ρ : Rho) (w : World), FzOK ρ.fz w → GlobsOK gl ρ.fz → (∀ x ∈ args, x.bnd ⟨fun _ => True, ρ.fz⟩) →
    (callFunc f (args.map (SA.conc ρ)).toArray).run P w = .ok (.enter f (args.map (SA.conc ρ)).toArray) w ∧
      Calls P f (args.map (SA.conc ρ)).toArray w fun e w' => ∃ vs, e = .returned (valL vs) ∧ RS.isL w' (fun b => w.heap.size ≤ b ∨ (s.share = true ∧ ∃ o u, ρ.fz b o u)) rs vs ∧ Below w.heap.size w w'
def getSS : List (Nat × SSpec) → Nat → Option SSpec
  | [], _ => none
  | (g, s) :: r, f => match Nat.beq g f with
    | true => some s
    | false => getSS r f
theorem getSS_ok {P : Program} {gl : Globs} : ∀ {l : List (Nat × SSpec)} {f : Nat} {s : SSpec}, (∀ p ∈ l, FnOKs P gl p.1 p.2) → getSS l f = some s → FnOKs P gl f s
  | [], _, _, _, h => by simp [getSS] at h
  | (g, s') :: r, f, s, hc, h => by
    simp only [getSS] at h
    split at h
    · rename_i hg
      simp only [Option.some.injEq] at h; subst h
      have : g = f := Nat.eq_of_beq_eq_true hg
      subst this
      exact hc (g, s') (by simp)
    · exact getSS_ok (fun p hp => hc p (by simp [hp])) h
def lentK (ob : List SO) : List SK → (List SK → Prop) → Prop
  | [], K => K []
  | .c (.slw o w off len cap) :: r, K => match ob[o]? with
    | some (.row _ w' n g _) => match Nat.beq w w' with
      | true => ands [off + len ≤ n, len ≤ cap] (∀ a : Addr, lentK ob r fun l => K (.c (.xs (some a) len cap w (fun i c => g (off + i) c)) :: l))
      | false => StuckAt "lent"
    | _ => StuckAt "lent"
  | k :: r, K => lentK ob r fun l => K (k :: l)
def lent (ob : List SO) : List SA → (List SA → Prop) → Prop
  | [], K => K []
  | .sc (.sl o off len cap) :: r, K => match ob[o]? with
    | some (.cells _ ks _) => match sub ks off len with
      | some cs => match kindHead cs with
        | some k => match kindAll k cs with
          | true => ands [len ≤ cap] (∀ a : Addr, lent ob r fun l => K (xsI (some a) len cap k (selG cs) :: l))
          | false => StuckAt "lent"
        | none => StuckAt "lent"
      | none => StuckAt "lent"
    | _ => StuckAt "lent"
  | .sc (.slw o w off len cap) :: r, K => match ob[o]? with
    | some (.row _ w' n g _) => match Nat.beq w w' with
      | true => ands [off + len ≤ n, len ≤ cap] (∀ a : Addr, lent ob r fun l => K (.sc (.xs (some a) len cap w (fun i c => g (off + i) c)) :: l))
      | false => StuckAt "lent"
    | _ => StuckAt "lent"
  | .agg ks :: r, K => lentK ob ks fun ks' => lent ob r fun l => K (.agg ks' :: l)
  | x :: r, K => lent ob r fun l => K (x :: l)
def inlS (sl : List (Nat × SSpec)) (inner : Inl) : Inl := fun f args ob k =>
  match getSS sl f with
  | none => inner f args ob k
  | some s => match s.share with
    | false => lent ob args fun args' => match s.of args' with
      | some (ps, rs) => ands ps (answers rs fun l => k (resV l) ob)
      | none => StuckAt "card"
    | true => match frzOf args with
      | none => match s.of args with
        | some (ps, rs) => ands ps (answers rs fun l => k (resV l) ob)
        | none => StuckAt "card"
      | some (pre, o, off, len, cap, post) => match ob[o]? with
        | some (.cells _ ks _) => match sub ks off len with
          | some cs => match kindHead cs with
            | some kd => match kindAll kd cs && (ob.set o .dead).all (obB (liveB (ob.set o .dead))) with
              | true => ands [len ≤ cap] (∀ a : Addr, match s.of (pre ++ xsI (some a) len cap kd (selG cs) :: post) with
                | some (ps, rs) => ands ps (answers rs fun l => k (resV l) (ob.set o .dead))
                | none => StuckAt "card")
              | false => StuckAt "taken"
            | none => StuckAt "taken"
          | none => StuckAt "taken"
        | _ => StuckAt "taken"
section
variable {P : Program} {W0 : Base} {ρ : Rho} {tm : List SV} {ob : List SO} {a : Act} {w : World}
theorem valL_conc (ρ : Rho) (l : List SA) : (resV l).rep ρ (valL (l.map (SA.conc ρ))) := by
  match l with
  | [] => rfl
  | [x] => rfl
  | x :: y :: r => rfl
theorem resV_bnd {n : Env} {l : List SA} (h : ∀ x ∈ l, x.bnd n) : (resV l).bnd n := by
  match l, h with
  | [], _ => exact fun x hx => by cases hx
  | [x], h => exact h x (by simp)
  | x :: y :: r, h => exact h
theorem isSl.far {w : World} {p q : Nat → Prop} (h : ∀ b, p b → q b) {n wd : Nat} {g : Nat → Nat → SC} {y : Value} : isSl w p n wd g y → isSl w q n wd g y :=
  fun ⟨a, c, e, h1, h2, h3⟩ => ⟨a, c, e, h1, h2, fun b hb => ⟨(h3 b hb).1, fun i hi c hc => ⟨((h3 b hb).2 i hi c hc).1, h _ ((h3 b hb).2 i hi c hc).2.1, ((h3 b hb).2 i hi c hc).2.2⟩⟩⟩
theorem isG.far {w : World} {p q : Nat → Prop} (h : ∀ b, p b → q b) : ∀ {ks : List RK} {vs : List Value}, isG w p ks vs → isG w q ks vs
  | [], _, k => k
  | .k _ :: _, _, ⟨vs', e, hb, k⟩ => ⟨vs', e, hb, isG.far h k⟩
  | .s _ _ _ :: _, _, ⟨v, vs', e, hs, k⟩ => ⟨v, vs', e, hs.far h, isG.far h k⟩
theorem RS.is.far {w : World} {p q : Nat → Prop} (h : ∀ b, p b → q b) : ∀ {r : RS} {y : Value}, r.is w p y → r.is w q y
  | .v _, _, k => k
  | .s _ _ _, _, ⟨a, c, e, h1, h2, h3⟩ => ⟨a, c, e, h1, h2, fun b hb => ⟨(h3 b hb).1, fun i hi => ⟨h _ ((h3 b hb).2 i hi).1, ((h3 b hb).2 i hi).2⟩⟩⟩
  | .rows _ _ _, _, k => isSl.far h k
  | .st _, _, ⟨vs, e, k⟩ => ⟨vs, e, k.far h⟩
theorem RS.isL.far {w : World} {p q : Nat → Prop} : ∀ {rs : List RS} {ys : List Value}, RS.isL w p rs ys → (∀ b, p b → q b) → RS.isL w q rs ys
  | [], [], _, _ => trivial
  | _ :: _, _ :: _, k, h => ⟨k.1.far h, RS.isL.far k.2 h⟩
  | [], _ :: _, k, _ => by exact k.elim
  | _ :: _, [], k, _ => by exact k.elim
theorem isSl.bnd {w : World} {far : Nat → Prop} {n wd : Nat} {g : Nat → Nat → SC} {a : Option Addr} {cap : Nat} (h1 : a = none → n = 0 ∧ cap = 0) (h2 : n ≤ cap)
    (h3 : ∀ b, a = some b → b.spot = none ∧ ∀ i, i < n → ∀ c, c < wd → ((g i c).bnd none0 ∧ (g i c).fit = true) ∧ far b.block ∧ w.cell? ⟨b.block, b.off + (i * wd + c), none⟩ = some ((g i c).conc Rho.nil))
    (fz : Nat → Nat → Value → Prop) (hz : ∀ b o v, far b → w.cell? ⟨b, o, none⟩ = some v → fz b o v) : (SC.xs a n cap wd g).bnd ⟨fun _ => False, fz⟩ :=
  ⟨h1, h2, fun b hb => ⟨(h3 b hb).1, fun i hi c hc => by
    obtain ⟨⟨q1, q2⟩, q3, q4⟩ := (h3 b hb).2 i hi c hc
    exact ⟨SC.bnd_mono none0_le q1, q2, hz _ _ _ q3 q4⟩⟩⟩
theorem answersK_pick {w : World} {far : Nat → Prop} : ∀ {ks : List RK} {vs : List Value} {K : List SK → Prop}, answersK ks K → isG w far ks vs → ∃ l, K l ∧ (∀ ρ : Rho, concs ρ l = vs) ∧
    ∀ fz : Nat → Nat → Value → Prop, (∀ b o v, far b → w.cell? ⟨b, o, none⟩ = some v → fz b o v) → ∀ x ∈ l, x.bnd ⟨fun _ => False, fz⟩
  | [], _, K, h, hv => ⟨[], h, fun _ => by rw [show _ = [] from hv]; rfl, fun _ _ x hx => by cases hx⟩
  | .k x :: r, vs, K, h, hv => by
    obtain ⟨vs', rfl, hb, hr⟩ := hv
    obtain ⟨l, k1, k2, k3⟩ := answersK_pick (K := fun l => K (x :: l)) h hr
    refine ⟨x :: l, k1, fun ρ => ?_, fun fz hz y hy => ?_⟩
    · rw [concs_cons ρ x l, k2 ρ, Agree.sks (n := none0) (ρ := Rho.nil) (ρ' := ρ) (fun _ hi => hi.elim) (fun c hc => by rw [List.mem_singleton.1 hc]; exact hb)]
    · rcases List.mem_cons.1 hy with rfl | hy
      · exact SK.bnd_mono none0_le hb
      · exact k3 fz hz y hy
  | .s n wd g :: r, vs, K, h, hv => by
    obtain ⟨v, vs', rfl, ⟨ad, cap, e, h1, h2, h3⟩, hr⟩ := hv
    obtain ⟨l, k1, k2, k3⟩ := answersK_pick (K := fun l => K (.c (.xs ad n cap wd g) :: l)) (h ad cap h1 h2) hr
    refine ⟨.c (.xs ad n cap wd g) :: l, k1, fun ρ => ?_, fun fz hz y hy => ?_⟩
    · rw [concs_cons ρ _ l, k2 ρ, e]; rfl
    · rcases List.mem_cons.1 hy with rfl | hy
      · exact isSl.bnd h1 h2 h3 fz hz
      · exact k3 fz hz y hy
theorem answers_pick {w : World} {far : Nat → Prop} : ∀ {rs : List RS} {vs : List Value} {K : List SA → Prop}, answers rs K → RS.isL w far rs vs → ∃ l, K l ∧ (∀ ρ : Rho, l.map (SA.conc ρ) = vs) ∧
    ∀ fz : Nat → Nat → Value → Prop, (∀ b o v, far b → w.cell? ⟨b, o, none⟩ = some v → fz b o v) → ∀ x ∈ l, x.bnd ⟨fun _ => False, fz⟩
  | [], [], K, h, _ => ⟨[], h, fun _ => rfl, fun _ _ x hx => by cases hx⟩
  | .v x :: r, v :: vs, K, h, hv => by
    obtain ⟨⟨e, hb⟩, hr⟩ := hv
    obtain ⟨l, k1, k2, k3⟩ := answers_pick (K := fun l => K (x :: l)) h hr
    refine ⟨x :: l, k1, fun ρ => ?_, fun fz hz y hy => ?_⟩
    · rw [List.map_cons, k2 ρ, e, Agree.sa (n := none0) (ρ := Rho.nil) (ρ' := ρ) (fun _ hi => hi.elim) hb]
    · rcases List.mem_cons.1 hy with rfl | hy
      · exact SA.bnd_mono none0_le hb
      · exact k3 fz hz y hy
  | .s n k g :: r, v :: vs, K, h, hv => by
    obtain ⟨⟨ad, cap, e, h1, h2, h3⟩, hr⟩ := hv
    obtain ⟨l, k1, k2, k3⟩ := answers_pick (K := fun l => K (xsI ad n cap k g :: l)) (h ad cap h1 h2) hr
    refine ⟨xsI ad n cap k g :: l, k1, fun ρ => ?_, fun fz hz y hy => ?_⟩
    · rw [List.map_cons, k2 ρ, e]; rfl
    · rcases List.mem_cons.1 hy with rfl | hy
      · refine ⟨h1, h2, fun b hb => ⟨(h3 b hb).1, fun i hi c hc => ⟨trivial, rfl, ?_⟩⟩⟩
        have hc0 : c = 0 := by omega
        subst hc0
        have := (h3 b hb).2 i hi
        rw [Nat.mul_one, Nat.add_zero]
        exact hz _ _ _ this.1 this.2
      · exact k3 fz hz y hy
  | .rows n wd g :: r, v :: vs, K, h, hv => by
    obtain ⟨⟨ad, cap, e, h1, h2, h3⟩, hr⟩ := hv
    obtain ⟨l, k1, k2, k3⟩ := answers_pick (K := fun l => K (.sc (.xs ad n cap wd g) :: l)) (h ad cap h1 h2) hr
    refine ⟨.sc (.xs ad n cap wd g) :: l, k1, fun ρ => ?_, fun fz hz y hy => ?_⟩
    · rw [List.map_cons, k2 ρ, e]; rfl
    · rcases List.mem_cons.1 hy with rfl | hy
      · exact isSl.bnd h1 h2 h3 fz hz
      · exact k3 fz hz y hy
  | .st ks :: r, v :: vs, K, h, hv => by
    obtain ⟨⟨us, e, hg⟩, hr⟩ := hv
    obtain ⟨l1, h', e1, b1⟩ := answersK_pick (K := fun l => answers r fun l' => K (.agg l :: l')) h hg
    obtain ⟨l, k1, k2, k3⟩ := answers_pick (K := fun l => K (.agg l1 :: l)) h' hr
    refine ⟨.agg l1 :: l, k1, fun ρ => ?_, fun fz hz y hy => ?_⟩
    · rw [List.map_cons, k2 ρ, e]; simp only [SA.conc, e1]
    · rcases List.mem_cons.1 hy with rfl | hy
      · exact b1 fz hz
      · exact k3 fz hz y hy
  | [], _ :: _, _, _, hv => by exact hv.elim
  | .v _ :: _, [], _, _, hv => by exact hv.elim
  | .s _ _ _ :: _, [], _, _, hv => by exact hv.elim
  | .rows _ _ _ :: _, [], _, _, hv => by exact hv.elim
  | .st _ :: _, [], _, _, hv => by exact hv.elim
abbrev seenEnv (w : World) : Env := ⟨fun _ => True, fun b o v => w.cell? ⟨b, o, none⟩ = some v⟩
theorem lent_row (H : Holds W0 ρ tm ob a w) {o : Nat} {e' : TypeId} {w1 n sp off len cap : Nat} {g : Nat → Nat → SC} (hob : ob[o]? = some (.row e' w1 n g sp)) (hol : off + len ≤ n) (hlc : len ≤ cap) :
    (SC.xs (some ⟨ρ o, off * w1, none⟩) len cap w1 fun i c => g (off + i) c).bnd (seenEnv w) := by
  have hle : Env.le (lv ρ ob) (seenEnv w) := ⟨fun _ _ => trivial, fun b o v hv => (H.mem.frz b o v hv).1⟩
  obtain ⟨_, ⟨rest, _, hrow⟩, hok⟩ := H.mem.rows hob
  refine ⟨fun e => (by cases e), hlc, fun bb hbb => ?_⟩
  simp only [Option.some.injEq] at hbb
  subst hbb
  refine ⟨rfl, fun i hi c hc => ?_⟩
  obtain ⟨q1, q2⟩ := hok (off + i) (by omega) c hc
  refine ⟨SC.bnd_mono (n := (lv ρ ob).bare) (m := (seenEnv w).bare) ⟨fun _ x => x, hle.fz⟩ q1, q2, ?_⟩
  have hg := rowc_get (w := w1) (n := n) (g := g) (i := off + i) (c := c) (by omega) hc
  have hlt : (off + i) * w1 + c < n * w1 := by
    have : (off + i + 1) * w1 ≤ n * w1 := Nat.mul_le_mul_right _ (by omega)
    rw [Nat.add_mul, Nat.one_mul] at this
    omega
  simp only [World.cell?, hrow]
  rw [show off * w1 + (i * w1 + c) = (off + i) * w1 + c by rw [Nat.add_mul]; omega, List.getElem?_toArray, List.getElem?_append_left (by rw [rowc_length]; exact hlt)]
  exact hg
theorem lentK_sound (H : Holds W0 ρ tm ob a w) : ∀ {ks : List SK} {K : List SK → Prop}, (∀ k ∈ ks, k.bnd (lv ρ ob)) → lentK ob ks K → ∃ l, K l ∧ concs ρ l = concs ρ ks ∧ ∀ k ∈ l, k.bnd (seenEnv w)
  | [], K, _, h => ⟨[], h, rfl, fun x hx => by cases hx⟩
  | x :: r, K, hb, h => by
    have hle : Env.le (lv ρ ob) (seenEnv w) := ⟨fun _ _ => trivial, fun b o v hv => (H.mem.frz b o v hv).1⟩
    have hr : ∀ y ∈ r, y.bnd (lv ρ ob) := fun y hy => hb y (by simp [hy])
    unfold lentK at h
    split at h
    · rename_i heq; cases heq
    · rename_i o w1 off len cap r' heq
      simp only [List.cons.injEq] at heq
      obtain ⟨rfl, rfl⟩ := heq
      split at h
      case h_2 => exact h.no
      rename_i e' w2 n g sp hob
      split at h
      case h_2 => exact h.no
      rename_i hw
      have hw1 := Nat.eq_of_beq_eq_true hw
      subst hw1
      obtain ⟨⟨hol, hlc, _⟩, h⟩ := ands_iff.1 h
      obtain ⟨l, k1, k2, k3⟩ := lentK_sound H hr (h ⟨ρ o, off * w1, none⟩)
      refine ⟨_, k1, by rw [concs_cons, concs_cons ρ (.c (.slw o w1 off len cap)), k2]; rfl, fun y hy => ?_⟩
      rcases List.mem_cons.1 hy with rfl | hy
      · exact lent_row H hob hol hlc
      · exact k3 y hy
    · rename_i y r' K' _ heq
      simp only [List.cons.injEq] at heq
      obtain ⟨rfl, rfl⟩ := heq
      obtain ⟨l, k1, k2, k3⟩ := lentK_sound H hr h
      refine ⟨_, k1, by rw [concs_cons ρ x l, concs_cons ρ x r, k2], fun y hy => ?_⟩
      rcases List.mem_cons.1 hy with rfl | hy
      · exact SK.bnd_mono hle (hb y (by simp))
      · exact k3 y hy
theorem lent_sound (H : Holds W0 ρ tm ob a w) : ∀ {args : List SA} {K : List SA → Prop}, (∀ x ∈ args, x.bnd (lv ρ ob)) → lent ob args K → ∃ l, K l ∧ l.map (SA.conc ρ) = args.map (SA.conc ρ) ∧ ∀ x ∈ l, x.bnd ⟨fun _ => True, fun b o v => w.cell? ⟨b, o, none⟩ = some v⟩
  | [], K, _, h => ⟨[], h, rfl, fun x hx => by cases hx⟩
  | x :: r, K, hb, h => by
    have hle : Env.le (lv ρ ob) ⟨fun _ => True, fun b o v => w.cell? ⟨b, o, none⟩ = some v⟩ := ⟨fun _ _ => trivial, fun b o v hv => (H.mem.frz b o v hv).1⟩
    have hr : ∀ y ∈ r, y.bnd (lv ρ ob) := fun y hy => hb y (by simp [hy])
    unfold lent at h
    split at h
    · rename_i heq; cases heq
    · rename_i o off len cap r' heq
      simp only [List.cons.injEq] at heq
      obtain ⟨rfl, rfl⟩ := heq
      split at h
      case h_2 => exact h.no
      rename_i e' ks sp hob
      split at h
      case h_2 => exact h.no
      rename_i cs hcs
      split at h
      case h_2 => exact h.no
      rename_i k hk
      split at h
      case h_2 => exact h.no
      rename_i hka
      obtain ⟨⟨hlc, _⟩, h⟩ := ands_iff.1 h
      obtain ⟨_, ⟨rest, _, hrow⟩, _⟩ := H.mem.obj o e' ks sp hob
      obtain ⟨l, k1, k2, k3⟩ := lent_sound H hr (h ⟨ρ o, off, none⟩)
      refine ⟨_, k1, by rw [List.map_cons, List.map_cons, k2]; rfl, fun y hy => ?_⟩
      rcases List.mem_cons.1 hy with rfl | hy
      · refine ⟨fun e => (by cases e), hlc, fun bb hbb => ?_⟩
        simp only [Option.some.injEq] at hbb
        subst hbb
        refine ⟨rfl, fun i hi c hc => ⟨trivial, rfl, ?_⟩⟩
        have hc0 : c = 0 := by omega
        subst hc0
        obtain ⟨l1, l2⟩ := concs_sub hcs ρ
        have hlen : (flat cs).length = len := by
          obtain ⟨a, b⟩ := sub_flat hcs
          rw [b]; simp; omega
        have := selG_conc hka ρ (j := i) (by omega)
        rw [l2, List.getElem?_take, if_pos hi, List.getElem?_drop] at this
        simp only [World.cell?, hrow, Nat.mul_one, Nat.add_zero]
        rw [List.getElem?_toArray, List.getElem?_append_left (List.getElem?_eq_some_iff.1 this).1]
        exact this
      · exact k3 y hy
    · rename_i o w1 off len cap r' heq
      simp only [List.cons.injEq] at heq
      obtain ⟨rfl, rfl⟩ := heq
      split at h
      case h_2 => exact h.no
      rename_i e' w2 n g sp hob
      split at h
      case h_2 => exact h.no
      rename_i hw
      have hw1 := Nat.eq_of_beq_eq_true hw
      subst hw1
      obtain ⟨⟨hol, hlc, _⟩, h⟩ := ands_iff.1 h
      obtain ⟨l, k1, k2, k3⟩ := lent_sound H hr (h ⟨ρ o, off * w1, none⟩)
      refine ⟨_, k1, by rw [List.map_cons, List.map_cons, k2]; rfl, fun y hy => ?_⟩
      rcases List.mem_cons.1 hy with rfl | hy
      · exact lent_row H hob hol hlc
      · exact k3 y hy
    · rename_i ks r' heq
      simp only [List.cons.injEq] at heq
      obtain ⟨rfl, rfl⟩ := heq
      obtain ⟨ks', h', e1, e2⟩ := lentK_sound H (hb (.agg ks) (by simp)) h
      obtain ⟨l, k1, k2, k3⟩ := lent_sound H hr h'
      refine ⟨_, k1, by rw [List.map_cons, List.map_cons, k2]; simp only [SA.conc, e1], fun y hy => ?_⟩
      rcases List.mem_cons.1 hy with rfl | hy
      · exact e2
      · exact k3 y hy
    · rename_i y r' K' _ _ _ heq
      simp only [List.cons.injEq] at heq
      obtain ⟨rfl, rfl⟩ := heq
      obtain ⟨l, k1, k2, k3⟩ := lent_sound H hr h
      refine ⟨_, k1, by rw [List.map_cons, List.map_cons, k2], fun y hy => ?_⟩
      rcases List.mem_cons.1 hy with rfl | hy
      · exact SA.bnd_mono hle (hb y (by simp))
      · exact k3 y hy
theorem shared (H : Holds W0 ρ tm ob a w) {w' : World} (hbl : Below w.heap.size w w') {sh : Prop} {rs : List RS} {vs : List Value} {k : SV → List SO → Prop} (h : answers rs fun l => k (resV l) ob) (hvs : RS.isL w' (fun b => w.heap.size ≤ b ∨ (sh ∧ ∃ o u, ρ.fz b o u)) rs vs) :
    ∃ ρ' sv, k sv ob ∧ sv.rep ρ' (valL vs) ∧ sv.bnd (lv ρ' ob) ∧ Holds W0 ρ' tm ob a w' := by
  obtain ⟨xs, hk, hx1, hx2⟩ := answers_pick h hvs
  have hlt : ∀ i, live ob i → ρ i < w.heap.size := by
    rintro i ⟨x, hi, hx⟩
    obtain ⟨_, ⟨_, _, h2⟩, _⟩ := H.mem.objs i x hi hx
    exact heap_lt h2
  have H1 := (H.world hbl).frozen (fun b o v => (w.heap.size ≤ b ∨ (sh ∧ ∃ o u, ρ.fz b o u)) ∧ w'.cell? ⟨b, o, none⟩ = some v)
    (fun b o v hF => ⟨hF.2, fun i hi => by
      rcases hF.1 with hb | ⟨_, o, u, hf⟩
      · have := hlt i hi; omega
      · exact (H.mem.frz b o u hf).2 i hi⟩)
    (fun b o v hF => by
      rcases hF.1 with hb | ⟨_, hf⟩
      · exact .inr (Nat.le_trans H.below.size hb)
      · exact .inl hf)
  refine ⟨⟨ρ.pos, _⟩, _, hk, ?_, ?_, H1⟩
  · rw [← hx1 ⟨ρ.pos, _⟩]
    exact valL_conc _ xs
  · have hle : Env.le ⟨fun _ => False, fun b o v => ρ.fz b o v ∨ (w.heap.size ≤ b ∨ sh ∧ ∃ o u, ρ.fz b o u) ∧ w'.cell? ⟨b, o, none⟩ = some v⟩ (lv ⟨ρ.pos, fun b o v => ρ.fz b o v ∨ (w.heap.size ≤ b ∨ sh ∧ ∃ o u, ρ.fz b o u) ∧ w'.cell? ⟨b, o, none⟩ = some v⟩ ob) := ⟨fun _ h => h.elim, fun _ _ _ h => h⟩
    exact resV_bnd fun x hx => SA.bnd_mono hle (hx2 _ (fun b o v hf hc => .inr ⟨hf, hc⟩) x hx)
end
theorem inlS_ok {P : Program} {gl : Globs} {sl : List (Nat × SSpec)} (hsl : ∀ p ∈ sl, FnOKs P gl p.1 p.2) {inner : Inl} (hin : InlOK P gl inner) : InlOK P gl (inlS sl inner) := by
  intro f args ob k h Z ρ tm a w hz H hargs
  unfold inlS at h
  split at h
  · exact hin f args ob k h hz H hargs
  rename_i s hs
  have hfn := getSS_ok hsl hs
  split at h
  · -- lent
    rename_i hsh
    obtain ⟨l, hl, e1, b1⟩ := lent_sound H hargs h
    split at hl
    case h_2 => exact hl.no
    rename_i ps rs hof
    obtain ⟨hp, hl⟩ := ands_iff.1 hl
    have hle : Env.le (lv ρ ob) ⟨fun _ => True, fun b o v => w.cell? ⟨b, o, none⟩ = some v⟩ := ⟨fun _ _ => trivial, fun b o v hv => (H.mem.frz b o v hv).1⟩
    have hgl : GlobsOK gl fun b o v => w.cell? ⟨b, o, none⟩ = some v := by
      rw [← hz]
      intro p hp
      obtain ⟨g1, g2⟩ := H.gl p hp
      exact ⟨fun k hk => SK.bnd_mono (n := ⟨fun _ => False, ρ.fz⟩) (m := ⟨fun _ => False, fun b o v => w.cell? ⟨b, o, none⟩ = some v⟩) ⟨fun _ x => x, hle.fz⟩ (g1 k hk), fun o v h => hle.fz _ _ _ (g2 o v h)⟩
    obtain ⟨r, hc⟩ := hfn l ps rs hof hp ⟨ρ.pos, fun b o v => w.cell? ⟨b, o, none⟩ = some v⟩ w (fun _ _ _ h => h) hgl b1
    have hpos : l.map (SA.conc ⟨ρ.pos, fun b o v => w.cell? ⟨b, o, none⟩ = some v⟩) = args.map (SA.conc ρ) := by
      rw [← e1]; exact List.map_congr_left fun x _ => conc_pos x
    rw [hpos] at r hc
    refine ⟨r, hc.mono ?_⟩
    rintro e w' ⟨vs, rfl, hvs, hbl⟩
    have hvs' : RS.isL w' (fun b => w.heap.size ≤ b ∨ (False ∧ ∃ o u, ρ.fz b o u)) rs vs := hvs.far fun b hb => by
      rcases hb with hb | ⟨hb, _⟩
      · exact .inl hb
      · rw [hsh] at hb; cases hb
    obtain ⟨ρ', sv, q1, q2, q3, q4⟩ := shared H hbl hl hvs'
    exact ⟨_, rfl, ρ', sv, ob, q1, q2, q3, q4.scrubbed⟩
  · split at h
    · -- nothing of one's own
      split at h
      case h_2 => exact h.no
      rename_i ps rs hof
      obtain ⟨hp, h⟩ := ands_iff.1 h
      obtain ⟨r, hc⟩ := hfn args ps rs hof hp ρ w (fun b o v hv => (H.mem.frz b o v hv).1) (hz ▸ H.gl) (fun x hx => SA.bnd_mono lv_all (hargs x hx))
      refine ⟨r, hc.mono ?_⟩
      rintro e w' ⟨vs, rfl, hvs, hbl⟩
      obtain ⟨ρ', sv, q1, q2, q3, q4⟩ := shared H hbl h hvs
      exact ⟨_, rfl, ρ', sv, ob, q1, q2, q3, q4.scrubbed⟩
    · rename_i pre o off len cap post hfz
      split at h
      case h_2 => exact h.no
      rename_i e' ks sp hob
      split at h
      case h_2 => exact h.no
      rename_i cs hcs
      split at h
      case h_2 => exact h.no
      rename_i kd hkd
      split at h
      case h_2 => exact h.no
      rename_i hkb
      simp only [Bool.and_eq_true] at hkb
      obtain ⟨⟨hlc, _⟩, h⟩ := ands_iff.1 h
      have hys := frzOf_spec hfz
      obtain ⟨_, ⟨rest, _, hrow⟩, _⟩ := H.mem.obj o e' ks sp hob
      have hgb : w.grownBy w (some (ρ o)) := ⟨rfl, rfl, rfl, Nat.le_refl _, fun _ _ _ => rfl⟩
      have H1 := (H.killed hob rfl hgb hkb.2).frozen (fun bl c v => bl = ρ o ∧ (concs ρ ks ++ rest)[c]? = some v) (fun bl c v hF => by
        obtain ⟨rfl, hv⟩ := hF
        refine ⟨by simp only [World.cell?, hrow]; simpa using hv, fun i hi => ?_⟩
        obtain ⟨q1, q2⟩ := live_dead.1 hi
        exact fun e => q2 (H.mem.injs _ _ q1 (live_cells hob) e)) (fun bl c v hF => by rw [hF.1]; exact .inr (H.mem.objs _ _ hob rfl).1)
      have h := h ⟨ρ o, off, none⟩
      split at h
      case h_2 => exact h.no
      rename_i ps rs hof
      obtain ⟨hp, h⟩ := ands_iff.1 h
      have hle : Env.le (lv ρ ob) ⟨fun _ => True, fun bl c v => ρ.fz bl c v ∨ (bl = ρ o ∧ (concs ρ ks ++ rest)[c]? = some v)⟩ := ⟨fun _ _ => trivial, fun _ _ _ x => .inl x⟩
      have hxs : (xsI (some ⟨ρ o, off, none⟩) len cap kd (selG cs)).bnd ⟨fun _ => True, fun bl c v => ρ.fz bl c v ∨ (bl = ρ o ∧ (concs ρ ks ++ rest)[c]? = some v)⟩ := by
        refine ⟨fun e => (by cases e), hlc, fun bb hb => ?_⟩
        simp only [Option.some.injEq] at hb
        subst hb
        refine ⟨rfl, fun i hi c hc => ⟨trivial, rfl, .inr ⟨rfl, ?_⟩⟩⟩
        have hc0 : c = 0 := by omega
        subst hc0
        obtain ⟨l1, l2⟩ := concs_sub hcs ρ
        have hlen : (flat cs).length = len := by
          obtain ⟨a, b⟩ := sub_flat hcs
          rw [b]; simp; omega
        have := selG_conc hkb.1 ρ (j := i) (by omega)
        rw [l2, List.getElem?_take, if_pos hi, List.getElem?_drop] at this
        rw [Nat.mul_one, Nat.add_zero, List.getElem?_append_left (List.getElem?_eq_some_iff.1 this).1]
        exact this
      have hall : ∀ x ∈ pre ++ xsI (some ⟨ρ o, off, none⟩) len cap kd (selG cs) :: post, x.bnd ⟨fun _ => True, fun bl c v => ρ.fz bl c v ∨ (bl = ρ o ∧ (concs ρ ks ++ rest)[c]? = some v)⟩ := by
        intro x hx
        have old : ∀ y ∈ args, y.bnd ⟨fun _ => True, fun bl c v => ρ.fz bl c v ∨ (bl = ρ o ∧ (concs ρ ks ++ rest)[c]? = some v)⟩ := fun y hy => SA.bnd_mono hle (hargs y hy)
        rw [hys] at old
        rcases List.mem_append.1 hx with hx | hx
        · exact old x (by simp [hx])
        · rcases List.mem_cons.1 hx with rfl | hx
          · exact hxs
          · exact old x (by simp [hx])
      have hconc : (pre ++ xsI (some ⟨ρ o, off, none⟩) len cap kd (selG cs) :: post).map (SA.conc ⟨ρ.pos, fun bl c v => ρ.fz bl c v ∨ (bl = ρ o ∧ (concs ρ ks ++ rest)[c]? = some v)⟩) = args.map (SA.conc ρ) := by
        rw [List.map_congr_left (fun x _ => conc_pos x), hys]
        simp only [List.map_append, List.map_cons]
        rfl
      obtain ⟨r, hc⟩ := hfn _ ps rs hof hp ⟨ρ.pos, fun bl c v => ρ.fz bl c v ∨ (bl = ρ o ∧ (concs ρ ks ++ rest)[c]? = some v)⟩ w (fun b c v hv => (H1.mem.frz b c v hv).1) (hz ▸ H1.gl) hall
      rw [hconc] at r hc
      refine ⟨r, hc.mono ?_⟩
      rintro e w' ⟨vs, rfl, hvs, hbl⟩
      obtain ⟨ρ', sv, q1, q2, q3, q4⟩ := shared H1 hbl h hvs
      exact ⟨_, rfl, ρ', sv, _, q1, q2, q3, q4⟩
section
variable {P : Program} {W0 : Base} {ρ : Rho} {tm : List SV} {ob : List SO} {a : Act} {w : World}
def inlX (P : Program) (cx : Cx) (sl : List (Nat × SSpec)) (dr : Drawn) (iv : List (Nat × Hint)) (N : Nat) : Nat → Inl
  | 0 => inlS sl noInl
  | d + 1 => inlS sl fun f args ob k =>
    match P.funcs[f]? with
    | some fn =>
      match fn.body, fn.name == "runtime.NumGoroutine" with
      | some c, false => sx P { cx with kn := ob.length } (inlX P cx sl dr iv N d) dr iv N ((f + 1) * 100000) ob.length c (slots0 args fn.ntmps) ob (ret P fn.results.toList k)
      | _, _ => StuckAt "no text"
    | none => StuckAt "no function"
theorem inlX_ok {cx : Cx} (hcx : CxOK P cx) {sl : List (Nat × SSpec)} (hsl : ∀ p ∈ sl, FnOKs P cx.gl p.1 p.2) {dr : Drawn} (hdr : DrawnOK P cx dr) (iv : List (Nat × Hint)) (N : Nat) : ∀ d, InlOK P cx.gl (inlX P cx sl dr iv N d)
  | 0 => inlS_ok hsl (noInl_ok P cx.gl)
  | d + 1 => by
    refine inlS_ok hsl ?_
    intro f args ob k h Z ρ tm a w hz H hargs
    split at h
    case h_2 => exact h.no
    rename_i fn hf
    split at h
    case h_2 => exact h.no
    rename_i c hb hn
    refine ⟨run_callFunc_enter hf (by rw [hb]; rfl) hn _ w, ?_⟩
    refine calls_of_sx (cx := { cx with kn := ob.length }) hcx (inlX_ok hcx hsl hdr iv N d) hdr iv N _ hf hb args ρ hargs w H.below H.mem (by rw [← hz]; exact H.gl) (Nat.le_refl _) H.keeps k (fun sv ob' ρ' v w' hk hr hbd hB hm hkp hfz hkk => ?_) h
    refine ⟨v, rfl, ρ', sv, ob', hk, hr, hbd, H.onto (fun i hi hi' => ?_) hfz.le hfz.own hB hm ⟨fun i hi => ?_, fun i hi => hkp.2.1 i (H.kept.2.1 i hi), Nat.le_trans H.kept.2.2 hkp.2.2⟩ hkk⟩
    · rcases hkp.1 i hi with ⟨_, e⟩ | e
      · exact e
      · obtain ⟨_, h', hh⟩ := hi'; rw [e] at h'; cases h'; cases hh
    · rcases H.kept.1 i hi with ⟨k1, k2⟩ | k1
      · rcases hkp.1 i k1 with ⟨q1, q2⟩ | q
        · exact .inl ⟨q1, Eq.trans q2 k2⟩
        · exact .inr q
      · exact .inr (hkp.2.1 i k1)
def isInt (k : IntKind) (n : Int) (s : SC) : Prop :=
  match asI (.sc s) with
  | some (k', m) => if k' = k then m = n else False
  | none => False
theorem isInt_sound {k : IntKind} {n : Int} {s : SC} (h : isInt k n s) (ρ : Rho) : s.conc ρ = .int k n := by
  unfold isInt at h
  split at h
  · rename_i k' m hm
    split at h
    · rename_i e
      subst e
      subst h
      exact asI_sound hm ρ
    · exact h.elim
  · exact h.elim
def okS (sh : Bool) (ob : List SO) (n wd : Nat) (g : Nat → Nat → SC) : SC → Prop
  | .val (.slice none 0 0) => n = 0
  | .slw o w off len cap => match ob[o]? with
    | some (.row _ w' m h _) => match Nat.beq w wd && Nat.beq w' wd with
      | true => ands [off + len ≤ m, len = n, len ≤ cap] (∀ i, i < n → allC wd fun c => simC (h (off + i) c) (g i c))
      | false => StuckAt "row"
    | _ => StuckAt "row"
  | .xs _ len _ w h => match sh, Nat.beq w wd with
    | true, true => ands [len = n] (∀ i, i < n → allC wd fun c => simC (h i c) (g i c))
    | _, _ => StuckAt "shared"
  | _ => StuckAt "result"
def okK (sh : Bool) (ob : List SO) : List RK → List SK → Prop
  | [], [] => True
  | .k x :: r, y :: r' => match grab (y :: r') x.cells.length, seek (y :: r') x.cells.length with
    | some a, some b => ands [sameK a [x]] (okK sh ob r b)
    | _, _ => StuckAt "parts"
  | .s n wd g :: r, .c y :: r' => okS sh ob n wd g y ∧ okK sh ob r r'
  | _, _ => StuckAt "parts"
def okR (sh : Bool) (ob : List SO) : RS → SA → Prop
  | .v y, x => sameA x y
  | .s n k g, .sc x => match x with
    | .val (.slice none 0 0) => n = 0
    | .slw o w off len cap => match ob[o]? with
      | some (.row _ w' m h _) => match Nat.beq w 1 && Nat.beq w' 1 with
        | true => ands [off + len ≤ m, len = n, len ≤ cap] (∀ i, i < n → isInt k (g i) (h (off + i) 0))
        | false => StuckAt "row"
      | _ => StuckAt "row"
    | .sl o off len cap => match ob[o]? with
      | some (.cells _ ks _) => match sub ks off len with
        | some cs => match kindAll k cs with
          | true => ands [len = n, len ≤ cap] (∀ i, i < n → selG cs i = g i)
          | false => StuckAt "cells"
        | none => StuckAt "cells"
      | _ => StuckAt "cells"
    | .xs _ len _ w h => match sh, Nat.beq w 1 with
      | true, true => ands [len = n] (∀ i, i < n → isInt k (g i) (h i 0))
      | _, _ => StuckAt "shared"
    | _ => StuckAt "result"
  | .rows n wd g, .sc x => okS sh ob n wd g x
  | .st ks, .agg l => okK sh ob ks l
  | _, _ => StuckAt "result"
def okRL (sh : Bool) (ob : List SO) : List RS → List SA → Prop
  | [], [] => True
  | [r], [x] => okR sh ob r x
  | r :: rs, x :: xs => okR sh ob r x ∧ okRL sh ob rs xs
  | _, _ => False
def okRS (sh : Bool) (rs : List RS) (sv : SV) (ob : List SO) : Prop :=
  match sv with
  | .one x => okRL sh ob rs [x]
  | .tup [_] => False
  | .tup xs => okRL sh ob rs xs
  | _ => False
def closedG (n wd : Nat) (g : Nat → Nat → SC) : Prop := ∀ i, i < n → ∀ c, c < wd → (g i c).bnd none0 ∧ (g i c).fit = true
def RK.closed : RK → Prop
  | .k x => x.bnd none0
  | .s n wd g => closedG n wd g
def RS.closed : RS → Prop
  | .v x => x.bnd none0
  | .s _ _ _ => True
  | .rows n wd g => closedG n wd g
  | .st ks => ∀ k ∈ ks, k.closed
theorem okS_sound {B : Nat} {F : Nat → Nat → Value → Prop} {ob : List SO} (hm : Mem B ρ ob w) (hf : ∀ b o v, ρ.fz b o v → (∃ o u, F b o u) ∨ B ≤ b) {sh : Bool} {n wd : Nat} {g : Nat → Nat → SC} {x : SC} (hr : closedG n wd g) (hx : x.bnd (lv ρ ob)) (h : okS sh ob n wd g x) :
    isSl w (fun b => B ≤ b ∨ (sh = true ∧ ∃ o u, F b o u)) n wd g (x.conc ρ) := by
  unfold okS at h
  split at h
  · subst h
    exact ⟨none, 0, rfl, fun _ => ⟨rfl, rfl⟩, Nat.le_refl _, fun b hb => by cases hb⟩
  · rename_i o w1 off len cap
    split at h
    case h_2 => exact h.no
    rename_i e' w2 m g' sp hob
    split at h
    case h_2 => exact h.no
    rename_i hw
    simp only [Bool.and_eq_true] at hw
    have hw1 := Nat.eq_of_beq_eq_true hw.1
    have hw2 := Nat.eq_of_beq_eq_true hw.2
    subst hw1
    subst hw2
    obtain ⟨⟨hol, hln, hlc, _⟩, h⟩ := ands_iff.1 h
    subst hln
    obtain ⟨hB, ⟨rest, _, hrow⟩, _⟩ := hm.rows hob
    refine ⟨some ⟨ρ o, off * w2, none⟩, cap, rfl, fun e => (by cases e), hlc, fun b hb => ?_⟩
    simp only [Option.some.injEq] at hb
    subst hb
    refine ⟨rfl, fun i hi c hc => ⟨hr i hi c hc, .inl hB, ?_⟩⟩
    have hg := rowc_get (w := w2) (n := m) (g := g') (i := off + i) (c := c) (by omega) hc
    have hlt : (off + i) * w2 + c < m * w2 := by
      have : (off + i + 1) * w2 ≤ m * w2 := Nat.mul_le_mul_right _ (by omega)
      rw [Nat.add_mul, Nat.one_mul] at this
      omega
    simp only [World.cell?, hrow]
    rw [show off * w2 + (i * w2 + c) = (off + i) * w2 + c by rw [Nat.add_mul]; omega, List.getElem?_toArray, List.getElem?_append_left (by rw [rowc_length]; exact hlt), ← simC_sound Rho.nil (allC_at (h i hi) c hc)]
    exact hg
  · rename_i ad len cap w1 h'
    split at h
    case h_2 => exact h.no
    rename_i hs hw
    have hw1 := Nat.eq_of_beq_eq_true hw
    subst hw1
    obtain ⟨⟨hln, _⟩, h⟩ := ands_iff.1 h
    subst hln
    obtain ⟨b1, b2, b3⟩ := hx
    refine ⟨ad, cap, rfl, b1, b2, fun b hb => ⟨(b3 b hb).1, fun i hi c hc => ?_⟩⟩
    obtain ⟨_, _, q⟩ := (b3 b hb).2 i hi c hc
    rw [simC_sound Rho.nil (allC_at (h i hi) c hc)] at q
    refine ⟨hr i hi c hc, ?_, (hm.frz _ _ _ q).1⟩
    rcases hf _ _ _ q with k | k
    · exact .inr ⟨rfl, k⟩
    · exact .inl k
  · exact h.no
theorem okK_sound {B : Nat} {F : Nat → Nat → Value → Prop} {ob : List SO} (hm : Mem B ρ ob w) (hf : ∀ b o v, ρ.fz b o v → (∃ o u, F b o u) ∨ B ≤ b) {sh : Bool} : ∀ {ks : List RK} {l : List SK}, (∀ k ∈ ks, k.closed) → (∀ x ∈ l, x.bnd (lv ρ ob)) → okK sh ob ks l →
    isG w (fun b => B ≤ b ∨ (sh = true ∧ ∃ o u, F b o u)) ks (concs ρ l)
  | [], [], _, _, _ => rfl
  | .k x :: r, y :: r', hk, hl, h => by
    unfold okK at h
    split at h
    case h_2 => exact h.no
    rename_i a b ha hb'
    obtain ⟨⟨h1, _⟩, h2⟩ := ands_iff.1 h
    have hb : x.bnd none0 := hk (.k x) (by simp)
    have hcat : concs ρ (y :: r') = concs ρ a ++ concs ρ b := by
      have e1 := (grab_flat _ _ ha).2
      have e2 := (seek_flat _ _ hb').2
      unfold concs
      rw [← List.map_append, e1, e2, List.take_append_drop]
    refine ⟨concs ρ b, ?_, hb, okK_sound hm hf (fun k h => hk k (by simp [h])) (bnd_flat.2 (mem_seek hb' (bnd_flat.1 hl))) h2⟩
    rw [hcat, sameK_sound ρ _ _ h1, Agree.sks (n := none0) (ρ := Rho.nil) (ρ' := ρ) (fun _ hi => hi.elim) (fun c hc => by rw [List.mem_singleton.1 hc]; exact hb)]
  | .s n wd g :: r, .c y :: r', hk, hl, h =>
    ⟨y.conc ρ, concs ρ r', by rw [concs_cons ρ _ r']; rfl, okS_sound hm hf (hk (.s n wd g) (by simp)) (hl (.c y) (by simp)) h.1, okK_sound hm hf (fun k h => hk k (by simp [h])) (fun x h => hl x (by simp [h])) h.2⟩
  | [], _ :: _, _, _, h | .k _ :: _, [], _, _, h | .s _ _ _ :: _, [], _, _, h | .s _ _ _ :: _, .u _ :: _, _, _, h | .s _ _ _ :: _, .f _ _ _ :: _, _, _, h => by unfold okK at h; exact h.no
theorem okR_sound {B : Nat} {F : Nat → Nat → Value → Prop} {ob : List SO} (hm : Mem B ρ ob w) (hf : ∀ b o v, ρ.fz b o v → (∃ o u, F b o u) ∨ B ≤ b) {sh : Bool} {r : RS} {x : SA} (hr : r.closed) (hx : x.bnd (lv ρ ob)) (h : okR sh ob r x) : r.is w (fun b => B ≤ b ∨ (sh = true ∧ ∃ o u, F b o u)) (x.conc ρ) := by
  cases r with
  | rows n wd g =>
    cases x with
    | sc x => exact okS_sound hm hf hr hx h
    | agg l => unfold okR at h; exact h.no
  | st ks =>
    cases x with
    | sc x => unfold okR at h; exact h.no
    | agg l => exact ⟨concs ρ l, rfl, okK_sound hm hf hr hx h⟩
  | v y => exact ⟨by rw [sameA_sound ρ h]; exact (Agree.sa (n := none0) (ρ := ρ) (ρ' := Rho.nil) (fun _ hi => hi.elim) hr).symm, hr⟩
  | s n k g =>
    unfold okR at h
    split at h
    · rename_i h1; cases h1
    · rename_i n' k' g' x heq
      simp only [RS.s.injEq] at heq
      obtain ⟨rfl, rfl, rfl⟩ := heq
      split at h
      · subst h
        exact ⟨none, 0, rfl, fun _ => ⟨rfl, rfl⟩, Nat.le_refl _, fun b hb => by cases hb⟩
      · rename_i o w1 off len cap
        split at h
        case h_2 => exact h.no
        rename_i e' w2 m g' sp hob
        split at h
        case h_2 => exact h.no
        rename_i hw
        simp only [Bool.and_eq_true] at hw
        have hw1 := Nat.eq_of_beq_eq_true hw.1
        have hw2 := Nat.eq_of_beq_eq_true hw.2
        subst hw1
        subst hw2
        obtain ⟨⟨hol, hln, hlc, _⟩, h⟩ := ands_iff.1 h
        subst hln
        obtain ⟨hB, ⟨rest, _, hrow⟩, hok⟩ := hm.rows hob
        refine ⟨some ⟨ρ o, off, none⟩, cap, by simp only [SA.conc, SC.conc, Nat.mul_one], fun e => (by cases e), hlc, fun b hb => ?_⟩
        simp only [Option.some.injEq] at hb
        subst hb
        refine ⟨rfl, fun i hi => ⟨.inl hB, ?_⟩⟩
        have hg := rowc_get (w := 1) (n := m) (g := g') (i := off + i) (c := 0) (by omega) (by omega)
        simp only [World.cell?, hrow]
        rw [List.getElem?_toArray, List.getElem?_append_left (by rw [rowc_length]; omega), show off + i = (off + i) * 1 + 0 by omega, hg, isInt_sound (h i hi)]
        rfl
      · rename_i o off len cap
        split at h
        case h_2 => exact h.no
        rename_i e' ks sp hob
        split at h
        case h_2 => exact h.no
        rename_i cs hcs
        split at h
        case h_2 => exact h.no
        rename_i hka
        obtain ⟨⟨hln, hlc, _⟩, h⟩ := ands_iff.1 h
        subst hln
        obtain ⟨hB, ⟨rest, _, hrow⟩, _⟩ := hm.obj o e' ks sp hob
        refine ⟨some ⟨ρ o, off, none⟩, cap, rfl, fun e => (by cases e), hlc, fun b hb => ?_⟩
        simp only [Option.some.injEq] at hb
        subst hb
        refine ⟨rfl, fun i hi => ⟨.inl hB, ?_⟩⟩
        obtain ⟨l1, l2⟩ := concs_sub hcs ρ
        have hlen : (flat cs).length = len := by
          obtain ⟨a, b⟩ := sub_flat hcs
          rw [b]; simp; omega
        have := selG_conc hka ρ (j := i) (by omega)
        rw [l2, List.getElem?_take, if_pos hi, List.getElem?_drop, h i hi] at this
        simp only [World.cell?, hrow]
        rw [List.getElem?_toArray, List.getElem?_append_left (List.getElem?_eq_some_iff.1 this).1]
        exact this
      · rename_i ad len cap w1 h'
        split at h
        case h_2 => exact h.no
        rename_i hs hw
        have hw1 := Nat.eq_of_beq_eq_true hw
        subst hw1
        obtain ⟨⟨hln, _⟩, h⟩ := ands_iff.1 h
        subst hln
        obtain ⟨b1, b2, b3⟩ := hx
        refine ⟨ad, cap, rfl, b1, b2, fun b hb => ⟨(b3 b hb).1, fun i hi => ?_⟩⟩
        obtain ⟨_, _, q⟩ := (b3 b hb).2 i hi 0 (by omega)
        rw [isInt_sound (h i hi), Nat.mul_one, Nat.add_zero] at q
        refine ⟨?_, (hm.frz _ _ _ q).1⟩
        rcases hf _ _ _ q with k | k
        · exact .inr ⟨rfl, k⟩
        · exact .inl k
      · exact h.no
    · rename_i h1; cases h1
    · rename_i h1; cases h1
    · exact h.no
theorem okRL_sound {B : Nat} {F : Nat → Nat → Value → Prop} {ob : List SO} (hm : Mem B ρ ob w) (hf : ∀ b o v, ρ.fz b o v → (∃ o u, F b o u) ∨ B ≤ b) {sh : Bool} : ∀ {rs : List RS} {xs : List SA}, (∀ r ∈ rs, r.closed) → (∀ x ∈ xs, x.bnd (lv ρ ob)) → okRL sh ob rs xs → RS.isL w (fun b => B ≤ b ∨ (sh = true ∧ ∃ o u, F b o u)) rs (xs.map (SA.conc ρ))
  | [], [], _, _, _ => trivial
  | [r], [x], hr, hx, h => ⟨okR_sound hm hf (hr r (by simp)) (hx x (by simp)) h, trivial⟩
  | r :: r2 :: rs, x :: xs, hr, hx, h => ⟨okR_sound hm hf (hr r (by simp)) (hx x (by simp)) h.1, okRL_sound hm hf (fun y hy => hr y (by simp [hy])) (fun y hy => hx y (by simp [hy])) h.2⟩
  | [r], x :: y :: xs, hr, hx, h => ⟨okR_sound hm hf (hr r (by simp)) (hx x (by simp)) h.1, by exact h.2.elim⟩
  | [], _ :: _, _, _, h => by exact h.elim
  | [_], [], _, _, h => by exact h.elim
  | _ :: _ :: _, [], _, _, h => by exact h.elim
def OwesS (P : Program) (cx : Cx) (sl : List (Nat × SSpec)) (iv : List (Nat × Hint)) (N : Nat) (fn : Func) (args : List SA) (post : SV → List SO → Prop) : Prop :=
  sx P cx (inlX P cx sl drawOK iv N 8) drawOK iv N 0 0 (fn.body.getD .skip) (slots0 args fn.ntmps) [] (ret P fn.results.toList post)
def OwesV (P : Program) (cx : Cx) (sl : List (Nat × SSpec)) (iv : List (Nat × Hint)) (N : Nat) (fn : Func) (args : List SA) (out : SV) : Prop :=
  OwesS P cx sl iv N fn args fun sv _ => same sv out
def OwesR (P : Program) (cx : Cx) (sl : List (Nat × SSpec)) (iv : List (Nat × Hint)) (N : Nat) (fn : Func) (args : List SA) (sh : Bool) (rs : List RS) : Prop :=
  OwesS P cx sl iv N fn args (okRS sh rs)
theorem calls_of_owesS {cx : Cx} (hcx : CxOK P cx) {sl : List (Nat × SSpec)} (hsl : ∀ p ∈ sl, FnOKs P cx.gl p.1 p.2) {iv : List (Nat × Hint)} {N : Nat} {f : FuncId} {fn : Func} (hf : P.funcs[f]? = some fn) (hb : fn.body.isSome = true) {args : List SA} {post : SV → List SO → Prop}
    (h : OwesS P cx sl iv N fn args post) (ρ : Rho) (w : World) (hz : FzOK ρ.fz w) (hg : GlobsOK cx.gl ρ.fz) (hargs : ∀ x ∈ args, x.bnd ⟨fun _ => False, ρ.fz⟩) :
    Calls P f (args.map (SA.conc ρ)).toArray w fun e w' => ∃ v, e = .returned v ∧ Below w.heap.size w w' ∧ ∃ sv ob' ρ', post sv ob' ∧ sv.rep ρ' v ∧ sv.bnd (lv ρ' ob') ∧ Mem w.heap.size ρ' ob' w' ∧ FzLe ⟨w, [], ρ, cx.gl, noKeep⟩ ρ' := by
  obtain ⟨c, hc⟩ := Option.isSome_iff_exists.1 hb
  unfold OwesS at h
  rw [hc] at h
  exact calls_of_sx hcx (inlX_ok hcx hsl (drawOK_ok hcx) iv N 8) (drawOK_ok hcx) iv N 0 hf hc (Z := w) (ob := []) args ρ (fun x hx => SA.bnd_mono (n := ⟨fun _ => False, ρ.fz⟩) (m := lv ρ []) ⟨fun _ k => k.elim, fun _ _ _ k => k⟩ (hargs x hx)) w (Below.refl _ _) (Mem.start hz) hg (Nat.zero_le _) (Keeps.none _ _ _) _
    (fun sv ob' ρ' v w' hp hr hbd hb hm _ hfz _ => ⟨v, rfl, hb, sv, ob', ρ', hp, hr, hbd, hm, hfz⟩) h
theorem FnOK_owesV {cx : Cx} (hcx : CxOK P cx) {sl : List (Nat × SSpec)} (hsl : ∀ p ∈ sl, FnOKs P cx.gl p.1 p.2) {f : Nat} {fn : Func} (hf : P.funcs[f]? = some fn) (hb : fn.body.isSome = true) (hn : (fn.name == "runtime.NumGoroutine") = false) {s : FSpec}
    (h : ∀ args ps sv, s args = some (ps, sv) → Ok ps → ∃ iv N args', (∀ ρ, args.map (SA.conc ρ) = args'.map (SA.conc ρ)) ∧ (∀ fz, (∀ x ∈ args, x.bnd ⟨fun _ => True, fz⟩) → ∀ x ∈ args', x.bnd ⟨fun _ => False, fz⟩) ∧ sv.bnd none0 ∧ OwesV P cx sl iv N fn args' sv) : FnOKg P cx.gl f s :=
  FnOK_of hf hb hn fun args ps sv hs hp => by
    obtain ⟨iv, N, args', h1, h2, h3, h4⟩ := h args ps sv hs hp
    refine ⟨h3, fun ρ w hz hg ha => ?_⟩
    rw [h1]
    refine (calls_of_owesS hcx hsl hf hb h4 ρ w hz hg (h2 _ ha)).mono ?_
    rintro e w' ⟨v, rfl, hbl, sv', ob', ρ', hp', hr, _⟩
    exact ⟨v, rfl, rep_none0 h3 (same_sound hp' ρ' v hr), hbl⟩
theorem FnOKs_owes {cx : Cx} (hcx : CxOK P cx) {sl : List (Nat × SSpec)} (hsl : ∀ p ∈ sl, FnOKs P cx.gl p.1 p.2) {f : Nat} {fn : Func} (hf : P.funcs[f]? = some fn) (hb : fn.body.isSome = true) (hn : (fn.name == "runtime.NumGoroutine") = false) {s : SSpec}
    (h : ∀ args ps rs, s.of args = some (ps, rs) → Ok ps → ∃ iv N args', (∀ ρ, args.map (SA.conc ρ) = args'.map (SA.conc ρ)) ∧ (∀ fz, (∀ x ∈ args, x.bnd ⟨fun _ => True, fz⟩) → ∀ x ∈ args', x.bnd ⟨fun _ => False, fz⟩) ∧ (∀ r ∈ rs, r.closed) ∧ OwesR P cx sl iv N fn args' s.share rs) : FnOKs P cx.gl f s := by
  intro args ps rs hs hp ρ w hz hg ha
  refine ⟨run_callFunc_enter hf hb hn _ w, ?_⟩
  obtain ⟨iv, N, args', h1, h2, h3, h4⟩ := h args ps rs hs hp
  rw [h1]
  refine (calls_of_owesS hcx hsl hf hb h4 ρ w hz hg (h2 _ ha)).mono ?_
  rintro e w' ⟨v, rfl, hbl, sv, ob', ρ', hp', hr, hbd, hm, hfz⟩
  have key : ∀ xs : List SA, (∀ x ∈ xs, x.bnd (lv ρ' ob')) → okRL s.share ob' rs xs → RS.isL w' (fun b => w.heap.size ≤ b ∨ (s.share = true ∧ ∃ o u, ρ.fz b o u)) rs (xs.map (SA.conc ρ')) := fun xs hx hk => okRL_sound (F := ρ.fz) hm hfz.own h3 hx hk
  unfold okRS at hp'
  split at hp'
  · rename_i x
    exact ⟨_, by rw [hr]; rfl, key [x] (fun y hy => by simp only [List.mem_singleton] at hy; subst hy; exact hbd) hp', hbl⟩
  · exact hp'.elim
  · rename_i xs hne
    refine ⟨xs.map (SA.conc ρ'), ?_, key xs hbd hp', hbl⟩
    rw [hr]
    match xs, hne with
    | [], _ => rfl
    | [x], hne => exact absurd rfl (hne x)
    | x :: y :: r, _ => rfl
  · exact hp'.elim
end
attribute [irreducible] OwesS OwesV OwesR
end Go.Sx
end

section
namespace Go.Sx
open Go.RowKit
def asDg (x : SA) : Option (List Prop × Nat × (Nat → Int)) :=
  match x with
  | .sc (.val (.slice none 0 0)) => some ([], 0, fun _ => 0)
  | .sc (.xs _ n _ w h) => match Nat.beq w 1 with
    | true => some ([∀ i, isKind .u64 (h i 0)], n, fun i => intsC (h i 0))
    | false => none
  | _ => none
theorem asDg_canon {x : SA} {ps : List Prop} {n : Nat} {f : Nat → Int} (h : asDg x = some (ps, n, f)) (hp : Ok ps) : ∃ a cap, (∀ ρ, x.conc ρ = (xsI a n cap .u64 f).conc ρ) ∧ ∀ fz, x.bnd ⟨fun _ => True, fz⟩ → (xsI a n cap .u64 f).bnd ⟨fun _ => False, fz⟩ := by
  unfold asDg at h
  split at h
  · simp only [Option.some.injEq, Prod.mk.injEq] at h
    obtain ⟨rfl, rfl, rfl⟩ := h
    exact ⟨none, 0, fun _ => rfl, fun _ _ => ⟨fun _ => ⟨rfl, rfl⟩, Nat.le_refl _, fun b hb => by cases hb⟩⟩
  · rename_i a m cap w g
    split at h
    case h_2 => cases h
    rename_i hw
    have hw := Nat.eq_of_beq_eq_true hw
    subst hw
    simp only [Option.some.injEq, Prod.mk.injEq] at h
    obtain ⟨rfl, rfl, rfl⟩ := h
    refine ⟨a, cap, fun _ => rfl, fun fz hb => ⟨hb.1, hb.2.1, fun b e => ⟨(hb.2.2 b e).1, fun i hi c hc => ?_⟩⟩⟩
    obtain ⟨_, _, q⟩ := (hb.2.2 b e).2 i hi c hc
    have hc0 : c = 0 := by omega
    subst hc0
    rw [isKind_sound (hp.1 i) Rho.nil] at q
    exact ⟨trivial, rfl, q⟩
  · cases h
def specD (sh : Bool) (c : Nat → (Nat → Int) → List Prop) (r : Nat → (Nat → Int) → List RS) : SSpec := ⟨sh, fun args =>
  match args with
  | [x] => match asDg x with
    | some (p, n, f) => some (p ++ c n f, r n f)
    | none => none
  | _ => none⟩
def specDD (sh : Bool) (c : Nat → (Nat → Int) → Nat → (Nat → Int) → List Prop) (r : Nat → (Nat → Int) → Nat → (Nat → Int) → List RS) : SSpec := ⟨sh, fun args =>
  match args with
  | [x, y] => match asDg x, asDg y with
    | some (p, n, f), some (q, m, g) => some (p ++ (q ++ c n f m g), r n f m g)
    | _, _ => none
  | _ => none⟩
def specUR (r : Nat → List RS) : SSpec := ⟨false, fun args =>
  match args with
  | [x] => match asU x with
    | some (p, a) => some (p, r a)
    | none => none
  | _ => none⟩
section
variable {P : Program} {cx : Cx} {sl : List (Nat × SSpec)} {f : Nat} {fn : Func}
theorem FnOKs_D (hcx : CxOK P cx) (hsl : ∀ p ∈ sl, FnOKs P cx.gl p.1 p.2) (hf : P.funcs[f]? = some fn) (hb : fn.body.isSome = true) (hn : (fn.name == "runtime.NumGoroutine") = false) {sh : Bool} {c : Nat → (Nat → Int) → List Prop} {r : Nat → (Nat → Int) → List RS} {iv : Option Addr → Nat → Nat → (Nat → Int) → List (Nat × Hint)} {N : Nat} (hr : ∀ n f, ∀ x ∈ r n f, x.closed)
    (h : ∀ a n cap g, Ok (c n g) → OwesR P cx sl (iv a n cap g) N fn [xsI a n cap .u64 g] sh (r n g)) : FnOKs P cx.gl f (specD sh c r) := by
  refine FnOKs_owes hcx hsl hf hb hn fun args ps rs hs hp => ?_
  simp only [specD] at hs
  split at hs
  case h_2 => cases hs
  rename_i x
  split at hs
  case h_2 => cases hs
  rename_i p n g hx
  simp only [Option.some.injEq, Prod.mk.injEq] at hs
  obtain ⟨rfl, rfl⟩ := hs
  obtain ⟨o1, o2⟩ := Ok.append.1 hp
  obtain ⟨a, cap, k1, k2⟩ := asDg_canon hx o1
  refine ⟨iv a n cap g, N, [xsI a n cap .u64 g], fun ρ => by simp only [List.map_cons, List.map_nil, k1 ρ], fun fz ha z hz => ?_, hr n g, h a n cap g o2⟩
  simp only [List.mem_singleton] at hz
  subst hz
  exact k2 fz (ha x (by simp))
theorem FnOKs_DD (hcx : CxOK P cx) (hsl : ∀ p ∈ sl, FnOKs P cx.gl p.1 p.2) (hf : P.funcs[f]? = some fn) (hb : fn.body.isSome = true) (hn : (fn.name == "runtime.NumGoroutine") = false) {sh : Bool} {c : Nat → (Nat → Int) → Nat → (Nat → Int) → List Prop} {r : Nat → (Nat → Int) → Nat → (Nat → Int) → List RS} {iv : Option Addr → Nat → Nat → (Nat → Int) → Option Addr → Nat → Nat → (Nat → Int) → List (Nat × Hint)} {N : Nat} (hr : ∀ n f m g, ∀ x ∈ r n f m g, x.closed)
    (h : ∀ a n cap g a' n' cap' g', Ok (c n g n' g') → OwesR P cx sl (iv a n cap g a' n' cap' g') N fn [xsI a n cap .u64 g, xsI a' n' cap' .u64 g'] sh (r n g n' g')) : FnOKs P cx.gl f (specDD sh c r) := by
  refine FnOKs_owes hcx hsl hf hb hn fun args ps rs hs hp => ?_
  simp only [specDD] at hs
  split at hs
  case h_2 => cases hs
  rename_i x y
  split at hs
  case h_2 => cases hs
  rename_i p n g q n' g' hx hy
  simp only [Option.some.injEq, Prod.mk.injEq] at hs
  obtain ⟨rfl, rfl⟩ := hs
  obtain ⟨o1, o23⟩ := Ok.append.1 hp
  obtain ⟨o2, o3⟩ := Ok.append.1 o23
  obtain ⟨a, cap, k1, k2⟩ := asDg_canon hx o1
  obtain ⟨a', cap', k1', k2'⟩ := asDg_canon hy o2
  refine ⟨iv a n cap g a' n' cap' g', N, [xsI a n cap .u64 g, xsI a' n' cap' .u64 g'], fun ρ => by simp only [List.map_cons, List.map_nil, k1 ρ, k1' ρ], fun fz ha z hz => ?_, hr n g n' g', h a n cap g a' n' cap' g' o3⟩
  simp only [List.mem_cons, List.not_mem_nil, or_false] at hz
  rcases hz with rfl | rfl
  · exact k2 fz (ha x (by simp))
  · exact k2' fz (ha y (by simp))
theorem bnd_Un {n : Env} (a : Nat) : (SA.agg [SK.u a]).bnd n := by
  intro k hk
  simp only [List.mem_singleton] at hk
  subst hk
  trivial
theorem FnOKs_UR (hcx : CxOK P cx) (hsl : ∀ p ∈ sl, FnOKs P cx.gl p.1 p.2) (hf : P.funcs[f]? = some fn) (hb : fn.body.isSome = true) (hn : (fn.name == "runtime.NumGoroutine") = false) {r : Nat → List RS} {iv : Nat → List (Nat × Hint)} {N : Nat} (hr : ∀ a, ∀ x ∈ r a, x.closed)
    (h : ∀ a, OwesR P cx sl (iv a) N fn [sU a] false (r a)) : FnOKs P cx.gl f (specUR r) := by
  refine FnOKs_owes hcx hsl hf hb hn fun args ps rs hs hp => ?_
  simp only [specUR] at hs
  split at hs
  case h_2 => cases hs
  rename_i x
  split at hs
  case h_2 => cases hs
  rename_i p a hx
  simp only [Option.some.injEq, Prod.mk.injEq] at hs
  obtain ⟨rfl, rfl⟩ := hs
  refine ⟨iv a, N, [sU a], fun ρ => by simp only [List.map_cons, List.map_nil, asU_canon hx hp ρ], fun fz _ z hz => ?_, hr a, h a⟩
  simp only [List.mem_singleton] at hz
  subst hz
  exact bnd_Un a
end
def vz (f : Nat → Int) : Nat → Int
  | 0 => 0
  | n + 1 => vz f n + f n * 4294967296 ^ n
def dg (X : Nat) (i : Nat) : Int := ((X / 4294967296 ^ i % 4294967296 : Nat) : Int)
structure dgs (n : Nat) (f : Nat → Int) : Prop where
  at' : ∀ i, i < n → 0 ≤ f i ∧ f i < 4294967296
def vn (n : Nat) (f : Nat → Int) : Nat := (vz f n).toNat
theorem vz_congr {f g : Nat → Int} : ∀ {n : Nat}, (∀ i, i < n → f i = g i) → vz f n = vz g n
  | 0, _ => rfl
  | n + 1, h => by simp only [vz]; rw [vz_congr fun i hi => h i (by omega), h n (by omega)]
theorem pw_pos (n : Nat) : (0 : Int) < 4294967296 ^ n := Int.pow_pos (by decide)
theorem vz_bound {f : Nat → Int} : ∀ {n : Nat}, dgs n f → 0 ≤ vz f n ∧ vz f n < 4294967296 ^ n
  | 0, _ => by simp [vz]
  | n + 1, h => by
    obtain ⟨h1, h2⟩ := vz_bound (n := n) ⟨fun i hi => h.at' i (by omega)⟩
    obtain ⟨k1, k2⟩ := h.at' n (by omega)
    have hp := pw_pos n
    simp only [vz, Int.pow_succ]
    refine ⟨Int.add_nonneg h1 (Int.mul_nonneg k1 (Int.le_of_lt hp)), ?_⟩
    have : f n * 4294967296 ^ n ≤ 4294967295 * 4294967296 ^ n := Int.mul_le_mul_of_nonneg_right (by omega) (Int.le_of_lt hp)
    omega
theorem vz_upd {f : Nat → Int} {k : Nat} {v : Int} : ∀ {n : Nat}, k < n → vz (fun j => if j = k then v else f j) n = vz f n + (v - f k) * 4294967296 ^ k
  | 0, h => by omega
  | n + 1, h => by
    simp only [vz]
    by_cases e : n = k
    · subst e
      rw [if_pos rfl, vz_congr (g := f) fun i hi => if_neg (by omega), Int.sub_mul]
      omega
    · rw [if_neg e, vz_upd (n := n) (by omega)]
      omega
theorem vn_cast {f : Nat → Int} {n : Nat} (h : dgs n f) : ((vn n f : Nat) : Int) = vz f n := by
  unfold vn
  have := (vz_bound h).1
  omega
theorem vn_lt {f : Nat → Int} {n : Nat} (h : dgs n f) : vn n f < 4294967296 ^ n := by
  have h1 := vn_cast h
  have h2 := (vz_bound h).2
  have : ((vn n f : Nat) : Int) < ((4294967296 ^ n : Nat) : Int) := by rw [h1, Int.natCast_pow]; exact h2
  omega
theorem dgs_dg (n X : Nat) : dgs n (dg X) := ⟨fun i _ => by
  unfold dg
  have := Nat.mod_lt (X / 4294967296 ^ i) (show 0 < 4294967296 by decide)
  omega⟩
theorem vz_dg (X : Nat) : ∀ n, vz (dg X) n = ((X % 4294967296 ^ n : Nat) : Int)
  | 0 => by simp [vz, Nat.mod_one]
  | n + 1 => by
    simp only [vz, vz_dg X n, dg]
    rw [Nat.pow_succ, Nat.mod_mul]
    have : ((4294967296 ^ n : Nat) : Int) = (4294967296 : Int) ^ n := Int.natCast_pow _ _
    rw [← this, Int.mul_comm]
    exact (Int.natCast_add _ _).symm ▸ (Int.natCast_mul _ _).symm ▸ rfl
theorem vn_dg (n X : Nat) : vn n (dg X) = X % 4294967296 ^ n := by
  unfold vn
  rw [vz_dg]
  exact Int.toNat_natCast _
theorem vn_dg' {n X : Nat} (h : X < 4294967296 ^ n) : vn n (dg X) = X := by rw [vn_dg, Nat.mod_eq_of_lt h]
theorem vn_congr {f g : Nat → Int} {n : Nat} (h : ∀ i, i < n → f i = g i) : vn n f = vn n g := by unfold vn; rw [vz_congr h]
theorem vz_step {f : Nat → Int} {n : Nat} (h : dgs (n + 1) f) : (vn (n + 1) f) / 4294967296 ^ n = (f n).toNat ∧ (vn (n + 1) f) % 4294967296 ^ n = vn n f := by
  have hn : dgs n f := ⟨fun i hi => h.at' i (by omega)⟩
  have e : vn (n + 1) f = vn n f + 4294967296 ^ n * (f n).toNat := by
    have h1 := vn_cast h
    have h2 := vn_cast hn
    have h3 := (h.at' n (by omega)).1
    have : ((vn (n + 1) f : Nat) : Int) = ((vn n f + 4294967296 ^ n * (f n).toNat : Nat) : Int) := by
      rw [h1, Int.natCast_add, Int.natCast_mul, h2, Int.natCast_pow, Int.toNat_of_nonneg h3, Int.mul_comm]
      rfl
    omega
  have hl := vn_lt hn
  rw [e]
  exact ⟨by rw [Nat.add_mul_div_left _ _ (Nat.pow_pos (by decide)), Nat.div_eq_of_lt hl, Nat.zero_add], by rw [Nat.add_mul_mod_self_left, Nat.mod_eq_of_lt hl]⟩
theorem dg_mod {X n i : Nat} (h : i < n) : dg (X % 4294967296 ^ n) i = dg X i := by
  unfold dg
  have e : (4294967296 : Nat) ^ n = 4294967296 ^ i * (4294967296 * 4294967296 ^ (n - i - 1)) := by
    rw [← Nat.pow_succ', ← Nat.pow_add]
    congr 1
    omega
  rw [e, Nat.mod_mul_right_div_self, Nat.mod_mul_right_mod]
theorem dg_vn {f : Nat → Int} : ∀ {n : Nat}, dgs n f → ∀ i, i < n → dg (vn n f) i = f i
  | 0, _, i, hi => by omega
  | n + 1, h, i, hi => by
    obtain ⟨h1, h2⟩ := vz_step h
    by_cases e : i = n
    · subst e
      obtain ⟨k1, k2⟩ := h.at' i (by omega)
      unfold dg
      rw [h1, Nat.mod_eq_of_lt (by omega)]
      omega
    · rw [← dg_mod (n := n) (by omega), h2]
      exact dg_vn ⟨fun i hi => h.at' i (by omega)⟩ i (by omega)
theorem dg_eq {f : Nat → Int} {n X : Nat} (h : dgs n f) (hX : vz f n = (X : Int)) : ∀ i, i < n → f i = dg X i := by
  have : vn n f = X := by unfold vn; omega
  intro i hi
  rw [← this, dg_vn h i hi]
end Go.Sx
end

section
namespace Go.Sx
open Go.RowKit
theorem pwN_pos (n : Nat) : 0 < 4294967296 ^ n := Nat.pow_pos (by decide)
theorem dg_range (X i : Nat) : 0 ≤ dg X i ∧ dg X i < 4294967296 := (dgs_dg (i + 1) X).at' i (by omega)
theorem dg_out {X n i : Nat} (h : X < 4294967296 ^ n) (hi : n ≤ i) : dg X i = 0 := by
  unfold dg
  rw [Nat.div_eq_of_lt (Nat.lt_of_lt_of_le h (Nat.pow_le_pow_right (by decide) hi))]
  rfl
theorem dg_in {n : Nat} {f : Nat → Int} (h : dgs n f) {i : Nat} (hi : i < n) : f i = dg (vn n f) i := (dg_vn h i hi).symm
theorem dg_past {n : Nat} {f : Nat → Int} (h : dgs n f) {i : Nat} (hi : n ≤ i) : dg (vn n f) i = 0 := dg_out (vn_lt h) hi
theorem mod_succ (X i : Nat) : ((X % 4294967296 ^ (i + 1) : Nat) : Int) = ((X % 4294967296 ^ i : Nat) : Int) + dg X i * 4294967296 ^ i := by
  rw [← vz_dg, ← vz_dg]; rfl
theorem div_succ (X i : Nat) : ((X / 4294967296 ^ i : Nat) : Int) = 4294967296 * ((X / 4294967296 ^ (i + 1) : Nat) : Int) + dg X i := by
  unfold dg
  rw [Nat.pow_succ, ← Nat.div_div_eq_div_mul]
  omega
structure PlusP (X Y : Nat) (i : Nat) (g : Nat → Int) (c : Int) : Prop where
  ds : dgs i g
  c1 : 0 ≤ c ∧ c ≤ 1
  sum : vz g i + c * 4294967296 ^ i = ((X % 4294967296 ^ i : Nat) : Int) + ((Y % 4294967296 ^ i : Nat) : Int)
theorem PlusP.start (X Y : Nat) (g : Nat → Int) : PlusP X Y 0 g 0 := ⟨⟨fun i hi => by omega⟩, ⟨by omega, by omega⟩, by simp [vz, Nat.mod_one]⟩
theorem dgs_app {i : Nat} {g : Nat → Int} {v : Int} (h : dgs i g) (hv : 0 ≤ v ∧ v < 4294967296) : dgs (i + 1) (fun j => bif decide (j < i) then g j else v) := ⟨fun j hj => by
  by_cases e : j < i
  · simp only [e, decide_true, cond_true]; exact h.at' j e
  · simp only [e, decide_false, cond_false]; exact hv⟩
theorem vz_app {i : Nat} {g : Nat → Int} {v : Int} : vz (fun j => bif decide (j < i) then g j else v) (i + 1) = vz g i + v * 4294967296 ^ i := by
  simp only [vz, Nat.lt_irrefl, decide_false, cond_false]
  rw [vz_congr (g := g) fun j hj => by simp only [hj, decide_true, cond_true]]
theorem PlusP.step {X Y i : Nat} {g : Nat → Int} {c s : Int} (h : PlusP X Y i g c) (hs : s = c + dg X i + dg Y i) : PlusP X Y (i + 1) (fun j => bif decide (j < i) then g j else s.tmod 4294967296) (IntKind.u64.wrap (s.tdiv 4294967296)) := by
  obtain ⟨h1, h2, h3⟩ := h
  have hx := dg_range X i
  have hy := dg_range Y i
  have e1 : s.tmod 4294967296 = s % 4294967296 := Int.tmod_eq_emod_of_nonneg (by omega)
  have e2 : s.tdiv 4294967296 = s / 4294967296 := Int.tdiv_eq_ediv_of_nonneg (by omega)
  have e3 : IntKind.u64.wrap (s / 4294967296) = s / 4294967296 := by rw [IntKind.wrap_u64]; omega
  rw [e1, e2, e3]
  refine ⟨dgs_app h1 (by omega), by omega, ?_⟩
  rw [vz_app, mod_succ, mod_succ, Int.pow_succ]
  have hq : s = 4294967296 * (s / 4294967296) + s % 4294967296 := by omega
  generalize s / 4294967296 = q at *
  generalize s % 4294967296 = r at *
  generalize (4294967296 : Int) ^ i = w at *
  generalize vz g i = z at *
  generalize ((X % 4294967296 ^ i : Nat) : Int) = x at *
  generalize ((Y % 4294967296 ^ i : Nat) : Int) = y at *
  generalize dg X i = dx at *
  generalize dg Y i = dy at *
  grind
def cmpI (X Y : Nat) : Int := if X < Y then -1 else if Y < X then 1 else 0
theorem cmp_lt {X Y k : Nat} (h : X / 4294967296 ^ (k + 1) = Y / 4294967296 ^ (k + 1)) (hd : dg X k < dg Y k) : X < Y := by
  have h1 := div_succ X k
  have h2 := div_succ Y k
  rw [h] at h1
  have : X / 4294967296 ^ k < Y / 4294967296 ^ k := by omega
  exact Nat.lt_of_not_le fun hle => by have := Nat.div_le_div_right (c := 4294967296 ^ k) hle; omega
theorem cmp_eq {X Y k : Nat} (h : X / 4294967296 ^ (k + 1) = Y / 4294967296 ^ (k + 1)) (hd : dg X k = dg Y k) : X / 4294967296 ^ k = Y / 4294967296 ^ k := by
  have h1 := div_succ X k
  have h2 := div_succ Y k
  rw [h, hd] at h1
  omega
structure LessP (X Y n : Nat) (i : Nat) (g : Nat → Int) (c : Int) : Prop where
  ds : dgs n g
  c1 : c = 0 ∨ c = 1
  rest : ∀ j, i ≤ j → j < n → g j = dg X j
  sum : vz g i - c * 4294967296 ^ i = ((X % 4294967296 ^ i : Nat) : Int) - ((Y % 4294967296 ^ i : Nat) : Int)
theorem LessP.step {X Y n i : Nat} {g g' : Nat → Int} {c v c' : Int} (h : LessP X Y n i g c) (hi : i < n) (hv : v = dg X i - (c + dg Y i) + c' * 4294967296) (hc : c' = if dg X i < c + dg Y i then 1 else 0) (hg : ∀ j, j < n → g' j = if j = i then v else g j) : LessP X Y n (i + 1) g' c' := by
  obtain ⟨h1, h2, h3, h4⟩ := h
  have hx := dg_range X i
  have hy := dg_range Y i
  have hc' : (c' = 0 ∧ c + dg Y i ≤ dg X i) ∨ (c' = 1 ∧ dg X i < c + dg Y i) := by
    rw [hc]; split
    · exact .inr ⟨rfl, by assumption⟩
    · exact .inl ⟨rfl, by omega⟩
  clear hc
  have hvr : 0 ≤ v ∧ v < 4294967296 := by omega
  refine ⟨⟨fun j hj => ?_⟩, by omega, fun j hj hjn => ?_, ?_⟩
  · rw [hg j hj]
    split
    · exact hvr
    · exact h1.at' j hj
  · rw [hg j hjn, if_neg (by omega)]
    exact h3 j (by omega) hjn
  · simp only [vz]
    rw [vz_congr (g := g) (fun j hj => by rw [hg j (by omega), if_neg (by omega)]), hg i hi, if_pos rfl, mod_succ, mod_succ, Int.pow_succ]
    generalize (4294967296 : Int) ^ i = w at *
    generalize vz g i = z at *
    generalize ((X % 4294967296 ^ i : Nat) : Int) = x at *
    generalize ((Y % 4294967296 ^ i : Nat) : Int) = y at *
    generalize dg X i = dx at *
    generalize dg Y i = dy at *
    clear hg h3 h1 hc' hvr hx hy h2
    grind
theorem LessP.done {X Y n : Nat} {g : Nat → Int} {c : Int} (h : LessP X Y n n g c) (hX : X < 4294967296 ^ n) (hY : Y ≤ X) : ∀ i, i < n → g i = dg (X - Y) i := by
  obtain ⟨h1, h2, _, h4⟩ := h
  rw [Nat.mod_eq_of_lt hX, Nat.mod_eq_of_lt (by omega)] at h4
  have hb := vz_bound h1
  have hp := pw_pos n
  refine dg_eq h1 ?_
  rcases h2 with rfl | rfl
  · omega
  · omega
def lenDg (X : Nat) : Nat := if X = 0 then 0 else Nat.log2 X / 32 + 1
theorem pw_two (n : Nat) : (4294967296 : Nat) ^ n = 2 ^ (32 * n) := by rw [Nat.pow_mul]
theorem lenDg_lt (X : Nat) : X < 4294967296 ^ lenDg X := by
  unfold lenDg
  split
  · subst_vars; decide
  · rename_i h
    rw [pw_two, ← Nat.log2_lt h]
    omega
theorem lenDg_le {X k : Nat} (h : X < 4294967296 ^ k) : lenDg X ≤ k := by
  unfold lenDg
  split
  · omega
  · rename_i h0
    rw [pw_two, ← Nat.log2_lt h0] at h
    omega
theorem lenDg_eq {X k : Nat} (h : X < 4294967296 ^ k) (hk : k = 0 ∨ dg X (k - 1) ≠ 0) : k = lenDg X := by
  have h1 := lenDg_le h
  rcases Nat.lt_or_ge (lenDg X) k with hlt | hge
  · rcases hk with hk | hk
    · omega
    · exact absurd (dg_out (lenDg_lt X) (by omega)) hk
  · omega
structure TimesP (X Y n m : Nat) (i : Nat) (o : Nat → Int) : Prop where
  ds : dgs (n + m) o
  top : ∀ k, i + m ≤ k → k < n + m → o k = 0
  sum : vz o (n + m) = ((X % 4294967296 ^ i : Nat) : Int) * (Y : Int)
structure TimesQ (X Y n m : Nat) (i j : Nat) (o : Nat → Int) (c : Int) : Prop where
  ds : dgs (n + m) o
  c1 : 0 ≤ c ∧ c < 4294967296
  top : ∀ k, i + m ≤ k → k < n + m → o k = 0
  sum : vz o (n + m) + c * 4294967296 ^ (i + j) = ((X % 4294967296 ^ i : Nat) : Int) * (Y : Int) + dg X i * 4294967296 ^ i * ((Y % 4294967296 ^ j : Nat) : Int)
theorem dgs_upd {n k : Nat} {o o' : Nat → Int} {v : Int} (h : dgs n o) (hv : 0 ≤ v ∧ v < 4294967296) (ho : ∀ j, j < n → o' j = if j = k then v else o j) : dgs n o' := ⟨fun j hj => by
  rw [ho j hj]
  split
  · exact hv
  · exact h.at' j hj⟩
theorem TimesQ.step {X Y n m i j : Nat} {o o' : Nat → Int} {c s : Int} (h : TimesQ X Y n m i j o c) (hi : i < n) (hj : j < m) (hs : s = dg X i * dg Y j + o (i + j) + c) (ho : ∀ k, k < n + m → o' k = if k = i + j then s % 4294967296 else o k) : TimesQ X Y n m i (j + 1) o' (s / 4294967296) := by
  obtain ⟨h1, h2, h3, h4⟩ := h
  have hx := dg_range X i
  have hy := dg_range Y j
  have ho2 := h1.at' (i + j) (by omega)
  have hp : 0 ≤ dg X i * dg Y j ∧ dg X i * dg Y j ≤ 4294967295 * 4294967295 := ⟨Int.mul_nonneg hx.1 hy.1, Int.mul_le_mul (by omega) (by omega) hy.1 (by omega)⟩
  refine ⟨dgs_upd h1 (by omega) ho, by omega, fun k hk hkn => ?_, ?_⟩
  · rw [ho k hkn, if_neg (by omega)]; exact h3 k hk hkn
  · rw [vz_congr ho, vz_upd (by omega), mod_succ, ← Nat.add_assoc, Int.pow_succ, Int.pow_add]
    rw [Int.pow_add] at h4
    have hq : s = 4294967296 * (s / 4294967296) + s % 4294967296 := by omega
    generalize s / 4294967296 = q at *
    generalize s % 4294967296 = r at *
    generalize (4294967296 : Int) ^ i = w at *
    generalize (4294967296 : Int) ^ j = u at *
    generalize vz o (n + m) = z at *
    generalize o (i + j) = oo at *
    generalize ((X % 4294967296 ^ i : Nat) : Int) = x at *
    generalize ((Y % 4294967296 ^ j : Nat) : Int) = y at *
    generalize dg X i = dx at *
    generalize dg Y j = dy at *
    generalize (Y : Int) = Z at *
    clear h1 h2 h3 hx hy ho2 hp ho hi hj
    grind
theorem TimesP.enter {X Y n m i : Nat} {o : Nat → Int} (h : TimesP X Y n m i o) : TimesQ X Y n m i 0 o 0 := ⟨h.ds, by omega, h.top, by rw [h.sum]; simp [Nat.mod_one]⟩
theorem TimesQ.leave {X Y n m i : Nat} {o o' : Nat → Int} {c : Int} (h : TimesQ X Y n m i m o c) (hi : i < n) (hY : Y < 4294967296 ^ m) (ho : ∀ k, k < n + m → o' k = if k = i + m then c else o k) : TimesP X Y n m (i + 1) o' := by
  obtain ⟨h1, h2, h3, h4⟩ := h
  refine ⟨dgs_upd h1 h2 ho, fun k hk hkn => ?_, ?_⟩
  · rw [ho k hkn, if_neg (by omega)]; exact h3 k (by omega) hkn
  · rw [vz_congr ho, vz_upd (by omega), h3 (i + m) (by omega) (by omega), mod_succ]
    rw [Nat.mod_eq_of_lt hY] at h4
    generalize (4294967296 : Int) ^ i = w at *
    generalize (4294967296 : Int) ^ (i + m) = u at *
    generalize vz o (n + m) = z at *
    generalize ((X % 4294967296 ^ i : Nat) : Int) = x at *
    generalize dg X i = dx at *
    generalize (Y : Int) = Z at *
    clear h1 h2 h3 ho hi hY
    grind
theorem TimesP.done {X Y n m : Nat} {o : Nat → Int} (h : TimesP X Y n m n o) (hX : X < 4294967296 ^ n) : ∀ i, i < n + m → o i = dg (X * Y) i :=
  dg_eq h.ds (by rw [h.sum, Nat.mod_eq_of_lt hX, Int.natCast_mul])
end Go.Sx
end

section
namespace Go.Proofs.Ytjpddnjgbgpegaa
open Go Go.Sx Go.RowKit
set_option maxRecDepth 100000
def markR : List (Nat × FSpec) := [(1000000007, fun _ => none)]
def cxR : Cx := ⟨markR, [], 0, []⟩
def r64 (g : Nat → Int) : Nat → Nat → SC := fun i _ => .val (.int .u64 (g i))
def invPlus (a : Option Addr) (n c : Nat) (f : Nat → Int) (b : Option Addr) (m d : Nat) (h : Nat → Int) (P : Nat → (Nat → Int) → Int → Prop) : Inv where
  X := Nat × (Nat → Int) × Int × Nat
  tm y := slotsAt 53 [(0, .one (xsI a n c .u64 f)), (1, .one (xsI b m d .u64 h)), (5, .one (.sc (.slw 1 1 0 y.1 (y.1 + y.2.2.2)))), (6, .one (sI .u64 y.2.2.1)), (7, .one (sI .i64 (y.1 : Int)))]
  ob y := [.dead, .row 22 1 y.1 (r64 y.2.1) y.2.2.2]
  holds y := P y.1 y.2.1 y.2.2.1 ∧ y.1 ≤ max n m ∧ y.1 + y.2.2.2 ≤ maxLen
  less y := max n m - y.1
def invCmp (a : Option Addr) (n c : Nat) (f : Nat → Int) (b : Option Addr) (m d : Nat) (h : Nat → Int) (P : Nat → Prop) : Inv where
  X := Nat
  tm y := slotsAt 40 [(0, .one (xsI a n c .u64 f)), (1, .one (xsI b m d .u64 h)), (5, .one (sI .i64 ((y : Int) - 1)))]
  ob _ := []
  holds y := P y ∧ y ≤ max n m
  less y := y
def invLess (b : Option Addr) (m d : Nat) (h : Nat → Int) (n : Nat) (P : Nat → (Nat → Int) → Int → Prop) : Inv where
  X := Nat × (Nat → Int) × Int × Nat
  tm y := slotsAt 49 [(1, .one (xsI b m d .u64 h)), (5, .one (.sc (.slw 0 1 0 n (n + y.2.2.2)))), (6, .one (sI .u64 y.2.2.1)), (13, .one (sI .i64 (n : Int))), (14, .one (sI .i64 (y.1 : Int)))]
  ob y := [.row 22 1 n (r64 y.2.1) y.2.2.2]
  holds y := P y.1 y.2.1 y.2.2.1 ∧ y.1 ≤ n
  less y := n - y.1
def invShorn (f : Nat → Int) (P : Nat → Prop) : Inv where
  X := Option Addr × Nat × Nat
  tm y := slotsAt 21 [(0, .one (xsI y.1 y.2.1 y.2.2 .u64 f))]
  ob _ := []
  holds y := P y.2.1
  less y := y.2.1
def shornR (n : Nat) (f : Nat → Int) : List RS := [.s (lenDg (vn n f)) .u64 (dg (vn n f))]
def dgsC (n : Nat) (f : Nat → Int) : List Prop := [dgs n f, n ≤ 1000]
def slShorn : List (Nat × SSpec) := [(50, specD true dgsC shornR)]
def invTi (a : Option Addr) (n c : Nat) (f : Nat → Int) (b : Option Addr) (m d : Nat) (h : Nat → Int) (P : Nat → (Nat → Int) → Prop) : Inv where
  X := Nat × (Nat → Int)
  tm y := slotsAt 63 [(0, .one (xsI a n c .u64 f)), (1, .one (xsI b m d .u64 h)), (5, .one (.sc (.slw 0 1 0 (n + m) (n + m)))), (18, .one (xsI a n c .u64 f)), (19, .one (sI .i64 (n : Int))), (20, .one (sI .i64 (y.1 : Int)))]
  ob y := [.row 22 1 (n + m) (r64 y.2) 0]
  holds y := P y.1 y.2 ∧ y.1 ≤ n
  less y := n - y.1
def invTj (a : Option Addr) (n c : Nat) (f : Nat → Int) (b : Option Addr) (m d : Nat) (h : Nat → Int) (P : Nat → Nat → (Nat → Int) → Int → Prop) : Inv where
  X := Nat × Nat × (Nat → Int) × Int
  tm y := slotsAt 63 [(0, .one (xsI a n c .u64 f)), (1, .one (xsI b m d .u64 h)), (5, .one (.sc (.slw 0 1 0 (n + m) (n + m)))), (18, .one (xsI a n c .u64 f)), (19, .one (sI .i64 (n : Int))), (20, .one (sI .i64 (y.1 : Int))), (6, .one (sI .i64 (y.1 : Int))), (7, .one (sI .u64 (f y.1))), (8, .one (sI .u64 y.2.2.2)), (25, .one (xsI b m d .u64 h)), (26, .one (sI .i64 (m : Int))), (27, .one (sI .i64 (y.2.1 : Int)))]
  ob y := [.row 22 1 (n + m) (r64 y.2.2.1) 0]
  holds y := P y.1 y.2.1 y.2.2.1 y.2.2.2 ∧ y.1 < n ∧ y.2.1 ≤ m
  less y := m - y.2.1
theorem vc_dOf (r : Nat → Int) (a : Nat) :
    OwesR Try.prog .none [] [] 20 Try.f30 [sU a] false [.s 8 .u64 r] =
    (∀ (c : Nat), 2 + c ≤ Go.maxLen → (2 ≤ 2 + c ∧ 2 + c ≤ Go.maxLen ∧ (2 + c) * 1 = 2 + c * 1) ∧ ∀ (c : Nat), 4 + c ≤ Go.maxLen → (4 ≤ 4 + c ∧ 4 + c ≤ Go.maxLen ∧ (4 + c) * 1 = 4 + c * 1) ∧ ∀ (c : Nat), 6 + c ≤ Go.maxLen → (6 ≤ 6 + c ∧ 6 + c ≤ Go.maxLen ∧ (6 + c) * 1 = 6 + c * 1) ∧ ∀ (c : Nat), 8 + c ≤ Go.maxLen → 8 = 8 ∧ 8 ≤ 8 + c ∧ ∀ (i : Nat), i < 8 → (intsL [SK.c (SC.val (Go.Value.int Go.IntKind.u64 ((limb a 0).tmod (4294967296 : Int)))), SK.c (SC.val (Go.Value.int Go.IntKind.u64 (Go.IntKind.u64.wrap ((limb a 0).tdiv (4294967296 : Int))))), SK.c (SC.val (Go.Value.int Go.IntKind.u64 ((limb a 1).tmod (4294967296 : Int)))), SK.c (SC.val (Go.Value.int Go.IntKind.u64 (Go.IntKind.u64.wrap ((limb a 1).tdiv (4294967296 : Int))))), SK.c (SC.val (Go.Value.int Go.IntKind.u64 ((limb a 2).tmod (4294967296 : Int)))), SK.c (SC.val (Go.Value.int Go.IntKind.u64 (Go.IntKind.u64.wrap ((limb a 2).tdiv (4294967296 : Int))))), SK.c (SC.val (Go.Value.int Go.IntKind.u64 ((limb a 3).tmod (4294967296 : Int)))), SK.c (SC.val (Go.Value.int Go.IntKind.u64 (Go.IntKind.u64.wrap ((limb a 3).tdiv (4294967296 : Int)))))]).getD i (0 : Int) = r i) := by kernel_rfl
theorem vc_dPlus (a : Option Addr) (n c : Nat) (f : Nat → Int) (b : Option Addr) (m d : Nat) (h : Nat → Int) (P : Nat → (Nat → Int) → Int → Prop) (k : Nat) (r : Nat → Int) :
    OwesR Try.prog cxR [] [(4, .inv1 (invPlus a n c f b m d h P))] 4 Try.f51 [xsI a n c .u64 f, xsI b m d .u64 h] false [.s k .u64 r] =
    (let x1 : Bool := Decidable.decide ((0 : Int) < (↑n : Int)); let x2 : Bool := Decidable.decide ((0 : Int) < (↑m : Int)); let x3 : Int := Go.IntKind.u64.wrap ((0 : Int) + f 0); let x5 : Int := Go.IntKind.u64.wrap (x3 + h 0); let x7 : Int := x5.tmod (4294967296 : Int); let x8 : Int := x3.tmod (4294967296 : Int); let x9 : Int := Go.IntKind.u64.wrap ((0 : Int) + h 0); let x10 : Int := x9.tmod (4294967296 : Int); (∀ (y : Nat × (Nat → Int) × Int × Nat), closedB (slotsAt 53 [(0, SV.one (xsI a n c Go.IntKind.u64 f)), (1, SV.one (xsI b m d Go.IntKind.u64 h)), (5, SV.one (SA.sc (SC.slw 1 1 0 y.fst (y.fst + y.snd.snd.snd)))), (6, SV.one (sI Go.IntKind.u64 y.snd.snd.fst)), (7, SV.one (sI Go.IntKind.i64 (↑y.fst : Int)))]) [SO.dead, SO.row (22 : Go.TypeId) 1 y.fst (r64 y.snd.fst) y.snd.snd.snd] = Bool.true) ∧ (∀ (y : Nat × (Nat → Int) × Int × Nat), P y.fst y.snd.fst y.snd.snd.fst ∧ y.fst ≤ Max.max n m ∧ y.fst + y.snd.snd.snd ≤ Go.maxLen → ((!Decidable.decide ((↑y.fst : Int) < (↑n : Int))) = Bool.true → (!Decidable.decide ((↑y.fst : Int) < (↑n : Int))) = Bool.true) ∧ ((!Decidable.decide ((↑y.fst : Int) < (↑n : Int))) = Bool.true → (!Decidable.decide ((↑y.fst : Int) < (↑n : Int))) = Bool.true) ∧ ((!Decidable.decide ((↑y.fst : Int) < (↑n : Int))) = Bool.true → (!Decidable.decide ((↑y.fst : Int) < (↑n : Int))) = Bool.true) ∧ (Decidable.decide ((↑y.fst : Int) < (↑n : Int)) = Bool.false → (!Decidable.decide ((↑y.fst : Int) < (↑n : Int))) = Bool.true) ∧ ((Decidable.decide ((↑y.fst : Int) < (↑n : Int)) || Decidable.decide ((↑y.fst : Int) < (↑m : Int))) = Bool.true → (Decidable.decide ((↑y.fst : Int) < (↑n : Int)) = Bool.true → ((0 : Int) ≤ (↑y.fst : Int) ∧ (↑y.fst : Int) < (↑n : Int)) ∧ (Decidable.decide ((↑y.fst : Int) < (↑m : Int)) = Bool.true → ((0 : Int) ≤ (↑y.fst : Int) ∧ (↑y.fst : Int) < (↑m : Int)) ∧ 0 = 0 ∧ y.fst = y.fst ∧ (y.fst ≤ y.fst + y.snd.snd.snd ∧ y.fst + y.snd.snd.snd ≤ Go.maxLen ∧ (y.fst + y.snd.snd.snd) * 1 = y.fst * 1 + y.snd.snd.snd) ∧ (y.fst + 1 ≤ Go.maxLen ∧ (y.fst + 1) * 8 ≤ 140737488355328) ∧ ∀ (c_1 : Nat), y.fst + 1 + c_1 ≤ Go.maxLen → ∃ (y' : Nat × (Nat → Int) × Int × Nat), (P y'.fst y'.snd.fst y'.snd.snd.fst ∧ y'.fst ≤ Max.max n m ∧ y'.fst + y'.snd.snd.snd ≤ Go.maxLen) ∧ (a = a ∧ n = n ∧ c = c ∧ ∀ (i : Nat), i < n → f i = f i) ∧ (b = b ∧ m = m ∧ d = d ∧ ∀ (i : Nat), i < m → h i = h i) ∧ (1 = 1 ∧ 1 = 1 ∧ 0 = 0 ∧ y.fst + 1 = y'.fst ∧ y.fst + 1 + c_1 = y'.fst + y'.snd.snd.snd) ∧ Go.IntKind.u64.wrap ((Go.IntKind.u64.wrap (Go.IntKind.u64.wrap (y.snd.snd.fst + f (↑y.fst : Int).toNat) + h (↑y.fst : Int).toNat)).tdiv (4294967296 : Int)) = y'.snd.snd.fst ∧ Go.IntKind.i64.wrap ((↑y.fst : Int) + (1 : Int)) = (↑y'.fst : Int) ∧ y.fst + 1 = y'.fst ∧ c_1 * 1 = y'.snd.snd.snd ∧ (∀ (i : Nat), i < y.fst + 1 → (bif Decidable.decide (i < y.fst) then y.snd.fst i else (Go.IntKind.u64.wrap (Go.IntKind.u64.wrap (y.snd.snd.fst + f (↑y.fst : Int).toNat) + h (↑y.fst : Int).toNat)).tmod (4294967296 : Int)) = y'.snd.fst i) ∧ Max.max n m - y'.fst < Max.max n m - y.fst) ∧ (Decidable.decide ((↑y.fst : Int) < (↑m : Int)) = Bool.false → 0 = 0 ∧ y.fst = y.fst ∧ (y.fst ≤ y.fst + y.snd.snd.snd ∧ y.fst + y.snd.snd.snd ≤ Go.maxLen ∧ (y.fst + y.snd.snd.snd) * 1 = y.fst * 1 + y.snd.snd.snd) ∧ (y.fst + 1 ≤ Go.maxLen ∧ (y.fst + 1) * 8 ≤ 140737488355328) ∧ ∀ (c_1 : Nat), y.fst + 1 + c_1 ≤ Go.maxLen → ∃ (y' : Nat × (Nat → Int) × Int × Nat), (P y'.fst y'.snd.fst y'.snd.snd.fst ∧ y'.fst ≤ Max.max n m ∧ y'.fst + y'.snd.snd.snd ≤ Go.maxLen) ∧ (a = a ∧ n = n ∧ c = c ∧ ∀ (i : Nat), i < n → f i = f i) ∧ (b = b ∧ m = m ∧ d = d ∧ ∀ (i : Nat), i < m → h i = h i) ∧ (1 = 1 ∧ 1 = 1 ∧ 0 = 0 ∧ y.fst + 1 = y'.fst ∧ y.fst + 1 + c_1 = y'.fst + y'.snd.snd.snd) ∧ Go.IntKind.u64.wrap ((Go.IntKind.u64.wrap (y.snd.snd.fst + f (↑y.fst : Int).toNat)).tdiv (4294967296 : Int)) = y'.snd.snd.fst ∧ Go.IntKind.i64.wrap ((↑y.fst : Int) + (1 : Int)) = (↑y'.fst : Int) ∧ y.fst + 1 = y'.fst ∧ c_1 * 1 = y'.snd.snd.snd ∧ (∀ (i : Nat), i < y.fst + 1 → (bif Decidable.decide (i < y.fst) then y.snd.fst i else (Go.IntKind.u64.wrap (y.snd.snd.fst + f (↑y.fst : Int).toNat)).tmod (4294967296 : Int)) = y'.snd.fst i) ∧ Max.max n m - y'.fst < Max.max n m - y.fst)) ∧ (Decidable.decide ((↑y.fst : Int) < (↑n : Int)) = Bool.false → (Decidable.decide ((↑y.fst : Int) < (↑m : Int)) = Bool.true → ((0 : Int) ≤ (↑y.fst : Int) ∧ (↑y.fst : Int) < (↑m : Int)) ∧ 0 = 0 ∧ y.fst = y.fst ∧ (y.fst ≤ y.fst + y.snd.snd.snd ∧ y.fst + y.snd.snd.snd ≤ Go.maxLen ∧ (y.fst + y.snd.snd.snd) * 1 = y.fst * 1 + y.snd.snd.snd) ∧ (y.fst + 1 ≤ Go.maxLen ∧ (y.fst + 1) * 8 ≤ 140737488355328) ∧ ∀ (c_1 : Nat), y.fst + 1 + c_1 ≤ Go.maxLen → ∃ (y' : Nat × (Nat → Int) × Int × Nat), (P y'.fst y'.snd.fst y'.snd.snd.fst ∧ y'.fst ≤ Max.max n m ∧ y'.fst + y'.snd.snd.snd ≤ Go.maxLen) ∧ (a = a ∧ n = n ∧ c = c ∧ ∀ (i : Nat), i < n → f i = f i) ∧ (b = b ∧ m = m ∧ d = d ∧ ∀ (i : Nat), i < m → h i = h i) ∧ (1 = 1 ∧ 1 = 1 ∧ 0 = 0 ∧ y.fst + 1 = y'.fst ∧ y.fst + 1 + c_1 = y'.fst + y'.snd.snd.snd) ∧ Go.IntKind.u64.wrap ((Go.IntKind.u64.wrap (y.snd.snd.fst + h (↑y.fst : Int).toNat)).tdiv (4294967296 : Int)) = y'.snd.snd.fst ∧ Go.IntKind.i64.wrap ((↑y.fst : Int) + (1 : Int)) = (↑y'.fst : Int) ∧ y.fst + 1 = y'.fst ∧ c_1 * 1 = y'.snd.snd.snd ∧ (∀ (i : Nat), i < y.fst + 1 → (bif Decidable.decide (i < y.fst) then y.snd.fst i else (Go.IntKind.u64.wrap (y.snd.snd.fst + h (↑y.fst : Int).toNat)).tmod (4294967296 : Int)) = y'.snd.fst i) ∧ Max.max n m - y'.fst < Max.max n m - y.fst) ∧ (Decidable.decide ((↑y.fst : Int) < (↑m : Int)) = Bool.false → 0 = 0 ∧ y.fst = y.fst ∧ (y.fst ≤ y.fst + y.snd.snd.snd ∧ y.fst + y.snd.snd.snd ≤ Go.maxLen ∧ (y.fst + y.snd.snd.snd) * 1 = y.fst * 1 + y.snd.snd.snd) ∧ (y.fst + 1 ≤ Go.maxLen ∧ (y.fst + 1) * 8 ≤ 140737488355328) ∧ ∀ (c_1 : Nat), y.fst + 1 + c_1 ≤ Go.maxLen → ∃ (y' : Nat × (Nat → Int) × Int × Nat), (P y'.fst y'.snd.fst y'.snd.snd.fst ∧ y'.fst ≤ Max.max n m ∧ y'.fst + y'.snd.snd.snd ≤ Go.maxLen) ∧ (a = a ∧ n = n ∧ c = c ∧ ∀ (i : Nat), i < n → f i = f i) ∧ (b = b ∧ m = m ∧ d = d ∧ ∀ (i : Nat), i < m → h i = h i) ∧ (1 = 1 ∧ 1 = 1 ∧ 0 = 0 ∧ y.fst + 1 = y'.fst ∧ y.fst + 1 + c_1 = y'.fst + y'.snd.snd.snd) ∧ Go.IntKind.u64.wrap (y.snd.snd.fst.tdiv (4294967296 : Int)) = y'.snd.snd.fst ∧ Go.IntKind.i64.wrap ((↑y.fst : Int) + (1 : Int)) = (↑y'.fst : Int) ∧ y.fst + 1 = y'.fst ∧ c_1 * 1 = y'.snd.snd.snd ∧ (∀ (i : Nat), i < y.fst + 1 → (bif Decidable.decide (i < y.fst) then y.snd.fst i else y.snd.snd.fst.tmod (4294967296 : Int)) = y'.snd.fst i) ∧ Max.max n m - y'.fst < Max.max n m - y.fst))) ∧ ((Decidable.decide ((↑y.fst : Int) < (↑n : Int)) || Decidable.decide ((↑y.fst : Int) < (↑m : Int))) = Bool.false → 0 = 0 ∧ y.fst = y.fst ∧ (y.fst ≤ y.fst + y.snd.snd.snd ∧ y.fst + y.snd.snd.snd ≤ Go.maxLen ∧ (y.fst + y.snd.snd.snd) * 1 = y.fst * 1 + y.snd.snd.snd) ∧ (y.fst + 1 ≤ Go.maxLen ∧ (y.fst + 1) * 8 ≤ 140737488355328) ∧ ∀ (c : Nat), y.fst + 1 + c ≤ Go.maxLen → 0 + (y.fst + 1) ≤ y.fst + 1 ∧ y.fst + 1 = k ∧ y.fst + 1 ≤ y.fst + 1 + c ∧ ∀ (i : Nat), i < k → (bif Decidable.decide (0 + i < y.fst) then y.snd.fst (0 + i) else y.snd.snd.fst) = r i)) ∧ ((!x1) = Bool.true → (!x1) = Bool.true) ∧ ((!x1) = Bool.true → (!x1) = Bool.true) ∧ ((!x1) = Bool.true → (!x1) = Bool.true) ∧ (x1 = Bool.false → (!x1) = Bool.true) ∧ ((x1 || x2) = Bool.true → (x1 = Bool.true → ((0 : Int) ≤ (0 : Int) ∧ (0 : Int) < (↑n : Int)) ∧ (x2 = Bool.true → ((0 : Int) ≤ (0 : Int) ∧ (0 : Int) < (↑m : Int)) ∧ (1 ≤ Go.maxLen ∧ 8 ≤ 140737488355328) ∧ ∀ (c_1 : Nat), 1 + c_1 ≤ Go.maxLen → ∃ (y' : Nat × (Nat → Int) × Int × Nat), (P y'.fst y'.snd.fst y'.snd.snd.fst ∧ y'.fst ≤ Max.max n m ∧ y'.fst + y'.snd.snd.snd ≤ Go.maxLen) ∧ (a = a ∧ n = n ∧ c = c ∧ ∀ (i : Nat), i < n → f i = f i) ∧ (b = b ∧ m = m ∧ d = d ∧ ∀ (i : Nat), i < m → h i = h i) ∧ (1 = 1 ∧ 1 = 1 ∧ 0 = 0 ∧ 1 = y'.fst ∧ 1 + c_1 = y'.fst + y'.snd.snd.snd) ∧ Go.IntKind.u64.wrap (x5.tdiv (4294967296 : Int)) = y'.snd.snd.fst ∧ (1 : Int) = (↑y'.fst : Int) ∧ 1 = y'.fst ∧ c_1 * 1 = y'.snd.snd.snd ∧ (∀ (i : Nat), i < 1 → x7 = y'.snd.fst i) ∧ True) ∧ (x2 = Bool.false → (1 ≤ Go.maxLen ∧ 8 ≤ 140737488355328) ∧ ∀ (c_1 : Nat), 1 + c_1 ≤ Go.maxLen → ∃ (y' : Nat × (Nat → Int) × Int × Nat), (P y'.fst y'.snd.fst y'.snd.snd.fst ∧ y'.fst ≤ Max.max n m ∧ y'.fst + y'.snd.snd.snd ≤ Go.maxLen) ∧ (a = a ∧ n = n ∧ c = c ∧ ∀ (i : Nat), i < n → f i = f i) ∧ (b = b ∧ m = m ∧ d = d ∧ ∀ (i : Nat), i < m → h i = h i) ∧ (1 = 1 ∧ 1 = 1 ∧ 0 = 0 ∧ 1 = y'.fst ∧ 1 + c_1 = y'.fst + y'.snd.snd.snd) ∧ Go.IntKind.u64.wrap (x3.tdiv (4294967296 : Int)) = y'.snd.snd.fst ∧ (1 : Int) = (↑y'.fst : Int) ∧ 1 = y'.fst ∧ c_1 * 1 = y'.snd.snd.snd ∧ (∀ (i : Nat), i < 1 → x8 = y'.snd.fst i) ∧ True)) ∧ (x1 = Bool.false → (x2 = Bool.true → ((0 : Int) ≤ (0 : Int) ∧ (0 : Int) < (↑m : Int)) ∧ (1 ≤ Go.maxLen ∧ 8 ≤ 140737488355328) ∧ ∀ (c_1 : Nat), 1 + c_1 ≤ Go.maxLen → ∃ (y' : Nat × (Nat → Int) × Int × Nat), (P y'.fst y'.snd.fst y'.snd.snd.fst ∧ y'.fst ≤ Max.max n m ∧ y'.fst + y'.snd.snd.snd ≤ Go.maxLen) ∧ (a = a ∧ n = n ∧ c = c ∧ ∀ (i : Nat), i < n → f i = f i) ∧ (b = b ∧ m = m ∧ d = d ∧ ∀ (i : Nat), i < m → h i = h i) ∧ (1 = 1 ∧ 1 = 1 ∧ 0 = 0 ∧ 1 = y'.fst ∧ 1 + c_1 = y'.fst + y'.snd.snd.snd) ∧ Go.IntKind.u64.wrap (x9.tdiv (4294967296 : Int)) = y'.snd.snd.fst ∧ (1 : Int) = (↑y'.fst : Int) ∧ 1 = y'.fst ∧ c_1 * 1 = y'.snd.snd.snd ∧ (∀ (i : Nat), i < 1 → x10 = y'.snd.fst i) ∧ True) ∧ (x2 = Bool.false → (1 ≤ Go.maxLen ∧ 8 ≤ 140737488355328) ∧ ∀ (c_1 : Nat), 1 + c_1 ≤ Go.maxLen → ∃ (y' : Nat × (Nat → Int) × Int × Nat), (P y'.fst y'.snd.fst y'.snd.snd.fst ∧ y'.fst ≤ Max.max n m ∧ y'.fst + y'.snd.snd.snd ≤ Go.maxLen) ∧ (a = a ∧ n = n ∧ c = c ∧ ∀ (i : Nat), i < n → f i = f i) ∧ (b = b ∧ m = m ∧ d = d ∧ ∀ (i : Nat), i < m → h i = h i) ∧ (1 = 1 ∧ 1 = 1 ∧ 0 = 0 ∧ 1 = y'.fst ∧ 1 + c_1 = y'.fst + y'.snd.snd.snd) ∧ (0 : Int) = y'.snd.snd.fst ∧ (1 : Int) = (↑y'.fst : Int) ∧ 1 = y'.fst ∧ c_1 * 1 = y'.snd.snd.snd ∧ (∀ (i : Nat), i < 1 → (0 : Int) = y'.snd.fst i) ∧ True))) ∧ ((x1 || x2) = Bool.false → (1 ≤ Go.maxLen ∧ 8 ≤ 140737488355328) ∧ ∀ (c : Nat), 1 + c ≤ Go.maxLen → 1 ≤ 1 ∧ 1 = k ∧ 1 ≤ 1 + c ∧ ∀ (i : Nat), i < k → (0 : Int) = r i)) := by kernel_rfl
theorem vc_compare (a : Option Addr) (n c : Nat) (f : Nat → Int) (b : Option Addr) (m d : Nat) (h : Nat → Int) (P : Nat → Prop) (r : Int) :
    OwesR Try.prog cxR [] [(2, .inv (invCmp a n c f b m d h P))] 4 Try.f53 [xsI a n c .u64 f, xsI b m d .u64 h] false [.v (sI .i64 r)] =
    ((∀ (y : Nat), closedB (slotsAt 40 [(0, SV.one (xsI a n c Go.IntKind.u64 f)), (1, SV.one (xsI b m d Go.IntKind.u64 h)), (5, SV.one (sI Go.IntKind.i64 ((↑y : Int) - (1 : Int))))]) [] = Bool.true) ∧ ∃ (y : Nat), (P y ∧ y ≤ Max.max n m) ∧ (a = a ∧ n = n ∧ c = c ∧ ∀ (i : Nat), i < n → f i = f i) ∧ (b = b ∧ m = m ∧ d = d ∧ ∀ (i : Nat), i < m → h i = h i) ∧ Go.IntKind.i64.wrap ((if (↑m : Int) > (↑n : Int) then (↑m : Int) else (↑n : Int)) - (1 : Int)) = (↑y : Int) - (1 : Int) ∧ ∀ (y : Nat), P y ∧ y ≤ Max.max n m → (Decidable.decide ((↑y : Int) - (1 : Int) ≥ (0 : Int)) = Bool.true → (Decidable.decide ((↑y : Int) - (1 : Int) < (↑n : Int)) = Bool.true → ((0 : Int) ≤ (↑y : Int) - (1 : Int) ∧ (↑y : Int) - (1 : Int) < (↑n : Int)) ∧ (Decidable.decide ((↑y : Int) - (1 : Int) < (↑m : Int)) = Bool.true → ((0 : Int) ≤ (↑y : Int) - (1 : Int) ∧ (↑y : Int) - (1 : Int) < (↑m : Int)) ∧ (Decidable.decide (f ((↑y : Int) - (1 : Int)).toNat < h ((↑y : Int) - (1 : Int)).toNat) = Bool.true → (-1 : Int) = r) ∧ (Decidable.decide (f ((↑y : Int) - (1 : Int)).toNat < h ((↑y : Int) - (1 : Int)).toNat) = Bool.false → (Decidable.decide (f ((↑y : Int) - (1 : Int)).toNat > h ((↑y : Int) - (1 : Int)).toNat) = Bool.true → (1 : Int) = r) ∧ (Decidable.decide (f ((↑y : Int) - (1 : Int)).toNat > h ((↑y : Int) - (1 : Int)).toNat) = Bool.false → ∃ (y' : Nat), (P y' ∧ y' ≤ Max.max n m) ∧ (a = a ∧ n = n ∧ c = c ∧ ∀ (i : Nat), i < n → f i = f i) ∧ (b = b ∧ m = m ∧ d = d ∧ ∀ (i : Nat), i < m → h i = h i) ∧ Go.IntKind.i64.wrap ((↑y : Int) - (1 : Int) - (1 : Int)) = (↑y' : Int) - (1 : Int) ∧ y' < y))) ∧ (Decidable.decide ((↑y : Int) - (1 : Int) < (↑m : Int)) = Bool.false → (Decidable.decide (f ((↑y : Int) - (1 : Int)).toNat < (0 : Int)) = Bool.true → (-1 : Int) = r) ∧ (Decidable.decide (f ((↑y : Int) - (1 : Int)).toNat < (0 : Int)) = Bool.false → (Decidable.decide (f ((↑y : Int) - (1 : Int)).toNat > (0 : Int)) = Bool.true → (1 : Int) = r) ∧ (Decidable.decide (f ((↑y : Int) - (1 : Int)).toNat > (0 : Int)) = Bool.false → ∃ (y' : Nat), (P y' ∧ y' ≤ Max.max n m) ∧ (a = a ∧ n = n ∧ c = c ∧ ∀ (i : Nat), i < n → f i = f i) ∧ (b = b ∧ m = m ∧ d = d ∧ ∀ (i : Nat), i < m → h i = h i) ∧ Go.IntKind.i64.wrap ((↑y : Int) - (1 : Int) - (1 : Int)) = (↑y' : Int) - (1 : Int) ∧ y' < y)))) ∧ (Decidable.decide ((↑y : Int) - (1 : Int) < (↑n : Int)) = Bool.false → (Decidable.decide ((↑y : Int) - (1 : Int) < (↑m : Int)) = Bool.true → ((0 : Int) ≤ (↑y : Int) - (1 : Int) ∧ (↑y : Int) - (1 : Int) < (↑m : Int)) ∧ (Decidable.decide ((0 : Int) < h ((↑y : Int) - (1 : Int)).toNat) = Bool.true → (-1 : Int) = r) ∧ (Decidable.decide ((0 : Int) < h ((↑y : Int) - (1 : Int)).toNat) = Bool.false → (Decidable.decide ((0 : Int) > h ((↑y : Int) - (1 : Int)).toNat) = Bool.true → (1 : Int) = r) ∧ (Decidable.decide ((0 : Int) > h ((↑y : Int) - (1 : Int)).toNat) = Bool.false → ∃ (y' : Nat), (P y' ∧ y' ≤ Max.max n m) ∧ (a = a ∧ n = n ∧ c = c ∧ ∀ (i : Nat), i < n → f i = f i) ∧ (b = b ∧ m = m ∧ d = d ∧ ∀ (i : Nat), i < m → h i = h i) ∧ Go.IntKind.i64.wrap ((↑y : Int) - (1 : Int) - (1 : Int)) = (↑y' : Int) - (1 : Int) ∧ y' < y))) ∧ (Decidable.decide ((↑y : Int) - (1 : Int) < (↑m : Int)) = Bool.false → ∃ (y' : Nat), (P y' ∧ y' ≤ Max.max n m) ∧ (a = a ∧ n = n ∧ c = c ∧ ∀ (i : Nat), i < n → f i = f i) ∧ (b = b ∧ m = m ∧ d = d ∧ ∀ (i : Nat), i < m → h i = h i) ∧ Go.IntKind.i64.wrap ((↑y : Int) - (1 : Int) - (1 : Int)) = (↑y' : Int) - (1 : Int) ∧ y' < y))) ∧ (Decidable.decide ((↑y : Int) - (1 : Int) ≥ (0 : Int)) = Bool.false → (0 : Int) = r)) := by kernel_rfl
theorem vc_dLess (a : Option Addr) (n c : Nat) (f : Nat → Int) (b : Option Addr) (m d : Nat) (h : Nat → Int) (P : Nat → (Nat → Int) → Int → Prop) (r : Nat → Int) :
    OwesR Try.prog cxR [] [(4, .inv (invLess b m d h n P))] 4 Try.f54 [xsI a n c .u64 f, xsI b m d .u64 h] false [.s n .u64 r] =
    (let x1 : Nat := 0 + n; (0 ≤ 0 ∧ 0 ≤ Go.maxLen ∧ 0 = 0) ∧ (x1 ≤ Go.maxLen ∧ x1 * 8 ≤ 140737488355328) ∧ ∀ (c : Nat), x1 + c ≤ Go.maxLen → (∀ (y : Nat × (Nat → Int) × Int × Nat), closedB (slotsAt 49 [(1, SV.one (xsI b m d Go.IntKind.u64 h)), (5, SV.one (SA.sc (SC.slw 0 1 0 n (n + y.snd.snd.snd)))), (6, SV.one (sI Go.IntKind.u64 y.snd.snd.fst)), (13, SV.one (sI Go.IntKind.i64 (↑n : Int))), (14, SV.one (sI Go.IntKind.i64 (↑y.fst : Int)))]) [SO.row (22 : Go.TypeId) 1 n (r64 y.snd.fst) y.snd.snd.snd] = Bool.true) ∧ ∃ (y : Nat × (Nat → Int) × Int × Nat), (P y.fst y.snd.fst y.snd.snd.fst ∧ y.fst ≤ n) ∧ (b = b ∧ m = m ∧ d = d ∧ ∀ (i : Nat), i < m → h i = h i) ∧ (0 = 0 ∧ 1 = 1 ∧ 0 = 0 ∧ x1 = n ∧ x1 + c = n + y.snd.snd.snd) ∧ (0 : Int) = y.snd.snd.fst ∧ (↑x1 : Int) = (↑n : Int) ∧ (0 : Int) = (↑y.fst : Int) ∧ x1 = n ∧ c * 1 = y.snd.snd.snd ∧ (∀ (i : Nat), i < x1 → f (i - 0) = y.snd.fst i) ∧ ∀ (y : Nat × (Nat → Int) × Int × Nat), P y.fst y.snd.fst y.snd.snd.fst ∧ y.fst ≤ n → (Decidable.decide ((↑y.fst : Int) < (↑n : Int)) = Bool.true → (Decidable.decide ((↑y.fst : Int) < (↑m : Int)) = Bool.true → ((0 : Int) ≤ (↑y.fst : Int) ∧ (↑y.fst : Int) < (↑m : Int)) ∧ ((0 : Int) ≤ (↑y.fst : Int) ∧ (↑y.fst : Int) < (↑n : Int)) ∧ 0 + (↑y.fst : Int).toNat < n ∧ (Decidable.decide (y.snd.fst (0 + (↑y.fst : Int).toNat) < Go.IntKind.u64.wrap (y.snd.snd.fst + h (↑y.fst : Int).toNat)) = Bool.true → ((0 : Int) ≤ (↑y.fst : Int) ∧ (↑y.fst : Int) < (↑n : Int)) ∧ 0 + (↑y.fst : Int).toNat < n ∧ ((0 : Int) ≤ (↑y.fst : Int) ∧ (↑y.fst : Int) < (↑n : Int)) ∧ 0 + (↑y.fst : Int).toNat < n ∧ ((0 : Int) ≤ (↑y.fst : Int) ∧ (↑y.fst : Int) < (↑n : Int)) ∧ 0 + (↑y.fst : Int).toNat < n ∧ ((0 : Int) ≤ (↑y.fst : Int) ∧ (↑y.fst : Int) < (↑n : Int)) ∧ 0 + (↑y.fst : Int).toNat < n ∧ ∃ (y' : Nat × (Nat → Int) × Int × Nat), (P y'.fst y'.snd.fst y'.snd.snd.fst ∧ y'.fst ≤ n) ∧ (b = b ∧ m = m ∧ d = d ∧ ∀ (i : Nat), i < m → h i = h i) ∧ (0 = 0 ∧ 1 = 1 ∧ 0 = 0 ∧ n = n ∧ n + y.snd.snd.snd = n + y'.snd.snd.snd) ∧ (1 : Int) = y'.snd.snd.fst ∧ (↑n : Int) = (↑n : Int) ∧ Go.IntKind.i64.wrap ((↑y.fst : Int) + (1 : Int)) = (↑y'.fst : Int) ∧ n = n ∧ y.snd.snd.snd = y'.snd.snd.snd ∧ (∀ (i : Nat), i < n → (bif Decidable.decide (i = 0 + (↑y.fst : Int).toNat) then Go.IntKind.u64.wrap ((bif Decidable.decide (0 + (↑y.fst : Int).toNat = 0 + (↑y.fst : Int).toNat) then Go.IntKind.u64.wrap (y.snd.fst (0 + (↑y.fst : Int).toNat) + (4294967296 : Int)) else y.snd.fst (0 + (↑y.fst : Int).toNat)) - Go.IntKind.u64.wrap (y.snd.snd.fst + h (↑y.fst : Int).toNat)) else bif Decidable.decide (i = 0 + (↑y.fst : Int).toNat) then Go.IntKind.u64.wrap (y.snd.fst (0 + (↑y.fst : Int).toNat) + (4294967296 : Int)) else y.snd.fst i) = y'.snd.fst i) ∧ n - y'.fst < n - y.fst) ∧ (Decidable.decide (y.snd.fst (0 + (↑y.fst : Int).toNat) < Go.IntKind.u64.wrap (y.snd.snd.fst + h (↑y.fst : Int).toNat)) = Bool.false → ((0 : Int) ≤ (↑y.fst : Int) ∧ (↑y.fst : Int) < (↑n : Int)) ∧ 0 + (↑y.fst : Int).toNat < n ∧ ((0 : Int) ≤ (↑y.fst : Int) ∧ (↑y.fst : Int) < (↑n : Int)) ∧ 0 + (↑y.fst : Int).toNat < n ∧ ∃ (y' : Nat × (Nat → Int) × Int × Nat), (P y'.fst y'.snd.fst y'.snd.snd.fst ∧ y'.fst ≤ n) ∧ (b = b ∧ m = m ∧ d = d ∧ ∀ (i : Nat), i < m → h i = h i) ∧ (0 = 0 ∧ 1 = 1 ∧ 0 = 0 ∧ n = n ∧ n + y.snd.snd.snd = n + y'.snd.snd.snd) ∧ (0 : Int) = y'.snd.snd.fst ∧ (↑n : Int) = (↑n : Int) ∧ Go.IntKind.i64.wrap ((↑y.fst : Int) + (1 : Int)) = (↑y'.fst : Int) ∧ n = n ∧ y.snd.snd.snd = y'.snd.snd.snd ∧ (∀ (i : Nat), i < n → (bif Decidable.decide (i = 0 + (↑y.fst : Int).toNat) then Go.IntKind.u64.wrap (y.snd.fst (0 + (↑y.fst : Int).toNat) - Go.IntKind.u64.wrap (y.snd.snd.fst + h (↑y.fst : Int).toNat)) else y.snd.fst i) = y'.snd.fst i) ∧ n - y'.fst < n - y.fst)) ∧ (Decidable.decide ((↑y.fst : Int) < (↑m : Int)) = Bool.false → ((0 : Int) ≤ (↑y.fst : Int) ∧ (↑y.fst : Int) < (↑n : Int)) ∧ 0 + (↑y.fst : Int).toNat < n ∧ (Decidable.decide (y.snd.fst (0 + (↑y.fst : Int).toNat) < y.snd.snd.fst) = Bool.true → ((0 : Int) ≤ (↑y.fst : Int) ∧ (↑y.fst : Int) < (↑n : Int)) ∧ 0 + (↑y.fst : Int).toNat < n ∧ ((0 : Int) ≤ (↑y.fst : Int) ∧ (↑y.fst : Int) < (↑n : Int)) ∧ 0 + (↑y.fst : Int).toNat < n ∧ ((0 : Int) ≤ (↑y.fst : Int) ∧ (↑y.fst : Int) < (↑n : Int)) ∧ 0 + (↑y.fst : Int).toNat < n ∧ ((0 : Int) ≤ (↑y.fst : Int) ∧ (↑y.fst : Int) < (↑n : Int)) ∧ 0 + (↑y.fst : Int).toNat < n ∧ ∃ (y' : Nat × (Nat → Int) × Int × Nat), (P y'.fst y'.snd.fst y'.snd.snd.fst ∧ y'.fst ≤ n) ∧ (b = b ∧ m = m ∧ d = d ∧ ∀ (i : Nat), i < m → h i = h i) ∧ (0 = 0 ∧ 1 = 1 ∧ 0 = 0 ∧ n = n ∧ n + y.snd.snd.snd = n + y'.snd.snd.snd) ∧ (1 : Int) = y'.snd.snd.fst ∧ (↑n : Int) = (↑n : Int) ∧ Go.IntKind.i64.wrap ((↑y.fst : Int) + (1 : Int)) = (↑y'.fst : Int) ∧ n = n ∧ y.snd.snd.snd = y'.snd.snd.snd ∧ (∀ (i : Nat), i < n → (bif Decidable.decide (i = 0 + (↑y.fst : Int).toNat) then Go.IntKind.u64.wrap ((bif Decidable.decide (0 + (↑y.fst : Int).toNat = 0 + (↑y.fst : Int).toNat) then Go.IntKind.u64.wrap (y.snd.fst (0 + (↑y.fst : Int).toNat) + (4294967296 : Int)) else y.snd.fst (0 + (↑y.fst : Int).toNat)) - y.snd.snd.fst) else bif Decidable.decide (i = 0 + (↑y.fst : Int).toNat) then Go.IntKind.u64.wrap (y.snd.fst (0 + (↑y.fst : Int).toNat) + (4294967296 : Int)) else y.snd.fst i) = y'.snd.fst i) ∧ n - y'.fst < n - y.fst) ∧ (Decidable.decide (y.snd.fst (0 + (↑y.fst : Int).toNat) < y.snd.snd.fst) = Bool.false → ((0 : Int) ≤ (↑y.fst : Int) ∧ (↑y.fst : Int) < (↑n : Int)) ∧ 0 + (↑y.fst : Int).toNat < n ∧ ((0 : Int) ≤ (↑y.fst : Int) ∧ (↑y.fst : Int) < (↑n : Int)) ∧ 0 + (↑y.fst : Int).toNat < n ∧ ∃ (y' : Nat × (Nat → Int) × Int × Nat), (P y'.fst y'.snd.fst y'.snd.snd.fst ∧ y'.fst ≤ n) ∧ (b = b ∧ m = m ∧ d = d ∧ ∀ (i : Nat), i < m → h i = h i) ∧ (0 = 0 ∧ 1 = 1 ∧ 0 = 0 ∧ n = n ∧ n + y.snd.snd.snd = n + y'.snd.snd.snd) ∧ (0 : Int) = y'.snd.snd.fst ∧ (↑n : Int) = (↑n : Int) ∧ Go.IntKind.i64.wrap ((↑y.fst : Int) + (1 : Int)) = (↑y'.fst : Int) ∧ n = n ∧ y.snd.snd.snd = y'.snd.snd.snd ∧ (∀ (i : Nat), i < n → (bif Decidable.decide (i = 0 + (↑y.fst : Int).toNat) then Go.IntKind.u64.wrap (y.snd.fst (0 + (↑y.fst : Int).toNat) - y.snd.snd.fst) else y.snd.fst i) = y'.snd.fst i) ∧ n - y'.fst < n - y.fst))) ∧ (Decidable.decide ((↑y.fst : Int) < (↑n : Int)) = Bool.false → x1 ≤ n ∧ n = n ∧ n ≤ n + y.snd.snd.snd ∧ ∀ (i : Nat), i < n → y.snd.fst (0 + i) = r i)) := by kernel_rfl
theorem vc_shorn (a : Option Addr) (n c : Nat) (f : Nat → Int) (P : Nat → Prop) (k : Nat) (r : Nat → Int) :
    OwesR Try.prog cxR [] [(1, .inv (invShorn f P))] 4 Try.f50 [xsI a n c .u64 f] true [.s k .u64 r] =
    ((∀ (y : Option Go.Addr × Nat × Nat), closedB (slotsAt 21 [(0, SV.one (xsI y.fst y.snd.fst y.snd.snd Go.IntKind.u64 f))]) [] = Bool.true) ∧ ∃ (y : Option Go.Addr × Nat × Nat), P y.snd.fst ∧ (a = y.fst ∧ n = y.snd.fst ∧ c = y.snd.snd ∧ ∀ (i : Nat), i < n → f i = f i) ∧ ∀ (y : Option Go.Addr × Nat × Nat), P y.snd.fst → (Decidable.decide ((↑y.snd.fst : Int) > (0 : Int)) = Bool.true → Decidable.decide ((↑y.snd.fst : Int) > (0 : Int)) = Bool.true) ∧ (Decidable.decide ((↑y.snd.fst : Int) > (0 : Int)) = Bool.true → Decidable.decide ((↑y.snd.fst : Int) > (0 : Int)) = Bool.true) ∧ (Decidable.decide ((↑y.snd.fst : Int) > (0 : Int)) = Bool.true → Decidable.decide ((↑y.snd.fst : Int) > (0 : Int)) = Bool.true) ∧ (Decidable.decide ((↑y.snd.fst : Int) > (0 : Int)) = Bool.true → Decidable.decide ((↑y.snd.fst : Int) > (0 : Int)) = Bool.true) ∧ (Decidable.decide ((↑y.snd.fst : Int) > (0 : Int)) = Bool.true → (0 : Int) ≤ Go.IntKind.i64.wrap ((↑y.snd.fst : Int) - (1 : Int)) ∧ Go.IntKind.i64.wrap ((↑y.snd.fst : Int) - (1 : Int)) < (↑y.snd.fst : Int)) ∧ (Decidable.decide ((↑y.snd.fst : Int) > (0 : Int)) = Bool.true → Decidable.decide ((↑y.snd.fst : Int) > (0 : Int)) = Bool.true) ∧ (Decidable.decide ((↑y.snd.fst : Int) > (0 : Int)) = Bool.true → Decidable.decide ((↑y.snd.fst : Int) > (0 : Int)) = Bool.true) ∧ (Decidable.decide ((↑y.snd.fst : Int) > (0 : Int)) = Bool.true → Decidable.decide ((↑y.snd.fst : Int) > (0 : Int)) = Bool.true) ∧ ((Decidable.decide ((↑y.snd.fst : Int) > (0 : Int)) && f (Go.IntKind.i64.wrap ((↑y.snd.fst : Int) - (1 : Int))).toNat == (0 : Int)) = Bool.true → ((0 : Int) ≤ Go.IntKind.i64.wrap ((↑y.snd.fst : Int) - (1 : Int)) ∧ Go.IntKind.i64.wrap ((↑y.snd.fst : Int) - (1 : Int)) ≤ (↑y.snd.fst : Int)) ∧ ∃ (y' : Option Go.Addr × Nat × Nat), P y'.snd.fst ∧ (y.fst = y'.fst ∧ (Go.IntKind.i64.wrap ((↑y.snd.fst : Int) - (1 : Int))).toNat = y'.snd.fst ∧ y.snd.snd = y'.snd.snd ∧ ∀ (i : Nat), i < (Go.IntKind.i64.wrap ((↑y.snd.fst : Int) - (1 : Int))).toNat → f i = f i) ∧ y'.snd.fst < y.snd.fst) ∧ ((Decidable.decide ((↑y.snd.fst : Int) > (0 : Int)) && f (Go.IntKind.i64.wrap ((↑y.snd.fst : Int) - (1 : Int))).toNat == (0 : Int)) = Bool.false → y.snd.fst = k ∧ ∀ (i : Nat), i < k → f i = r i)) := by kernel_rfl
theorem vc_small (a : Option Addr) (n c : Nat) (f : Nat → Int) (x : Int) (z : Bool) :
    OwesR Try.prog cxR slShorn [] 4 Try.f52 [xsI a n c .u64 f] false [.v (sI .u64 x), .v (sB z)] =
    (let x1 : Int := (↑(lenDg (vn n fun (i : Nat) => f i)) : Int); (∀ (_ : Nat), True) ∧ (dgs n fun (i : Nat) => intsC (SC.val (Go.Value.int Go.IntKind.u64 (f i)))) ∧ n ≤ 1000 ∧ ∀ (a : Option Go.Addr) (cap : Nat), (a = Option.none → lenDg (vn n fun (i : Nat) => f i) = 0 ∧ cap = 0) → lenDg (vn n fun (i : Nat) => f i) ≤ cap → ((x1 == (0 : Int)) = Bool.true → (0 : Int) = x ∧ Bool.true = z) ∧ ((x1 == (0 : Int)) = Bool.false → ((0 : Int) ≤ (0 : Int) ∧ (0 : Int) < x1) ∧ dg (vn n fun (i : Nat) => f i) 0 = x ∧ (x1 == (1 : Int)) = z)) := by kernel_rfl
theorem vc_dTimes (a : Option Addr) (n c : Nat) (f : Nat → Int) (b : Option Addr) (m d : Nat) (h : Nat → Int) (P : Nat → (Nat → Int) → Prop) (Q : Nat → Nat → (Nat → Int) → Int → Prop) (r : Nat → Int) :
    OwesR Try.prog cxR [] [(3, .inv (invTi a n c f b m d h P)), (7, .invR (invTj a n c f b m d h Q) (fun y z => z.1 = y.1))] 4 Try.f29 [xsI a n c .u64 f, xsI b m d .u64 h] false [.s (n + m) .u64 r] =
    (let x1 : Int := Go.IntKind.i64.wrap ((↑n : Int) + (↑m : Int)); let x2 : Nat := n + m; let x3 : Nat := x1.toNat; let x4 : Nat := (x3 - x3) * 1; let x5 : Int := (↑x2 : Int); ((0 : Int) ≤ x1 ∧ x1 ≤ x1 ∧ (8 : Int) * x1 ≤ (281474976710656 : Int) ∧ x1 ≤ (9223372036854775807 : Int)) ∧ (∀ (y : Nat × (Nat → Int)), closedB (slotsAt 63 [(0, SV.one (xsI a n c Go.IntKind.u64 f)), (1, SV.one (xsI b m d Go.IntKind.u64 h)), (5, SV.one (SA.sc (SC.slw 0 1 0 x2 x2))), (18, SV.one (xsI a n c Go.IntKind.u64 f)), (19, SV.one (sI Go.IntKind.i64 (↑n : Int))), (20, SV.one (sI Go.IntKind.i64 (↑y.fst : Int)))]) [SO.row (22 : Go.TypeId) 1 x2 (r64 y.snd) 0] = Bool.true) ∧ ∃ (y : Nat × (Nat → Int)), (P y.fst y.snd ∧ y.fst ≤ n) ∧ (a = a ∧ n = n ∧ c = c ∧ ∀ (i : Nat), i < n → f i = f i) ∧ (b = b ∧ m = m ∧ d = d ∧ ∀ (i : Nat), i < m → h i = h i) ∧ (0 = 0 ∧ ([(0 : Int) ≤ x1 ∧ x1 ≤ x1 ∧ (8 : Int) * x1 ≤ (281474976710656 : Int) ∧ x1 ≤ (9223372036854775807 : Int)], 1, [] ++ [SO.row 22 1 x3 (fun (x c : Nat) => (flat (List.map litC (Go.Value.int Go.IntKind.u64 (0 : Int)).cells.toList)).getD c (SC.bit Bool.false)) x4]).snd.fst = 1 ∧ 0 = 0 ∧ x3 = x2 ∧ x3 = x2) ∧ (a = a ∧ n = n ∧ c = c ∧ ∀ (i : Nat), i < n → f i = f i) ∧ (↑n : Int) = (↑n : Int) ∧ (0 : Int) = (↑y.fst : Int) ∧ x3 = x2 ∧ x4 = 0 ∧ (∀ (i : Nat), i < x3 → (0 : Int) = y.snd i) ∧ ∀ (y : Nat × (Nat → Int)), P y.fst y.snd ∧ y.fst ≤ n → (Decidable.decide ((↑y.fst : Int) < (↑n : Int)) = Bool.true → ((0 : Int) ≤ (↑y.fst : Int) ∧ (↑y.fst : Int) < (↑n : Int)) ∧ (∀ (y : Nat × Nat × (Nat → Int) × Int), closedB (slotsAt 63 [(0, SV.one (xsI a n c Go.IntKind.u64 f)), (1, SV.one (xsI b m d Go.IntKind.u64 h)), (5, SV.one (SA.sc (SC.slw 0 1 0 x2 x2))), (18, SV.one (xsI a n c Go.IntKind.u64 f)), (19, SV.one (sI Go.IntKind.i64 (↑n : Int))), (20, SV.one (sI Go.IntKind.i64 (↑y.fst : Int))), (6, SV.one (sI Go.IntKind.i64 (↑y.fst : Int))), (7, SV.one (sI Go.IntKind.u64 (f y.fst))), (8, SV.one (sI Go.IntKind.u64 y.snd.snd.snd)), (25, SV.one (xsI b m d Go.IntKind.u64 h)), (26, SV.one (sI Go.IntKind.i64 (↑m : Int))), (27, SV.one (sI Go.IntKind.i64 (↑y.snd.fst : Int)))]) [SO.row (22 : Go.TypeId) 1 x2 (r64 y.snd.snd.fst) 0] = Bool.true) ∧ ∃ (y0 : Nat × Nat × (Nat → Int) × Int), ((Q y0.fst y0.snd.fst y0.snd.snd.fst y0.snd.snd.snd ∧ y0.fst < n ∧ y0.snd.fst ≤ m) ∧ y0.fst = y0.fst) ∧ (a = a ∧ n = n ∧ c = c ∧ ∀ (i : Nat), i < n → f i = f i) ∧ (b = b ∧ m = m ∧ d = d ∧ ∀ (i : Nat), i < m → h i = h i) ∧ (0 = 0 ∧ 1 = 1 ∧ 0 = 0 ∧ x2 = x2 ∧ x2 = x2) ∧ (↑y.fst : Int) = (↑y0.fst : Int) ∧ f (↑y.fst : Int).toNat = f y0.fst ∧ (0 : Int) = y0.snd.snd.snd ∧ (a = a ∧ n = n ∧ c = c ∧ ∀ (i : Nat), i < n → f i = f i) ∧ (↑n : Int) = (↑n : Int) ∧ (↑y.fst : Int) = (↑y0.fst : Int) ∧ (b = b ∧ m = m ∧ d = d ∧ ∀ (i : Nat), i < m → h i = h i) ∧ (↑m : Int) = (↑m : Int) ∧ (0 : Int) = (↑y0.snd.fst : Int) ∧ x2 = x2 ∧ 0 = 0 ∧ (∀ (i : Nat), i < x2 → y.snd i = y0.snd.snd.fst i) ∧ ∀ (y_1 : Nat × Nat × (Nat → Int) × Int), Q y_1.fst y_1.snd.fst y_1.snd.snd.fst y_1.snd.snd.snd ∧ y_1.fst < n ∧ y_1.snd.fst ≤ m → y_1.fst = y0.fst → (Decidable.decide ((↑y_1.snd.fst : Int) < (↑m : Int)) = Bool.true → ((0 : Int) ≤ (↑y_1.snd.fst : Int) ∧ (↑y_1.snd.fst : Int) < (↑m : Int)) ∧ ((0 : Int) ≤ Go.IntKind.i64.wrap ((↑y_1.fst : Int) + (↑y_1.snd.fst : Int)) ∧ Go.IntKind.i64.wrap ((↑y_1.fst : Int) + (↑y_1.snd.fst : Int)) < x5) ∧ 0 + (Go.IntKind.i64.wrap ((↑y_1.fst : Int) + (↑y_1.snd.fst : Int))).toNat < x2 ∧ ((0 : Int) ≤ Go.IntKind.i64.wrap ((↑y_1.fst : Int) + (↑y_1.snd.fst : Int)) ∧ Go.IntKind.i64.wrap ((↑y_1.fst : Int) + (↑y_1.snd.fst : Int)) < x5) ∧ 0 + (Go.IntKind.i64.wrap ((↑y_1.fst : Int) + (↑y_1.snd.fst : Int))).toNat < x2 ∧ ∃ (y' : Nat × Nat × (Nat → Int) × Int), ((Q y'.fst y'.snd.fst y'.snd.snd.fst y'.snd.snd.snd ∧ y'.fst < n ∧ y'.snd.fst ≤ m) ∧ y'.fst = y0.fst) ∧ (a = a ∧ n = n ∧ c = c ∧ ∀ (i : Nat), i < n → f i = f i) ∧ (b = b ∧ m = m ∧ d = d ∧ ∀ (i : Nat), i < m → h i = h i) ∧ (0 = 0 ∧ 1 = 1 ∧ 0 = 0 ∧ x2 = x2 ∧ x2 = x2) ∧ (↑y_1.fst : Int) = (↑y'.fst : Int) ∧ f y_1.fst = f y'.fst ∧ Go.IntKind.u64.wrap ((Go.IntKind.u64.wrap (Go.IntKind.u64.wrap (Go.IntKind.u64.wrap (f y_1.fst * h (↑y_1.snd.fst : Int).toNat) + y_1.snd.snd.fst (0 + (Go.IntKind.i64.wrap ((↑y_1.fst : Int) + (↑y_1.snd.fst : Int))).toNat)) + y_1.snd.snd.snd)).tdiv (4294967296 : Int)) = y'.snd.snd.snd ∧ (a = a ∧ n = n ∧ c = c ∧ ∀ (i : Nat), i < n → f i = f i) ∧ (↑n : Int) = (↑n : Int) ∧ (↑y_1.fst : Int) = (↑y'.fst : Int) ∧ (b = b ∧ m = m ∧ d = d ∧ ∀ (i : Nat), i < m → h i = h i) ∧ (↑m : Int) = (↑m : Int) ∧ Go.IntKind.i64.wrap ((↑y_1.snd.fst : Int) + (1 : Int)) = (↑y'.snd.fst : Int) ∧ x2 = x2 ∧ 0 = 0 ∧ (∀ (i : Nat), i < x2 → (bif Decidable.decide (i = 0 + (Go.IntKind.i64.wrap ((↑y_1.fst : Int) + (↑y_1.snd.fst : Int))).toNat) then (Go.IntKind.u64.wrap (Go.IntKind.u64.wrap (Go.IntKind.u64.wrap (f y_1.fst * h (↑y_1.snd.fst : Int).toNat) + y_1.snd.snd.fst (0 + (Go.IntKind.i64.wrap ((↑y_1.fst : Int) + (↑y_1.snd.fst : Int))).toNat)) + y_1.snd.snd.snd)).tmod (4294967296 : Int) else y_1.snd.snd.fst i) = y'.snd.snd.fst i) ∧ m - y'.snd.fst < m - y_1.snd.fst) ∧ (Decidable.decide ((↑y_1.snd.fst : Int) < (↑m : Int)) = Bool.false → ((0 : Int) ≤ Go.IntKind.i64.wrap ((↑y_1.fst : Int) + (↑m : Int)) ∧ Go.IntKind.i64.wrap ((↑y_1.fst : Int) + (↑m : Int)) < x5) ∧ 0 + (Go.IntKind.i64.wrap ((↑y_1.fst : Int) + (↑m : Int))).toNat < x2 ∧ ∃ (y' : Nat × (Nat → Int)), (P y'.fst y'.snd ∧ y'.fst ≤ n) ∧ (a = a ∧ n = n ∧ c = c ∧ ∀ (i : Nat), i < n → f i = f i) ∧ (b = b ∧ m = m ∧ d = d ∧ ∀ (i : Nat), i < m → h i = h i) ∧ (0 = 0 ∧ 1 = 1 ∧ 0 = 0 ∧ x2 = x2 ∧ x2 = x2) ∧ (a = a ∧ n = n ∧ c = c ∧ ∀ (i : Nat), i < n → f i = f i) ∧ (↑n : Int) = (↑n : Int) ∧ Go.IntKind.i64.wrap ((↑y_1.fst : Int) + (1 : Int)) = (↑y'.fst : Int) ∧ x2 = x2 ∧ 0 = 0 ∧ (∀ (i : Nat), i < x2 → (bif Decidable.decide (i = 0 + (Go.IntKind.i64.wrap ((↑y_1.fst : Int) + (↑m : Int))).toNat) then y_1.snd.snd.snd else y_1.snd.snd.fst i) = y'.snd i) ∧ n - y'.fst < n - y.fst)) ∧ (Decidable.decide ((↑y.fst : Int) < (↑n : Int)) = Bool.false → 0 + x2 ≤ x2 ∧ x2 = x2 ∧ x2 ≤ x2 ∧ ∀ (i : Nat), i < x2 → y.snd (0 + i) = r i)) := by kernel_rfl
end Go.Proofs.Ytjpddnjgbgpegaa
end
