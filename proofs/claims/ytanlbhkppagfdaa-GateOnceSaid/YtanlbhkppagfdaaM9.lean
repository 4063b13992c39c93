/-
  Texts: Sx14, Sx13, Wsp, Wsp2, Wsp3, Wsp4, Wsp5, Sx15, Sx16.
-/
import Derived.Test.YtanlbhkppagfdaaM1
import Derived.Test.YtanlbhkppagfdaaM2
import Derived.Test.YtanlbhkppagfdaaM3
import Derived.Test.YtanlbhkppagfdaaM4
import Derived.Test.YtanlbhkppagfdaaM5
import Derived.Test.YtanlbhkppagfdaaM6
import Derived.Test.YtanlbhkppagfdaaM7
import Derived.Test.YtanlbhkppagfdaaM8
section
namespace Go.Sx
open Go.RowKit
inductive RK where
  | k (x : SK)
  | s (n w : Nat) (g : Nat → Nat → SC)
inductive RS where
  | v (x : SA)
  | s (n : Nat) (k : IntKind) (g : Nat → Int)
  | rows (n wd : Nat) (g : Nat → Nat → SC)
  | st (ks : List RK)
  | ex (P : (List Nat → Option Addr × Nat) → Prop) (f : (List Nat → Option Addr × Nat) → RS)
structure SSpec where
  share : Bool
  of : List SA → Option (List Prop × List RS)
def xsI (a : Option Addr) (n cap : Nat) (k : IntKind) (g : Nat → Int) : SA := .sc (.xs a n cap 1 fun i _ => .val (.int k (g i)))
def answersK : List RK → (List SK → Prop) → Prop
  | [], K => K []
  | .k x :: r, K => answersK r fun l => K (x :: l)
  | .s n w g :: r, K => ∀ (a : Option Addr) (cap : Nat), (a = none → n = 0 ∧ cap = 0) → n ≤ cap → answersK r fun l => K (.c (.xs a n cap w g) :: l)
def answer1 : RS → (SA → Prop) → Prop
  | .v x, K => K x
  | .s n k g, K => ∀ (a : Option Addr) (cap : Nat), (a = none → n = 0 ∧ cap = 0) → n ≤ cap → K (xsI a n cap k g)
  | .rows n wd g, K => ∀ (a : Option Addr) (cap : Nat), (a = none → n = 0 ∧ cap = 0) → n ≤ cap → K (.sc (.xs a n cap wd g))
  | .st ks, K => answersK ks fun l => K (.agg l)
  | .ex P f, K => ∀ ac, P ac → answer1 (f ac) K
def answers : List RS → (List SA → Prop) → Prop
  | [], K => K []
  | r :: rs, K => answer1 r fun x => answers rs fun l => K (x :: l)
abbrev farE (w : World) (far : Nat → Prop) : Env := ⟨fun _ => False, fun b o v => far b ∧ w.cell? ⟨b, o, none⟩ = some v⟩
def isSl (w : World) (far : Nat → Prop) (n wd : Nat) (g : Nat → Nat → SC) (y : Value) : Prop :=
  ∃ a cap, y = .slice a n cap ∧ (a = none → n = 0 ∧ cap = 0) ∧ n ≤ cap ∧ ∀ b, a = some b → (0 < n → b.spot = none) ∧ ∀ i, i < n → ∀ c, c < wd → ((g i c).bnd (farE w far) ∧ (g i c).fit = true) ∧ far b.block ∧ w.cell? ⟨b.block, b.off + (i * wd + c), none⟩ = some ((g i c).conc Rho.nil)
def isG (w : World) (far : Nat → Prop) : List RK → List Value → Prop
  | [], vs => vs = []
  | .k x :: r, vs => ∃ vs', vs = concs Rho.nil [x] ++ vs' ∧ x.bnd none0 ∧ isG w far r vs'
  | .s n wd g :: r, vs => ∃ v vs', vs = v :: vs' ∧ isSl w far n wd g v ∧ isG w far r vs'
def RS.is (w : World) (far : Nat → Prop) : RS → Value → Prop
  | .v x, y => y = x.conc Rho.nil ∧ x.bnd none0
  | .s n k g, y => ∃ a cap, y = .slice a n cap ∧ (a = none → n = 0 ∧ cap = 0) ∧ n ≤ cap ∧ ∀ b, a = some b → (0 < n → b.spot = none) ∧ ∀ i, i < n → far b.block ∧ w.cell? ⟨b.block, b.off + i, none⟩ = some (.int k (g i))
  | .rows n wd g, y => isSl w far n wd g y
  | .st ks, y => ∃ vs : List Value, y = .agg vs.toArray ∧ isG w far ks vs
  | .ex P f, y => ∃ ac, P ac ∧ RS.is w far (f ac) y
def RS.isL (w : World) (far : Nat → Prop) : List RS → List Value → Prop
  | [], [] => True
  | r :: rs, y :: ys => r.is w far y ∧ RS.isL w far rs ys
  | _, _ => False
def valL : List Value → Value
  | [v] => v
  | vs => .tuple vs.toArray
def FnOKs (P : Program) (gl : Globs) (f : Nat) (s : SSpec) : Prop :=
  ∀ args ps rs, s.of args = some (ps, rs) → Ok ps → ∀ (ρ : Rho) (w : World), FzOK ρ.fz w → GlobsOK gl ρ.fz → (∀ x ∈ args, x.bnd ⟨fun _ => True, ρ.fz⟩) →
    (callFunc f (args.map (SA.conc ρ)).toArray).run P w = .ok (.enter f (args.map (SA.conc ρ)).toArray) w ∧
      Calls P f (args.map (SA.conc ρ)).toArray w fun e w' => ∃ vs, e = .returned (valL vs) ∧ RS.isL w' (fun b => w.heap.size ≤ b ∨ (s.share = true ∧ ∃ o u, ρ.fz b o u)) rs vs ∧ Below w.heap.size w w'
def getSS : List (Nat × SSpec) → Nat → Option SSpec
  | [], _ => none
  | (g, s) :: r, f => match Nat.beq g f with
    | true => some s
    | false => getSS r f
theorem getSS_ok {P : Program} {gl : Globs} : ∀ {l : List (Nat × SSpec)} {f : Nat} {s : SSpec}, (∀ p ∈ l, FnOKs P gl p.1 p.2) → getSS l f = some s → FnOKs P gl f s
  | [], _, _, _, h => by simp [getSS] at h
  | (g, s') :: r, f, s, hc, h => by
    simp only [getSS] at h
    split at h
    · rename_i hg
      simp only [Option.some.injEq] at h; subst h
      have : g = f := Nat.eq_of_beq_eq_true hg
      subst this
      exact hc (g, s') (by simp)
    · exact getSS_ok (fun p hp => hc p (by simp [hp])) h
def lentK (ob : List SO) : List SK → (List SK → Prop) → Prop
  | [], K => K []
  | .c (.slw o w off len cap) :: r, K => match ob[o]? with
    | some (.row _ w' n g _) => match Nat.beq w w' with
      | true => ands [off + len ≤ n, len ≤ cap] (∀ a : Addr, lentK ob r fun l => K (.c (.xs (some a) len cap w (fun i c => g (off + i) c)) :: l))
      | false => StuckAt "lent"
    | _ => StuckAt "lent"
  | k :: r, K => lentK ob r fun l => K (k :: l)
def lent (ob : List SO) : List SA → (List SA → Prop) → Prop
  | [], K => K []
  | .sc (.sl o off len cap) :: r, K => match ob[o]? with
    | some (.cells _ ks _) => match sub ks off len with
      | some cs => match kindHead cs with
        | some k => match kindAll k cs with
          | true => ands [len ≤ cap] (∀ a : Addr, lent ob r fun l => K (xsI (some a) len cap k (selG cs) :: l))
          | false => StuckAt "lent"
        | none => StuckAt "lent"
      | none => StuckAt "lent"
    | _ => StuckAt "lent"
  | .sc (.slw o w off len cap) :: r, K => match ob[o]? with
    | some (.row _ w' n g _) => match Nat.beq w w' with
      | true => ands [off + len ≤ n, len ≤ cap] (∀ a : Addr, lent ob r fun l => K (.sc (.xs (some a) len cap w (fun i c => g (off + i) c)) :: l))
      | false => StuckAt "lent"
    | _ => StuckAt "lent"
  | .agg ks :: r, K => lentK ob ks fun ks' => lent ob r fun l => K (.agg ks' :: l)
  | x :: r, K => lent ob r fun l => K (x :: l)
def frzK : List SK → Option (List SK × Nat × Nat × Nat × Nat × Nat × List SK)
  | [] => none
  | .c (.slw o w off len cap) :: r => some ([], o, w, off, len, cap, r)
  | k :: r => match frzK r with
    | some (p, z) => some (k :: p, z)
    | none => none
def mkA (b : Bool) (k1 : List SK) (x : SC) (k2 : List SK) : SA :=
  match b with
  | true => .sc x
  | false => .agg (k1 ++ SK.c x :: k2)
theorem mkA_bnd {b : Bool} {k1 k2 : List SK} {x y : SC} {E : Env} (h : (mkA b k1 x k2).bnd E) (hy : y.bnd E) : (mkA b k1 y k2).bnd E := by
  cases b with
  | true => exact hy
  | false =>
    intro k hk
    rcases List.mem_append.1 hk with hk | hk
    · exact h k (List.mem_append.2 (.inl hk))
    · rcases List.mem_cons.1 hk with rfl | hk
      · exact hy
      · exact h k (List.mem_append.2 (.inr (List.mem_cons_of_mem _ hk)))
theorem mkA_conc {b : Bool} {k1 k2 : List SK} {x y : SC} {ρ : Rho} (h : x.conc ρ = y.conc ρ) : (mkA b k1 x k2).conc ρ = (mkA b k1 y k2).conc ρ := by
  cases b with
  | true => exact h
  | false =>
    simp only [mkA, SA.conc, concs, flat_append, flat, SK.cells, List.map_append, List.map_cons, List.map_nil, h]
def hasXs : SC → Bool
  | .xs _ _ _ _ _ => true
  | _ => false
def wideS (xs : Bool) (ks : List SK) (off len : Nat) : Option Nat :=
  match Nat.beq off 0 && (Nat.blt 0 len && (((flat ks).any hasXs || !xs) && ((flat ks).all bareC && Nat.beq (len * ((flat ks).length / len)) (flat ks).length))) with
  | true => some ((flat ks).length / len)
  | false => none
theorem wideS_spec {xs : Bool} {ks : List SK} {off len w : Nat} (h : wideS xs ks off len = some w) : off = 0 ∧ len * w = (flat ks).length ∧ ∀ c ∈ flat ks, bareC c = true := by
  unfold wideS at h
  split at h
  · rename_i hb
    simp only [Option.some.injEq] at h
    subst h
    simp only [Bool.and_eq_true] at hb
    exact ⟨Nat.eq_of_beq_eq_true hb.1, Nat.eq_of_beq_eq_true hb.2.2.2.2, List.all_eq_true.1 hb.2.2.2.1⟩
  · cases h
def frzIn : List SA → Option (List SA × (Bool × List SK × Nat × Nat × Nat × Nat × Nat × List SK) × List SA)
  | [] => none
  | .sc (.slw o w off len cap) :: r => some ([], (true, [], o, w, off, len, cap, []), r)
  | .agg ks :: r => match frzK ks with
    | some z => some ([], (false, z), r)
    | none => match frzIn r with
      | some (p, z) => some (.agg ks :: p, z)
      | none => none
  | x :: r => match frzIn r with
    | some (p, z) => some (x :: p, z)
    | none => none
theorem frzK_spec : ∀ {l p q : List SK} {o w off len cap : Nat}, frzK l = some (p, o, w, off, len, cap, q) → l = p ++ SK.c (.slw o w off len cap) :: q
  | [], _, _, _, _, _, _, _, h => by cases h
  | x :: r, p, q, o, w, off, len, cap, h => by
    unfold frzK at h
    split at h
    · rename_i heq; cases heq
    · rename_i heq
      simp only [List.cons.injEq] at heq
      obtain ⟨rfl, rfl⟩ := heq
      simp only [Option.some.injEq, Prod.mk.injEq] at h
      obtain ⟨rfl, rfl, rfl, rfl, rfl, rfl, rfl⟩ := h
      rfl
    · rename_i y r' _ heq
      simp only [List.cons.injEq] at heq
      obtain ⟨rfl, rfl⟩ := heq
      split at h
      · rename_i p' z hz
        simp only [Option.some.injEq, Prod.mk.injEq] at h
        obtain ⟨rfl, rfl⟩ := h
        rw [frzK_spec hz]; rfl
      · cases h
theorem frzIn_spec : ∀ {l p q : List SA} {k1 k2 : List SK} {b : Bool} {o w off len cap : Nat}, frzIn l = some (p, (b, k1, o, w, off, len, cap, k2), q) → l = p ++ mkA b k1 (.slw o w off len cap) k2 :: q
  | [], _, _, _, _, _, _, _, _, _, _, h => by cases h
  | x :: r, p, q, k1, k2, b, o, w, off, len, cap, h => by
    unfold frzIn at h
    split at h
    · rename_i heq; cases heq
    · rename_i heq
      simp only [List.cons.injEq] at heq
      obtain ⟨rfl, rfl⟩ := heq
      simp only [Option.some.injEq, Prod.mk.injEq] at h
      obtain ⟨rfl, ⟨rfl, rfl, rfl, rfl, rfl, rfl, rfl, rfl⟩, rfl⟩ := h
      rfl
    · rename_i ks r' heq
      simp only [List.cons.injEq] at heq
      obtain ⟨rfl, rfl⟩ := heq
      split at h
      · rename_i z hz
        simp only [Option.some.injEq, Prod.mk.injEq] at h
        obtain ⟨rfl, ⟨rfl, rfl⟩, rfl⟩ := h
        rw [frzK_spec hz]; rfl
      · split at h
        · rename_i p' z hz
          simp only [Option.some.injEq, Prod.mk.injEq] at h
          obtain ⟨rfl, rfl⟩ := h
          rw [frzIn_spec hz]; rfl
        · cases h
    · rename_i y r' _ _ heq
      simp only [List.cons.injEq] at heq
      obtain ⟨rfl, rfl⟩ := heq
      split at h
      · rename_i p' z hz
        simp only [Option.some.injEq, Prod.mk.injEq] at h
        obtain ⟨rfl, rfl⟩ := h
        rw [frzIn_spec hz]; rfl
      · cases h
def inlS (sl : List (Nat × SSpec)) (inner : Inl) : Inl := fun f args ob k =>
  match getSS sl f with
  | none => inner f args ob k
  | some s => match s.share with
    | false => lent ob args fun args' => match s.of args' with
      | some (ps, rs) => ands ps (answers rs fun l => k (resV l) ob)
      | none => StuckAt "card"
    | true => match frzOf args with
      | none => match frzIn args with
        | none => match s.of args with
          | some (ps, rs) => ands ps (answers rs fun l => k (resV l) ob)
          | none => StuckAt "card"
        | some (pre, (b, k1, o, w, off, len, cap, k2), post) => match ob[o]? with
          | some (.row _ w' n g _) => ∀ ad : Nat → Addr, match Nat.beq w w' && ((forget o ad ob).set o .dead).all (obB (liveB ((forget o ad ob).set o .dead))) with
            | true => ands [off + len ≤ n, len ≤ cap] (match s.of (pre ++ mkA b k1 (.xs (some (ad (off * w))) len cap w (fun i c => g (off + i) c)) k2 :: post) with
              | some (ps, rs) => ands ps (answers rs fun l => k (resV l) ((forget o ad ob).set o .dead))
              | none => StuckAt "card")
            | false => StuckAt "taken"
          | _ => StuckAt "taken"
      | some (pre, o, off, len, cap, post) => match ob[o]? with
        | some (.cells _ ks _) => match wideS true ks off len with
          | some w => match (ob.set o .dead).all (obB (liveB (ob.set o .dead))) with
            | true => ands [len ≤ cap] (∀ a : Addr, match s.of (pre ++ SA.sc (.xs (some a) len cap w (fun i c => (flat ks).getD (i * w + c) (.bit false))) :: post) with
              | some (ps, rs) => ands ps (answers rs fun l => k (resV l) (ob.set o .dead))
              | none => StuckAt "card")
            | false => StuckAt "taken"
          | none => match sub ks off len with
            | some cs => match kindHead cs with
              | some kd => match kindAll kd cs && (ob.set o .dead).all (obB (liveB (ob.set o .dead))) with
                | true => ands [len ≤ cap] (∀ a : Addr, match s.of (pre ++ xsI (some a) len cap kd (selG cs) :: post) with
                  | some (ps, rs) => ands ps (answers rs fun l => k (resV l) (ob.set o .dead))
                  | none => match wideS false ks off len with
                    | some w => (match s.of (pre ++ SA.sc (.xs (some a) len cap w (fun i c => (flat ks).getD (i * w + c) (.bit false))) :: post) with
                      | some (ps, rs) => ands ps (answers rs fun l => k (resV l) (ob.set o .dead))
                      | none => StuckAt "card")
                    | none => StuckAt "card")
                | false => StuckAt "taken"
              | none => StuckAt "taken"
            | none => StuckAt "taken"
        | _ => StuckAt "taken"
section
variable {P : Program} {W0 : Base} {ρ : Rho} {tm : List SV} {ob : List SO} {a : Act} {w : World}
theorem valL_conc (ρ : Rho) (l : List SA) : (resV l).rep ρ (valL (l.map (SA.conc ρ))) := by
  match l with
  | [] => rfl
  | [x] => rfl
  | x :: y :: r => rfl
theorem resV_bnd {n : Env} {l : List SA} (h : ∀ x ∈ l, x.bnd n) : (resV l).bnd n := by
  match l, h with
  | [], _ => exact fun x hx => by cases hx
  | [x], h => exact h x (by simp)
  | x :: y :: r, h => exact h
theorem farE_le {w : World} {p q : Nat → Prop} (h : ∀ b, p b → q b) : Env.le (farE w p) (farE w q) := ⟨fun _ k => k, fun b _ _ k => ⟨h b k.1, k.2⟩⟩
theorem isSl.far {w : World} {p q : Nat → Prop} (h : ∀ b, p b → q b) {n wd : Nat} {g : Nat → Nat → SC} {y : Value} : isSl w p n wd g y → isSl w q n wd g y :=
  fun ⟨a, c, e, h1, h2, h3⟩ => ⟨a, c, e, h1, h2, fun b hb => ⟨(h3 b hb).1, fun i hi c hc => ⟨⟨SC.bnd_mono (farE_le h) ((h3 b hb).2 i hi c hc).1.1, ((h3 b hb).2 i hi c hc).1.2⟩, h _ ((h3 b hb).2 i hi c hc).2.1, ((h3 b hb).2 i hi c hc).2.2⟩⟩⟩
theorem isG.far {w : World} {p q : Nat → Prop} (h : ∀ b, p b → q b) : ∀ {ks : List RK} {vs : List Value}, isG w p ks vs → isG w q ks vs
  | [], _, k => k
  | .k _ :: _, _, ⟨vs', e, hb, k⟩ => ⟨vs', e, hb, isG.far h k⟩
  | .s _ _ _ :: _, _, ⟨v, vs', e, hs, k⟩ => ⟨v, vs', e, hs.far h, isG.far h k⟩
theorem RS.is.far {w : World} {p q : Nat → Prop} (h : ∀ b, p b → q b) : ∀ {r : RS} {y : Value}, r.is w p y → r.is w q y
  | .v _, _, k => k
  | .s _ _ _, _, ⟨a, c, e, h1, h2, h3⟩ => ⟨a, c, e, h1, h2, fun b hb => ⟨(h3 b hb).1, fun i hi => ⟨h _ ((h3 b hb).2 i hi).1, ((h3 b hb).2 i hi).2⟩⟩⟩
  | .rows _ _ _, _, k => isSl.far h k
  | .st _, _, ⟨vs, e, k⟩ => ⟨vs, e, k.far h⟩
  | .ex _ f, _, ⟨ac, hp, k⟩ => ⟨ac, hp, RS.is.far h (r := f ac) k⟩
theorem RS.isL.far {w : World} {p q : Nat → Prop} : ∀ {rs : List RS} {ys : List Value}, RS.isL w p rs ys → (∀ b, p b → q b) → RS.isL w q rs ys
  | [], [], _, _ => trivial
  | _ :: _, _ :: _, k, h => ⟨k.1.far h, RS.isL.far k.2 h⟩
  | [], _ :: _, k, _ => by exact k.elim
  | _ :: _, [], k, _ => by exact k.elim
theorem isSl.bnd {w : World} {far : Nat → Prop} {n wd : Nat} {g : Nat → Nat → SC} {a : Option Addr} {cap : Nat} (h1 : a = none → n = 0 ∧ cap = 0) (h2 : n ≤ cap)
    (h3 : ∀ b, a = some b → (0 < n → b.spot = none) ∧ ∀ i, i < n → ∀ c, c < wd → ((g i c).bnd (farE w far) ∧ (g i c).fit = true) ∧ far b.block ∧ w.cell? ⟨b.block, b.off + (i * wd + c), none⟩ = some ((g i c).conc Rho.nil))
    (fz : Nat → Nat → Value → Prop) (hz : ∀ b o v, far b → w.cell? ⟨b, o, none⟩ = some v → fz b o v) : (SC.xs a n cap wd g).bnd ⟨fun _ => False, fz⟩ :=
  ⟨h1, h2, fun b hb => ⟨(h3 b hb).1, fun i hi c hc => by
    obtain ⟨⟨q1, q2⟩, q3, q4⟩ := (h3 b hb).2 i hi c hc
    exact ⟨SC.bnd_mono (n := farE w far) (m := ⟨fun _ => False, fz⟩) ⟨fun _ k => k, fun b o v k => hz b o v k.1 k.2⟩ q1, q2, hz _ _ _ q3 q4⟩⟩⟩
theorem answersK_pick {w : World} {far : Nat → Prop} : ∀ {ks : List RK} {vs : List Value} {K : List SK → Prop}, answersK ks K → isG w far ks vs → ∃ l, K l ∧ (∀ ρ : Rho, concs ρ l = vs) ∧
    ∀ fz : Nat → Nat → Value → Prop, (∀ b o v, far b → w.cell? ⟨b, o, none⟩ = some v → fz b o v) → ∀ x ∈ l, x.bnd ⟨fun _ => False, fz⟩
  | [], _, K, h, hv => ⟨[], h, fun _ => by rw [show _ = [] from hv]; rfl, fun _ _ x hx => by cases hx⟩
  | .k x :: r, vs, K, h, hv => by
    obtain ⟨vs', rfl, hb, hr⟩ := hv
    obtain ⟨l, k1, k2, k3⟩ := answersK_pick (K := fun l => K (x :: l)) h hr
    refine ⟨x :: l, k1, fun ρ => ?_, fun fz hz y hy => ?_⟩
    · rw [concs_cons ρ x l, k2 ρ, Agree.sks (n := none0) (ρ := Rho.nil) (ρ' := ρ) (fun _ hi => hi.elim) (fun c hc => by rw [List.mem_singleton.1 hc]; exact hb)]
    · rcases List.mem_cons.1 hy with rfl | hy
      · exact SK.bnd_mono none0_le hb
      · exact k3 fz hz y hy
  | .s n wd g :: r, vs, K, h, hv => by
    obtain ⟨v, vs', rfl, ⟨ad, cap, e, h1, h2, h3⟩, hr⟩ := hv
    obtain ⟨l, k1, k2, k3⟩ := answersK_pick (K := fun l => K (.c (.xs ad n cap wd g) :: l)) (h ad cap h1 h2) hr
    refine ⟨.c (.xs ad n cap wd g) :: l, k1, fun ρ => ?_, fun fz hz y hy => ?_⟩
    · rw [concs_cons ρ _ l, k2 ρ, e]; rfl
    · rcases List.mem_cons.1 hy with rfl | hy
      · exact isSl.bnd h1 h2 h3 fz hz
      · exact k3 fz hz y hy
theorem answer1_pick {w : World} {far : Nat → Prop} : ∀ {r : RS} {v : Value} {K : SA → Prop}, answer1 r K → r.is w far v → ∃ x, K x ∧ (∀ ρ : Rho, x.conc ρ = v) ∧
    ∀ fz : Nat → Nat → Value → Prop, (∀ b o v, far b → w.cell? ⟨b, o, none⟩ = some v → fz b o v) → x.bnd ⟨fun _ => False, fz⟩
  | .v x, v, K, h, hv => by
    obtain ⟨e, hb⟩ := hv
    exact ⟨x, h, fun ρ => by rw [e, Agree.sa (n := none0) (ρ := Rho.nil) (ρ' := ρ) (fun _ hi => hi.elim) hb], fun fz hz => SA.bnd_mono none0_le hb⟩
  | .s n k g, v, K, h, hv => by
    obtain ⟨ad, cap, e, h1, h2, h3⟩ := hv
    refine ⟨xsI ad n cap k g, h ad cap h1 h2, fun ρ => by rw [e]; rfl, fun fz hz => ⟨h1, h2, fun b hb => ⟨(h3 b hb).1, fun i hi c hc => ⟨trivial, rfl, ?_⟩⟩⟩⟩
    have hc0 : c = 0 := by omega
    subst hc0
    have := (h3 b hb).2 i hi
    rw [Nat.mul_one, Nat.add_zero]
    exact hz _ _ _ this.1 this.2
  | .rows n wd g, v, K, h, hv => by
    obtain ⟨ad, cap, e, h1, h2, h3⟩ := hv
    exact ⟨.sc (.xs ad n cap wd g), h ad cap h1 h2, fun ρ => by rw [e]; rfl, fun fz hz => isSl.bnd h1 h2 h3 fz hz⟩
  | .st ks, v, K, h, hv => by
    obtain ⟨us, e, hg⟩ := hv
    obtain ⟨l1, h', e1, b1⟩ := answersK_pick (K := fun l => K (.agg l)) h hg
    exact ⟨.agg l1, h', fun ρ => by rw [e]; simp only [SA.conc, e1], fun fz hz => b1 fz hz⟩
  | .ex P f, v, K, h, hv => by
    obtain ⟨ac, hp, hv⟩ := hv
    exact answer1_pick (r := f ac) (h ac hp) hv
theorem answers_pick {w : World} {far : Nat → Prop} : ∀ {rs : List RS} {vs : List Value} {K : List SA → Prop}, answers rs K → RS.isL w far rs vs → ∃ l, K l ∧ (∀ ρ : Rho, l.map (SA.conc ρ) = vs) ∧
    ∀ fz : Nat → Nat → Value → Prop, (∀ b o v, far b → w.cell? ⟨b, o, none⟩ = some v → fz b o v) → ∀ x ∈ l, x.bnd ⟨fun _ => False, fz⟩
  | [], [], K, h, _ => ⟨[], h, fun _ => rfl, fun _ _ x hx => by cases hx⟩
  | r :: rs, v :: vs, K, h, hv => by
    obtain ⟨x, h', e1, b1⟩ := answer1_pick (K := fun x => answers rs fun l => K (x :: l)) h hv.1
    obtain ⟨l, k1, k2, k3⟩ := answers_pick (K := fun l => K (x :: l)) h' hv.2
    refine ⟨x :: l, k1, fun ρ => by rw [List.map_cons, k2 ρ, e1 ρ], fun fz hz y hy => ?_⟩
    rcases List.mem_cons.1 hy with rfl | hy
    · exact b1 fz hz
    · exact k3 fz hz y hy
  | [], _ :: _, _, _, hv => by exact hv.elim
  | _ :: _, [], _, _, hv => by exact hv.elim
abbrev seenEnv (w : World) : Env := ⟨fun _ => True, fun b o v => w.cell? ⟨b, o, none⟩ = some v⟩
theorem lent_row (H : Holds W0 ρ tm ob a w) {o : Nat} {e' : TypeId} {w1 n sp off len cap : Nat} {g : Nat → Nat → SC} (hob : ob[o]? = some (.row e' w1 n g sp)) (hol : off + len ≤ n) (hlc : len ≤ cap) :
    (SC.xs (some ⟨ρ o, off * w1, none⟩) len cap w1 fun i c => g (off + i) c).bnd (seenEnv w) := by
  have hle : Env.le (lv ρ ob) (seenEnv w) := ⟨fun _ _ => trivial, fun b o v hv => (H.mem.frz b o v hv).1⟩
  obtain ⟨_, ⟨rest, _, hrow⟩, hok⟩ := H.mem.rows hob
  refine ⟨fun e => (by cases e), hlc, fun bb hbb => ?_⟩
  simp only [Option.some.injEq] at hbb
  subst hbb
  refine ⟨fun _ => rfl, fun i hi c hc => ?_⟩
  obtain ⟨q1, q2⟩ := hok (off + i) (by omega) c hc
  refine ⟨SC.bnd_mono (n := (lv ρ ob).bare) (m := (seenEnv w).bare) ⟨fun _ x => x, hle.fz⟩ q1, q2, ?_⟩
  have hg := rowc_get (w := w1) (n := n) (g := g) (i := off + i) (c := c) (by omega) hc
  have hlt : (off + i) * w1 + c < n * w1 := by
    have : (off + i + 1) * w1 ≤ n * w1 := Nat.mul_le_mul_right _ (by omega)
    rw [Nat.add_mul, Nat.one_mul] at this
    omega
  simp only [World.cell?, hrow]
  rw [show off * w1 + (i * w1 + c) = (off + i) * w1 + c by rw [Nat.add_mul]; omega, List.getElem?_toArray, List.getElem?_append_left (by rw [rowc_length]; exact hlt)]
  exact hg
theorem lentK_sound (H : Holds W0 ρ tm ob a w) : ∀ {ks : List SK} {K : List SK → Prop}, (∀ k ∈ ks, k.bnd (lv ρ ob)) → lentK ob ks K → ∃ l, K l ∧ concs ρ l = concs ρ ks ∧ ∀ k ∈ l, k.bnd (seenEnv w)
  | [], K, _, h => ⟨[], h, rfl, fun x hx => by cases hx⟩
  | x :: r, K, hb, h => by
    have hle : Env.le (lv ρ ob) (seenEnv w) := ⟨fun _ _ => trivial, fun b o v hv => (H.mem.frz b o v hv).1⟩
    have hr : ∀ y ∈ r, y.bnd (lv ρ ob) := fun y hy => hb y (by simp [hy])
    unfold lentK at h
    split at h
    · rename_i heq; cases heq
    · rename_i o w1 off len cap r' heq
      simp only [List.cons.injEq] at heq
      obtain ⟨rfl, rfl⟩ := heq
      split at h
      case h_2 => exact h.no
      rename_i e' w2 n g sp hob
      split at h
      case h_2 => exact h.no
      rename_i hw
      have hw1 := Nat.eq_of_beq_eq_true hw
      subst hw1
      obtain ⟨⟨hol, hlc, _⟩, h⟩ := ands_iff.1 h
      obtain ⟨l, k1, k2, k3⟩ := lentK_sound H hr (h ⟨ρ o, off * w1, none⟩)
      refine ⟨_, k1, by rw [concs_cons, concs_cons ρ (.c (.slw o w1 off len cap)), k2]; rfl, fun y hy => ?_⟩
      rcases List.mem_cons.1 hy with rfl | hy
      · exact lent_row H hob hol hlc
      · exact k3 y hy
    · rename_i y r' K' _ heq
      simp only [List.cons.injEq] at heq
      obtain ⟨rfl, rfl⟩ := heq
      obtain ⟨l, k1, k2, k3⟩ := lentK_sound H hr h
      refine ⟨_, k1, by rw [concs_cons ρ x l, concs_cons ρ x r, k2], fun y hy => ?_⟩
      rcases List.mem_cons.1 hy with rfl | hy
      · exact SK.bnd_mono hle (hb y (by simp))
      · exact k3 y hy
theorem lent_sound (H : Holds W0 ρ tm ob a w) : ∀ {args : List SA} {K : List SA → Prop}, (∀ x ∈ args, x.bnd (lv ρ ob)) → lent ob args K → ∃ l, K l ∧ l.map (SA.conc ρ) = args.map (SA.conc ρ) ∧ ∀ x ∈ l, x.bnd ⟨fun _ => True, fun b o v => w.cell? ⟨b, o, none⟩ = some v⟩
  | [], K, _, h => ⟨[], h, rfl, fun x hx => by cases hx⟩
  | x :: r, K, hb, h => by
    have hle : Env.le (lv ρ ob) ⟨fun _ => True, fun b o v => w.cell? ⟨b, o, none⟩ = some v⟩ := ⟨fun _ _ => trivial, fun b o v hv => (H.mem.frz b o v hv).1⟩
    have hr : ∀ y ∈ r, y.bnd (lv ρ ob) := fun y hy => hb y (by simp [hy])
    unfold lent at h
    split at h
    · rename_i heq; cases heq
    · rename_i o off len cap r' heq
      simp only [List.cons.injEq] at heq
      obtain ⟨rfl, rfl⟩ := heq
      split at h
      case h_2 => exact h.no
      rename_i e' ks sp hob
      split at h
      case h_2 => exact h.no
      rename_i cs hcs
      split at h
      case h_2 => exact h.no
      rename_i k hk
      split at h
      case h_2 => exact h.no
      rename_i hka
      obtain ⟨⟨hlc, _⟩, h⟩ := ands_iff.1 h
      obtain ⟨_, ⟨rest, _, hrow⟩, _⟩ := H.mem.obj o e' ks sp hob
      obtain ⟨l, k1, k2, k3⟩ := lent_sound H hr (h ⟨ρ o, off, none⟩)
      refine ⟨_, k1, by rw [List.map_cons, List.map_cons, k2]; rfl, fun y hy => ?_⟩
      rcases List.mem_cons.1 hy with rfl | hy
      · refine ⟨fun e => (by cases e), hlc, fun bb hbb => ?_⟩
        simp only [Option.some.injEq] at hbb
        subst hbb
        refine ⟨fun _ => rfl, fun i hi c hc => ⟨trivial, rfl, ?_⟩⟩
        have hc0 : c = 0 := by omega
        subst hc0
        obtain ⟨l1, l2⟩ := concs_sub hcs ρ
        have hlen : (flat cs).length = len := by
          obtain ⟨a, b⟩ := sub_flat hcs
          rw [b]; simp; omega
        have := selG_conc hka ρ (j := i) (by omega)
        rw [l2, List.getElem?_take, if_pos hi, List.getElem?_drop] at this
        simp only [World.cell?, hrow, Nat.mul_one, Nat.add_zero]
        rw [List.getElem?_toArray, List.getElem?_append_left (List.getElem?_eq_some_iff.1 this).1]
        exact this
      · exact k3 y hy
    · rename_i o w1 off len cap r' heq
      simp only [List.cons.injEq] at heq
      obtain ⟨rfl, rfl⟩ := heq
      split at h
      case h_2 => exact h.no
      rename_i e' w2 n g sp hob
      split at h
      case h_2 => exact h.no
      rename_i hw
      have hw1 := Nat.eq_of_beq_eq_true hw
      subst hw1
      obtain ⟨⟨hol, hlc, _⟩, h⟩ := ands_iff.1 h
      obtain ⟨l, k1, k2, k3⟩ := lent_sound H hr (h ⟨ρ o, off * w1, none⟩)
      refine ⟨_, k1, by rw [List.map_cons, List.map_cons, k2]; rfl, fun y hy => ?_⟩
      rcases List.mem_cons.1 hy with rfl | hy
      · exact lent_row H hob hol hlc
      · exact k3 y hy
    · rename_i ks r' heq
      simp only [List.cons.injEq] at heq
      obtain ⟨rfl, rfl⟩ := heq
      obtain ⟨ks', h', e1, e2⟩ := lentK_sound H (hb (.agg ks) (by simp)) h
      obtain ⟨l, k1, k2, k3⟩ := lent_sound H hr h'
      refine ⟨_, k1, by rw [List.map_cons, List.map_cons, k2]; simp only [SA.conc, e1], fun y hy => ?_⟩
      rcases List.mem_cons.1 hy with rfl | hy
      · exact e2
      · exact k3 y hy
    · rename_i y r' K' _ _ _ heq
      simp only [List.cons.injEq] at heq
      obtain ⟨rfl, rfl⟩ := heq
      obtain ⟨l, k1, k2, k3⟩ := lent_sound H hr h
      refine ⟨_, k1, by rw [List.map_cons, List.map_cons, k2], fun y hy => ?_⟩
      rcases List.mem_cons.1 hy with rfl | hy
      · exact SA.bnd_mono hle (hb y (by simp))
      · exact k3 y hy
theorem shared (H : Holds W0 ρ tm ob a w) {w' : World} (hbl : Below w.heap.size w w') {sh : Prop} {rs : List RS} {vs : List Value} {k : SV → List SO → Prop} (h : answers rs fun l => k (resV l) ob) (hvs : RS.isL w' (fun b => w.heap.size ≤ b ∨ (sh ∧ ∃ o u, ρ.fz b o u)) rs vs) :
    ∃ ρ' sv, k sv ob ∧ sv.rep ρ' (valL vs) ∧ sv.bnd (lv ρ' ob) ∧ Holds W0 ρ' tm ob a w' := by
  obtain ⟨xs, hk, hx1, hx2⟩ := answers_pick h hvs
  have hlt : ∀ i, live ob i → ρ i < w.heap.size := by
    rintro i ⟨x, hi, hx⟩
    obtain ⟨_, ⟨_, _, h2⟩, _⟩ := H.mem.objs i x hi hx
    exact heap_lt h2
  have H1 := (H.world hbl).frozen (fun b o v => (w.heap.size ≤ b ∨ (sh ∧ ∃ o u, ρ.fz b o u)) ∧ w'.cell? ⟨b, o, none⟩ = some v)
    (fun b o v hF => ⟨hF.2, fun i hi => by
      rcases hF.1 with hb | ⟨_, o, u, hf⟩
      · have := hlt i hi; omega
      · exact (H.mem.frz b o u hf).2 i hi⟩)
    (fun b o v hF => by
      rcases hF.1 with hb | ⟨_, hf⟩
      · exact .inr (Nat.le_trans H.below.size hb)
      · exact .inl hf)
  refine ⟨⟨ρ.pos, _⟩, _, hk, ?_, ?_, H1⟩
  · rw [← hx1 ⟨ρ.pos, _⟩]
    exact valL_conc _ xs
  · have hle : Env.le ⟨fun _ => False, fun b o v => ρ.fz b o v ∨ (w.heap.size ≤ b ∨ sh ∧ ∃ o u, ρ.fz b o u) ∧ w'.cell? ⟨b, o, none⟩ = some v⟩ (lv ⟨ρ.pos, fun b o v => ρ.fz b o v ∨ (w.heap.size ≤ b ∨ sh ∧ ∃ o u, ρ.fz b o u) ∧ w'.cell? ⟨b, o, none⟩ = some v⟩ ob) := ⟨fun _ h => h.elim, fun _ _ _ h => h⟩
    exact resV_bnd fun x hx => SA.bnd_mono hle (hx2 _ (fun b o v hf hc => .inr ⟨hf, hc⟩) x hx)
end
theorem wide_call {P : Program} {gl : Globs} {f : Nat} {s : SSpec} (hfn : FnOKs P gl f s) {Z : Base} {ρ : Rho} {tm : List SV} {ob : List SO} {a : Act} {w : World} (hz : Z.gl = gl) (H : Holds Z ρ tm ob a w) {args : List SA} (hargs : ∀ x ∈ args, x.bnd (lv ρ ob)) {k : SV → List SO → Prop} {pre post : List SA} {o len cap wd : Nat} {e' : TypeId} {ks : List SK} {sp : Nat} (hob : ob[o]? = some (.cells e' ks sp)) (hkb : (ob.set o .dead).all (obB (liveB (ob.set o .dead))) = true) (hwl : len * wd = (flat ks).length) (hbare : ∀ c ∈ flat ks, bareC c = true) (hlc : len ≤ cap) (hys : args = pre ++ SA.sc (.sl o 0 len cap) :: post) {ps : List Prop} {rs : List RS} (hof : s.of (pre ++ SA.sc (.xs (some ⟨ρ o, 0, none⟩) len cap wd (fun i c => (flat ks).getD (i * wd + c) (.bit false))) :: post) = some (ps, rs)) (hp : Ok ps) (h : answers rs fun l => k (resV l) (ob.set o .dead)) :
    (callFunc f (args.map (SA.conc ρ)).toArray).run P w = .ok (.enter f (args.map (SA.conc ρ)).toArray) w ∧ Calls P f (args.map (SA.conc ρ)).toArray w fun e w' => ∃ v, e = .returned v ∧ ∃ ρ' sv ob', k sv ob' ∧ sv.rep ρ' v ∧ sv.bnd (lv ρ' ob') ∧ Holds Z ρ' (scrub ob' tm) ob' a w' := by
  obtain ⟨_, ⟨rest, _, hrow⟩, hbk⟩ := H.mem.obj o e' ks sp hob
  have hgb : w.grownBy w (some (ρ o)) := ⟨rfl, rfl, rfl, Nat.le_refl _, fun _ _ _ => rfl⟩
  have H1 := (H.killed hob rfl hgb hkb).frozen (fun bl c v => bl = ρ o ∧ (concs ρ ks ++ rest)[c]? = some v) (fun bl c v hF => by
    obtain ⟨rfl, hv⟩ := hF
    refine ⟨by simp only [World.cell?, hrow]; simpa using hv, fun i hi => ?_⟩
    obtain ⟨q1, q2⟩ := live_dead.1 hi
    exact fun e => q2 (H.mem.injs _ _ q1 (live_cells hob) e)) (fun bl c v hF => by rw [hF.1]; exact .inr (H.mem.objs _ _ hob rfl).1)
  have hle : Env.le (lv ρ ob) ⟨fun _ => True, fun bl c v => ρ.fz bl c v ∨ (bl = ρ o ∧ (concs ρ ks ++ rest)[c]? = some v)⟩ := ⟨fun _ _ => trivial, fun _ _ _ x => .inl x⟩
  have hxs : (SC.xs (some ⟨ρ o, 0, none⟩) len cap wd (fun i c => (flat ks).getD (i * wd + c) (.bit false))).bnd ⟨fun _ => True, fun bl c v => ρ.fz bl c v ∨ (bl = ρ o ∧ (concs ρ ks ++ rest)[c]? = some v)⟩ := by
    refine ⟨fun e => (by cases e), hlc, fun bb hb => ?_⟩
    simp only [Option.some.injEq] at hb
    subst hb
    refine ⟨fun _ => rfl, fun i hi c hc => ?_⟩
    have hlt : i * wd + c < (flat ks).length := by
      have : (i + 1) * wd ≤ len * wd := Nat.mul_le_mul_right _ hi
      rw [Nat.add_mul, Nat.one_mul] at this
      omega
    have eg : (flat ks).getD (i * wd + c) (.bit false) = (flat ks)[i * wd + c] := by
      rw [List.getD_eq_getElem?_getD, List.getElem?_eq_getElem hlt]; rfl
    have hm : (flat ks)[i * wd + c] ∈ flat ks := List.getElem_mem hlt
    have hb0 := flat_bnd hbk.1 _ hm
    obtain ⟨r1, r2⟩ := bareC_ok (hbare _ hm) hb0
    simp only [eg]
    refine ⟨SC.bnd_mono (n := (lv ρ ob).bare) (m := Env.bare ⟨fun _ => True, fun bl c v => ρ.fz bl c v ∨ (bl = ρ o ∧ (concs ρ ks ++ rest)[c]? = some v)⟩) ⟨fun _ x => x, hle.fz⟩ r1, r2, .inr ⟨trivial, ?_⟩⟩
    rw [← conc_bare r1 ρ, Nat.zero_add]
    show ((flat ks).map (SC.conc ρ) ++ rest)[i * wd + c]? = _
    rw [List.getElem?_append_left (by rw [List.length_map]; exact hlt), List.getElem?_map, List.getElem?_eq_getElem hlt]; rfl
  have hall : ∀ x ∈ pre ++ SA.sc (.xs (some ⟨ρ o, 0, none⟩) len cap wd (fun i c => (flat ks).getD (i * wd + c) (.bit false))) :: post, x.bnd ⟨fun _ => True, fun bl c v => ρ.fz bl c v ∨ (bl = ρ o ∧ (concs ρ ks ++ rest)[c]? = some v)⟩ := by
    intro x hx
    have old : ∀ y ∈ args, y.bnd ⟨fun _ => True, fun bl c v => ρ.fz bl c v ∨ (bl = ρ o ∧ (concs ρ ks ++ rest)[c]? = some v)⟩ := fun y hy => SA.bnd_mono hle (hargs y hy)
    rw [hys] at old
    rcases List.mem_append.1 hx with hx | hx
    · exact old x (by simp [hx])
    · rcases List.mem_cons.1 hx with rfl | hx
      · exact hxs
      · exact old x (by simp [hx])
  have hconc : (pre ++ SA.sc (.xs (some ⟨ρ o, 0, none⟩) len cap wd (fun i c => (flat ks).getD (i * wd + c) (.bit false))) :: post).map (SA.conc ⟨ρ.pos, fun bl c v => ρ.fz bl c v ∨ (bl = ρ o ∧ (concs ρ ks ++ rest)[c]? = some v)⟩) = args.map (SA.conc ρ) := by
    rw [List.map_congr_left (fun x _ => conc_pos x), hys]
    simp only [List.map_append, List.map_cons]
    rfl
  obtain ⟨r, hc⟩ := hfn _ ps rs hof hp ⟨ρ.pos, fun bl c v => ρ.fz bl c v ∨ (bl = ρ o ∧ (concs ρ ks ++ rest)[c]? = some v)⟩ w (fun b c v hv => (H1.mem.frz b c v hv).1) (hz ▸ H1.gl) hall
  rw [hconc] at r hc
  refine ⟨r, hc.mono ?_⟩
  rintro e w' ⟨vs, rfl, hvs, hbl⟩
  obtain ⟨ρ', sv, q1, q2, q3, q4⟩ := shared H1 hbl h hvs
  exact ⟨_, rfl, ρ', sv, _, q1, q2, q3, q4⟩
theorem inlS_ok {P : Program} {gl : Globs} {sl : List (Nat × SSpec)} (hsl : ∀ p ∈ sl, FnOKs P gl p.1 p.2) {inner : Inl} (hin : InlOK P gl inner) : InlOK P gl (inlS sl inner) := by
  intro f args ob k h Z ρ tm a w hz H hargs
  unfold inlS at h
  split at h
  · exact hin f args ob k h hz H hargs
  rename_i s hs
  have hfn := getSS_ok hsl hs
  split at h
  · -- lent
    rename_i hsh
    obtain ⟨l, hl, e1, b1⟩ := lent_sound H hargs h
    split at hl
    case h_2 => exact hl.no
    rename_i ps rs hof
    obtain ⟨hp, hl⟩ := ands_iff.1 hl
    have hle : Env.le (lv ρ ob) ⟨fun _ => True, fun b o v => w.cell? ⟨b, o, none⟩ = some v⟩ := ⟨fun _ _ => trivial, fun b o v hv => (H.mem.frz b o v hv).1⟩
    have hgl : GlobsOK gl fun b o v => w.cell? ⟨b, o, none⟩ = some v := by
      rw [← hz]
      intro p hp
      obtain ⟨g1, g2⟩ := H.gl p hp
      exact ⟨fun k hk => SK.bnd_mono (n := ⟨fun _ => False, ρ.fz⟩) (m := ⟨fun _ => False, fun b o v => w.cell? ⟨b, o, none⟩ = some v⟩) ⟨fun _ x => x, hle.fz⟩ (g1 k hk), fun o v h => hle.fz _ _ _ (g2 o v h)⟩
    obtain ⟨r, hc⟩ := hfn l ps rs hof hp ⟨ρ.pos, fun b o v => w.cell? ⟨b, o, none⟩ = some v⟩ w (fun _ _ _ h => h) hgl b1
    have hpos : l.map (SA.conc ⟨ρ.pos, fun b o v => w.cell? ⟨b, o, none⟩ = some v⟩) = args.map (SA.conc ρ) := by
      rw [← e1]; exact List.map_congr_left fun x _ => conc_pos x
    rw [hpos] at r hc
    refine ⟨r, hc.mono ?_⟩
    rintro e w' ⟨vs, rfl, hvs, hbl⟩
    have hvs' : RS.isL w' (fun b => w.heap.size ≤ b ∨ (False ∧ ∃ o u, ρ.fz b o u)) rs vs := hvs.far fun b hb => by
      rcases hb with hb | ⟨hb, _⟩
      · exact .inl hb
      · rw [hsh] at hb; cases hb
    obtain ⟨ρ', sv, q1, q2, q3, q4⟩ := shared H hbl hl hvs'
    exact ⟨_, rfl, ρ', sv, ob, q1, q2, q3, q4.scrubbed⟩
  · split at h
    · split at h
      · -- nothing of one's own
        split at h
        case h_2 => exact h.no
        rename_i ps rs hof
        obtain ⟨hp, h⟩ := ands_iff.1 h
        obtain ⟨r, hc⟩ := hfn args ps rs hof hp ρ w (fun b o v hv => (H.mem.frz b o v hv).1) (hz ▸ H.gl) (fun x hx => SA.bnd_mono lv_all (hargs x hx))
        refine ⟨r, hc.mono ?_⟩
        rintro e w' ⟨vs, rfl, hvs, hbl⟩
        obtain ⟨ρ', sv, q1, q2, q3, q4⟩ := shared H hbl h hvs
        exact ⟨_, rfl, ρ', sv, ob, q1, q2, q3, q4.scrubbed⟩
      · -- a row among an argument's cells is taken
        rename_i pre b k1 o w1 off len cap k2 post hfz
        split at h
        case h_2 => exact h.no
        rename_i e' w2 n g sp hob
        replace h := h fun d => ⟨ρ o, d, none⟩
        split at h
        case h_2 => exact h.no
        rename_i hkb
        simp only [Bool.and_eq_true] at hkb
        have hw := Nat.eq_of_beq_eq_true hkb.1
        subst hw
        obtain ⟨⟨hol, hlc, _⟩, h⟩ := ands_iff.1 h
        split at h
        case h_2 => exact h.no
        rename_i ps rs hof
        obtain ⟨hp, h⟩ := ands_iff.1 h
        have hys := frzIn_spec hfz
        have H0 := H.forget o
        have ho2 : (forget o (fun d => ⟨ρ o, d, none⟩) ob)[o]? = some (.row e' w1 n g sp) := by
          unfold forget
          rw [List.getElem?_map, hob]; rfl
        obtain ⟨hB, ⟨rest, _, hrow⟩, hok⟩ := H.mem.rows hob
        have hgb : w.grownBy w (some (ρ o)) := ⟨rfl, rfl, rfl, Nat.le_refl _, fun _ _ _ => rfl⟩
        have H1 := (H0.killed ho2 rfl hgb hkb.2).frozen (fun bl c v => bl = ρ o ∧ (rowc w1 n g ++ rest)[c]? = some v) (fun bl c v hF => by
          obtain ⟨rfl, hv⟩ := hF
          refine ⟨by simp only [World.cell?, hrow]; simpa using hv, fun i hi => ?_⟩
          obtain ⟨q1, q2⟩ := live_dead.1 hi
          exact fun e => q2 (H0.mem.injs _ _ q1 (live_row ho2) e)) (fun bl c v hF => by rw [hF.1]; exact .inr hB)
        have hle : Env.le (lv ρ ob) ⟨fun _ => True, fun bl c v => ρ.fz bl c v ∨ (bl = ρ o ∧ (rowc w1 n g ++ rest)[c]? = some v)⟩ := ⟨fun _ _ => trivial, fun _ _ _ x => .inl x⟩
        have hxs : (SC.xs (some ⟨ρ o, off * w1, none⟩) len cap w1 fun i c => g (off + i) c).bnd ⟨fun _ => True, fun bl c v => ρ.fz bl c v ∨ (bl = ρ o ∧ (rowc w1 n g ++ rest)[c]? = some v)⟩ := by
          refine ⟨fun e => (by cases e), hlc, fun bb hb => ?_⟩
          simp only [Option.some.injEq] at hb
          subst hb
          refine ⟨fun _ => rfl, fun i hi c hc => ?_⟩
          obtain ⟨q1, q2⟩ := hok (off + i) (by omega) c hc
          refine ⟨SC.bnd_mono (n := (lv ρ ob).bare) (m := Env.bare ⟨fun _ => True, fun bl c v => ρ.fz bl c v ∨ (bl = ρ o ∧ (rowc w1 n g ++ rest)[c]? = some v)⟩) ⟨fun _ x => x, hle.fz⟩ q1, q2, .inr ⟨rfl, ?_⟩⟩
          have hg := rowc_get (w := w1) (n := n) (g := g) (i := off + i) (c := c) (by omega) hc
          have hlt : (off + i) * w1 + c < n * w1 := by
            have : (off + i + 1) * w1 ≤ n * w1 := Nat.mul_le_mul_right _ (by omega)
            rw [Nat.add_mul, Nat.one_mul] at this
            omega
          show (rowc w1 n g ++ rest)[off * w1 + (i * w1 + c)]? = _
          rw [show off * w1 + (i * w1 + c) = (off + i) * w1 + c by rw [Nat.add_mul]; omega, List.getElem?_append_left (by rw [rowc_length]; exact hlt)]
          exact hg
        have hall : ∀ x ∈ pre ++ mkA b k1 (.xs (some ⟨ρ o, off * w1, none⟩) len cap w1 (fun i c => g (off + i) c)) k2 :: post, x.bnd ⟨fun _ => True, fun bl c v => ρ.fz bl c v ∨ (bl = ρ o ∧ (rowc w1 n g ++ rest)[c]? = some v)⟩ := by
          intro x hx
          have old : ∀ y ∈ args, y.bnd ⟨fun _ => True, fun bl c v => ρ.fz bl c v ∨ (bl = ρ o ∧ (rowc w1 n g ++ rest)[c]? = some v)⟩ := fun y hy => SA.bnd_mono hle (hargs y hy)
          rw [hys] at old
          rcases List.mem_append.1 hx with hx | hx
          · exact old x (by simp [hx])
          · rcases List.mem_cons.1 hx with rfl | hx
            · exact mkA_bnd (old (mkA b k1 (.slw o w1 off len cap) k2) (by simp)) hxs
            · exact old x (by simp [hx])
        have hconc : (pre ++ mkA b k1 (.xs (some ⟨ρ o, off * w1, none⟩) len cap w1 (fun i c => g (off + i) c)) k2 :: post).map (SA.conc ⟨ρ.pos, fun bl c v => ρ.fz bl c v ∨ (bl = ρ o ∧ (rowc w1 n g ++ rest)[c]? = some v)⟩) = args.map (SA.conc ρ) := by
          rw [List.map_congr_left (fun x _ => conc_pos x), hys]
          simp only [List.map_append, List.map_cons]
          exact congrArg (List.map (SA.conc ρ) pre ++ ·) (congrArg (· :: List.map (SA.conc ρ) post) (mkA_conc rfl))
        obtain ⟨r, hc⟩ := hfn _ ps rs hof hp ⟨ρ.pos, fun bl c v => ρ.fz bl c v ∨ (bl = ρ o ∧ (rowc w1 n g ++ rest)[c]? = some v)⟩ w (fun b c v hv => (H1.mem.frz b c v hv).1) (hz ▸ H1.gl) hall
        rw [hconc] at r hc
        refine ⟨r, hc.mono ?_⟩
        rintro e w' ⟨vs, rfl, hvs, hbl⟩
        obtain ⟨ρ', sv, q1, q2, q3, q4⟩ := shared H1 hbl h hvs
        exact ⟨_, rfl, ρ', sv, _, q1, q2, q3, q4⟩
    · rename_i pre o off len cap post hfz
      split at h
      case h_2 => exact h.no
      rename_i e' ks sp hob
      split at h
      · rename_i wd hwd
        split at h
        case h_2 => exact h.no
        rename_i hkb
        obtain ⟨rfl, hwl, hbare⟩ := wideS_spec hwd
        obtain ⟨⟨hlc, _⟩, h⟩ := ands_iff.1 h
        have hys := frzOf_spec hfz
        have h := h ⟨ρ o, 0, none⟩
        split at h
        case h_2 => exact h.no
        rename_i ps rs hof
        obtain ⟨hp, h⟩ := ands_iff.1 h
        exact wide_call hfn hz H hargs hob hkb hwl hbare hlc hys hof hp h
      split at h
      case h_2 => exact h.no
      rename_i cs hcs
      split at h
      case h_2 => exact h.no
      rename_i kd hkd
      split at h
      case h_2 => exact h.no
      rename_i hkb
      simp only [Bool.and_eq_true] at hkb
      obtain ⟨⟨hlc, _⟩, h⟩ := ands_iff.1 h
      have hys := frzOf_spec hfz
      obtain ⟨_, ⟨rest, _, hrow⟩, _⟩ := H.mem.obj o e' ks sp hob
      have hgb : w.grownBy w (some (ρ o)) := ⟨rfl, rfl, rfl, Nat.le_refl _, fun _ _ _ => rfl⟩
      have H1 := (H.killed hob rfl hgb hkb.2).frozen (fun bl c v => bl = ρ o ∧ (concs ρ ks ++ rest)[c]? = some v) (fun bl c v hF => by
        obtain ⟨rfl, hv⟩ := hF
        refine ⟨by simp only [World.cell?, hrow]; simpa using hv, fun i hi => ?_⟩
        obtain ⟨q1, q2⟩ := live_dead.1 hi
        exact fun e => q2 (H.mem.injs _ _ q1 (live_cells hob) e)) (fun bl c v hF => by rw [hF.1]; exact .inr (H.mem.objs _ _ hob rfl).1)
      have h := h ⟨ρ o, off, none⟩
      split at h
      case h_2 =>
        split at h
        case h_2 => exact h.no
        rename_i wd hwd
        obtain ⟨rfl, hwl, hbare⟩ := wideS_spec hwd
        split at h
        case h_2 => exact h.no
        rename_i ps rs hof
        obtain ⟨hp, h⟩ := ands_iff.1 h
        exact wide_call hfn hz H hargs hob hkb.2 hwl hbare hlc hys hof hp h
      rename_i ps rs hof
      obtain ⟨hp, h⟩ := ands_iff.1 h
      have hle : Env.le (lv ρ ob) ⟨fun _ => True, fun bl c v => ρ.fz bl c v ∨ (bl = ρ o ∧ (concs ρ ks ++ rest)[c]? = some v)⟩ := ⟨fun _ _ => trivial, fun _ _ _ x => .inl x⟩
      have hxs : (xsI (some ⟨ρ o, off, none⟩) len cap kd (selG cs)).bnd ⟨fun _ => True, fun bl c v => ρ.fz bl c v ∨ (bl = ρ o ∧ (concs ρ ks ++ rest)[c]? = some v)⟩ := by
        refine ⟨fun e => (by cases e), hlc, fun bb hb => ?_⟩
        simp only [Option.some.injEq] at hb
        subst hb
        refine ⟨fun _ => rfl, fun i hi c hc => ⟨trivial, rfl, .inr ⟨rfl, ?_⟩⟩⟩
        have hc0 : c = 0 := by omega
        subst hc0
        obtain ⟨l1, l2⟩ := concs_sub hcs ρ
        have hlen : (flat cs).length = len := by
          obtain ⟨a, b⟩ := sub_flat hcs
          rw [b]; simp; omega
        have := selG_conc hkb.1 ρ (j := i) (by omega)
        rw [l2, List.getElem?_take, if_pos hi, List.getElem?_drop] at this
        rw [Nat.mul_one, Nat.add_zero, List.getElem?_append_left (List.getElem?_eq_some_iff.1 this).1]
        exact this
      have hall : ∀ x ∈ pre ++ xsI (some ⟨ρ o, off, none⟩) len cap kd (selG cs) :: post, x.bnd ⟨fun _ => True, fun bl c v => ρ.fz bl c v ∨ (bl = ρ o ∧ (concs ρ ks ++ rest)[c]? = some v)⟩ := by
        intro x hx
        have old : ∀ y ∈ args, y.bnd ⟨fun _ => True, fun bl c v => ρ.fz bl c v ∨ (bl = ρ o ∧ (concs ρ ks ++ rest)[c]? = some v)⟩ := fun y hy => SA.bnd_mono hle (hargs y hy)
        rw [hys] at old
        rcases List.mem_append.1 hx with hx | hx
        · exact old x (by simp [hx])
        · rcases List.mem_cons.1 hx with rfl | hx
          · exact hxs
          · exact old x (by simp [hx])
      have hconc : (pre ++ xsI (some ⟨ρ o, off, none⟩) len cap kd (selG cs) :: post).map (SA.conc ⟨ρ.pos, fun bl c v => ρ.fz bl c v ∨ (bl = ρ o ∧ (concs ρ ks ++ rest)[c]? = some v)⟩) = args.map (SA.conc ρ) := by
        rw [List.map_congr_left (fun x _ => conc_pos x), hys]
        simp only [List.map_append, List.map_cons]
        rfl
      obtain ⟨r, hc⟩ := hfn _ ps rs hof hp ⟨ρ.pos, fun bl c v => ρ.fz bl c v ∨ (bl = ρ o ∧ (concs ρ ks ++ rest)[c]? = some v)⟩ w (fun b c v hv => (H1.mem.frz b c v hv).1) (hz ▸ H1.gl) hall
      rw [hconc] at r hc
      refine ⟨r, hc.mono ?_⟩
      rintro e w' ⟨vs, rfl, hvs, hbl⟩
      obtain ⟨ρ', sv, q1, q2, q3, q4⟩ := shared H1 hbl h hvs
      exact ⟨_, rfl, ρ', sv, _, q1, q2, q3, q4⟩
section
variable {P : Program} {W0 : Base} {ρ : Rho} {tm : List SV} {ob : List SO} {a : Act} {w : World}
def inlX (P : Program) (cx : Cx) (sl : List (Nat × SSpec)) (dr : Drawn) (iv : List (Nat × Hint)) (N : Nat) : Nat → Inl
  | 0 => inlS sl noInl
  | d + 1 => inlS sl fun f args ob k =>
    match P.funcs[f]? with
    | some fn =>
      match fn.body, fn.name == "runtime.NumGoroutine" with
      | some c, false => sx P { cx with kn := ob.length } (inlX P cx sl dr iv N d) dr iv N ((f + 1) * 100000) ob.length c (slots0 args fn.ntmps) ob (ret P fn.results.toList k)
      | _, _ => StuckAt "no text"
    | none => StuckAt "no function"
theorem inlX_ok {cx : Cx} (hcx : CxOK P cx) {sl : List (Nat × SSpec)} (hsl : ∀ p ∈ sl, FnOKs P cx.gl p.1 p.2) {dr : Drawn} (hdr : DrawnOK P cx dr) (iv : List (Nat × Hint)) (N : Nat) : ∀ d, InlOK P cx.gl (inlX P cx sl dr iv N d)
  | 0 => inlS_ok hsl (noInl_ok P cx.gl)
  | d + 1 => by
    refine inlS_ok hsl ?_
    intro f args ob k h Z ρ tm a w hz H hargs
    split at h
    case h_2 => exact h.no
    rename_i fn hf
    split at h
    case h_2 => exact h.no
    rename_i c hb hn
    refine ⟨run_callFunc_enter hf (by rw [hb]; rfl) hn _ w, ?_⟩
    refine calls_of_sx (cx := { cx with kn := ob.length }) hcx (inlX_ok hcx hsl hdr iv N d) hdr iv N _ hf hb args ρ hargs w H.below H.mem (by rw [← hz]; exact H.gl) (Nat.le_refl _) H.keeps k (fun sv ob' ρ' v w' hk hr hbd hB hm hkp hfz hkk => ?_) h
    refine ⟨v, rfl, ρ', sv, ob', hk, hr, hbd, H.onto (fun i hi hi' => ?_) hfz.le hfz.own hB hm ⟨fun i hi => ?_, fun i hi => hkp.2.1 i (H.kept.2.1 i hi), Nat.le_trans H.kept.2.2 hkp.2.2⟩ hkk⟩
    · rcases hkp.1 i hi with ⟨_, e⟩ | e
      · exact e
      · obtain ⟨_, h', hh⟩ := hi'; rw [e] at h'; cases h'; cases hh
    · rcases H.kept.1 i hi with ⟨k1, k2⟩ | k1
      · rcases hkp.1 i k1 with ⟨q1, q2⟩ | q
        · exact .inl ⟨q1, Eq.trans q2 k2⟩
        · exact .inr q
      · exact .inr (hkp.2.1 i k1)
def isInt (k : IntKind) (n : Int) (s : SC) : Prop :=
  match asI (.sc s) with
  | some (k', m) => if k' = k then m = n else False
  | none => False
theorem isInt_sound {k : IntKind} {n : Int} {s : SC} (h : isInt k n s) (ρ : Rho) : s.conc ρ = .int k n := by
  unfold isInt at h
  split at h
  · rename_i k' m hm
    split at h
    · rename_i e
      subst e
      subst h
      exact asI_sound hm ρ
    · exact h.elim
  · exact h.elim
def okS (sh : Bool) (ob : List SO) (n wd : Nat) (g : Nat → Nat → SC) : SC → Prop
  | .val (.slice none 0 0) => n = 0
  | .slw o w off len cap => match ob[o]? with
    | some (.row _ w' m h _) => match Nat.beq w wd && Nat.beq w' wd with
      | true => ands [off + len ≤ m, len = n, len ≤ cap] (∀ i, i < n → allC wd fun c => simC (h (off + i) c) (g i c))
      | false => StuckAt "row"
    | _ => StuckAt "row"
  | .xs _ len _ w h => match sh, Nat.beq w wd with
    | true, true => ands [len = n] (∀ i, i < n → allC wd fun c => simC (h i c) (g i c))
    | _, _ => StuckAt "shared"
  | .sl o off len cap => match ob[o]? with
    | some (.cells _ ks _) => match sub ks off (n * wd) with
      | some cs => match (flat cs).all bareC with
        | true => ands [len = n, len ≤ cap] (∀ i, i < n → allC wd fun c => simC (fixAt (flat cs) wd n 0 i c) (g i c))
        | false => StuckAt "cells"
      | none => StuckAt "cells"
    | _ => StuckAt "cells"
  | _ => StuckAt "result"
def okK (sh : Bool) (ob : List SO) : List RK → List SK → Prop
  | [], [] => True
  | .k x :: r, y :: r' => match grab (y :: r') x.cells.length, seek (y :: r') x.cells.length with
    | some a, some b => ands [sameK a [x]] (okK sh ob r b)
    | _, _ => StuckAt "parts"
  | .s n wd g :: r, .c y :: r' => okS sh ob n wd g y ∧ okK sh ob r r'
  | _, _ => StuckAt "parts"
def okR (sh : Bool) (ob : List SO) : RS → SA → Prop
  | .v y, x => sameA x y
  | .s n k g, .sc x => match x with
    | .val (.slice none 0 0) => n = 0
    | .slw o w off len cap => match ob[o]? with
      | some (.row _ w' m h _) => match Nat.beq w 1 && Nat.beq w' 1 with
        | true => ands [off + len ≤ m, len = n, len ≤ cap] (∀ i, i < n → isInt k (g i) (h (off + i) 0))
        | false => StuckAt "row"
      | _ => StuckAt "row"
    | .sl o off len cap => match ob[o]? with
      | some (.cells _ ks _) => match sub ks off len with
        | some cs => match kindAll k cs with
          | true => ands [len = n, len ≤ cap] (∀ i, i < n → selG cs i = g i)
          | false => StuckAt "cells"
        | none => StuckAt "cells"
      | _ => StuckAt "cells"
    | .xs _ len _ w h => match sh, Nat.beq w 1 with
      | true, true => ands [len = n] (∀ i, i < n → isInt k (g i) (h i 0))
      | _, _ => StuckAt "shared"
    | _ => StuckAt "result"
  | .rows n wd g, .sc x => okS sh ob n wd g x
  | .st ks, .agg l => okK sh ob ks l
  | .ex P f, x => match sh with
    | true => ∃ ac, P ac ∧ okR true ob (f ac) x
    | false => StuckAt "shared"
  | _, _ => StuckAt "result"
def okRL (sh : Bool) (ob : List SO) : List RS → List SA → Prop
  | [], [] => True
  | [r], [x] => okR sh ob r x
  | r :: rs, x :: xs => okR sh ob r x ∧ okRL sh ob rs xs
  | _, _ => False
def okRS (sh : Bool) (rs : List RS) (sv : SV) (ob : List SO) : Prop :=
  match sv with
  | .one x => okRL sh ob rs [x]
  | .tup [_] => False
  | .tup xs => okRL sh ob rs xs
  | _ => False
def closedG (n wd : Nat) (g : Nat → Nat → SC) : Prop := ∀ i, i < n → ∀ c, c < wd → (g i c).bnd none0 ∧ (g i c).fit = true
def RK.closed : RK → Prop
  | .k x => x.bnd none0
  | .s n wd g => closedG n wd g
def RK.closedX : RK → Prop
  | .k x => x.bnd none0
  | .s _ _ _ => True
def RS.closedX : RS → Prop
  | .v x => x.bnd none0
  | .s _ _ _ => True
  | .rows _ _ _ => True
  | .st ks => ∀ k ∈ ks, k.closedX
  | .ex _ f => ∀ ac, (f ac).closedX
def RS.closed : RS → Prop
  | .v x => x.bnd none0
  | .s _ _ _ => True
  | .rows n wd g => closedG n wd g
  | .st ks => ∀ k ∈ ks, k.closed
  | .ex _ f => ∀ ac, (f ac).closedX
theorem lv_far {B : Nat} {F : Nat → Nat → Value → Prop} {ob : List SO} (hm : Mem B ρ ob w) (hf : ∀ b o v, ρ.fz b o v → (∃ o u, F b o u) ∨ B ≤ b) : Env.le (lv ρ ob).bare (farE w (fun b => B ≤ b ∨ (true = true ∧ ∃ o u, F b o u))) :=
  ⟨fun _ k => k, fun b o v k => ⟨(hf b o v k).elim (fun q => .inr ⟨rfl, q⟩) .inl, (hm.frz b o v k).1⟩⟩
theorem okS_sound {B : Nat} {F : Nat → Nat → Value → Prop} {ob : List SO} (hm : Mem B ρ ob w) (hf : ∀ b o v, ρ.fz b o v → (∃ o u, F b o u) ∨ B ≤ b) {sh : Bool} {n wd : Nat} {g : Nat → Nat → SC} {x : SC} (hr : sh = true ∨ closedG n wd g) (hx : x.bnd (lv ρ ob)) (h : okS sh ob n wd g x) :
    isSl w (fun b => B ≤ b ∨ (sh = true ∧ ∃ o u, F b o u)) n wd g (x.conc ρ) := by
  unfold okS at h
  split at h
  · subst h
    exact ⟨none, 0, rfl, fun _ => ⟨rfl, rfl⟩, Nat.le_refl _, fun b hb => by cases hb⟩
  · rename_i o w1 off len cap
    split at h
    case h_2 => exact h.no
    rename_i e' w2 m g' sp hob
    split at h
    case h_2 => exact h.no
    rename_i hw
    simp only [Bool.and_eq_true] at hw
    have hw1 := Nat.eq_of_beq_eq_true hw.1
    have hw2 := Nat.eq_of_beq_eq_true hw.2
    subst hw1
    subst hw2
    obtain ⟨⟨hol, hln, hlc, _⟩, h⟩ := ands_iff.1 h
    subst hln
    obtain ⟨hB, ⟨rest, _, hrow⟩, hok⟩ := hm.rows hob
    refine ⟨some ⟨ρ o, off * w2, none⟩, cap, rfl, fun e => (by cases e), hlc, fun b hb => ?_⟩
    simp only [Option.some.injEq] at hb
    subst hb
    refine ⟨fun _ => rfl, fun i hi c hc => ⟨?_, .inl hB, ?_⟩⟩
    · rcases hr with rfl | hr
      · obtain ⟨q1, q2⟩ := hok (off + i) (by omega) c hc
        exact ⟨SC.bnd_mono (lv_far hm hf) (simC_bnd _ (allC_at (h i hi) c hc) q1), simC_fit (allC_at (h i hi) c hc) q2⟩
      · exact ⟨SC.bnd_mono none0_le (hr i hi c hc).1, (hr i hi c hc).2⟩
    have hg := rowc_get (w := w2) (n := m) (g := g') (i := off + i) (c := c) (by omega) hc
    have hlt : (off + i) * w2 + c < m * w2 := by
      have : (off + i + 1) * w2 ≤ m * w2 := Nat.mul_le_mul_right _ (by omega)
      rw [Nat.add_mul, Nat.one_mul] at this
      omega
    simp only [World.cell?, hrow]
    rw [show off * w2 + (i * w2 + c) = (off + i) * w2 + c by rw [Nat.add_mul]; omega, List.getElem?_toArray, List.getElem?_append_left (by rw [rowc_length]; exact hlt), ← simC_sound Rho.nil (allC_at (h i hi) c hc)]
    exact hg
  · rename_i ad len cap w1 h'
    split at h
    case h_2 => exact h.no
    rename_i hs hw
    have hw1 := Nat.eq_of_beq_eq_true hw
    subst hw1
    obtain ⟨⟨hln, _⟩, h⟩ := ands_iff.1 h
    subst hln
    obtain ⟨b1, b2, b3⟩ := hx
    refine ⟨ad, cap, rfl, b1, b2, fun b hb => ⟨(b3 b hb).1, fun i hi c hc => ?_⟩⟩
    obtain ⟨q1, q2, q⟩ := (b3 b hb).2 i hi c hc
    rw [simC_sound Rho.nil (allC_at (h i hi) c hc)] at q
    refine ⟨⟨SC.bnd_mono (lv_far hm hf) (simC_bnd _ (allC_at (h i hi) c hc) q1), simC_fit (allC_at (h i hi) c hc) q2⟩, ?_, (hm.frz _ _ _ q).1⟩
    rcases hf _ _ _ q with k | k
    · exact .inr ⟨rfl, k⟩
    · exact .inl k
  · rename_i o off len cap
    split at h
    case h_2 => exact h.no
    rename_i e' ks sp hob
    split at h
    case h_2 => exact h.no
    rename_i cs hcs
    split at h
    case h_2 => exact h.no
    rename_i hba
    obtain ⟨⟨hln, hlc, _⟩, h⟩ := ands_iff.1 h
    subst hln
    obtain ⟨hB, ⟨rest, _, hrow⟩, hok, _⟩ := hm.obj o e' ks sp hob
    obtain ⟨hl1, hl2⟩ := sub_flat hcs
    obtain ⟨_, hl3⟩ := concs_sub hcs ρ
    have hlen : (flat cs).length = len * wd := by rw [hl2]; simp; omega
    have hcb : ∀ c ∈ flat cs, c.bnd (lv ρ ob) := fun c hc => by
      rw [hl2] at hc
      exact flat_bnd hok c (List.mem_of_mem_drop (List.mem_of_mem_take hc))
    have hbc : ∀ c ∈ flat cs, bareC c = true := fun c hc => List.all_eq_true.1 hba c hc
    refine ⟨some ⟨ρ o, off, none⟩, cap, rfl, fun e => (by cases e), hlc, fun b hb => ?_⟩
    simp only [Option.some.injEq] at hb
    subst hb
    refine ⟨fun _ => rfl, fun i hi c hc => ?_⟩
    obtain ⟨q0, q1, q2⟩ := fixAt_spec (flat cs) wd (fun c hc E he => (bareC_ok (hbc c hc) he).1) (fun c hc => (bareC_ok (hbc c hc) (hcb c hc)).2) hcb len 0 i c (Nat.zero_le _) (by omega) hc (by rw [hlen, Nat.zero_add])
    have hlt : i * wd + c < len * wd := by
      have : (i + 1) * wd ≤ len * wd := Nat.mul_le_mul_right _ (by omega)
      rw [Nat.add_mul, Nat.one_mul] at this
      omega
    refine ⟨?_, .inl hB, ?_⟩
    · rcases hr with rfl | hr
      · exact ⟨SC.bnd_mono (lv_far hm hf) (simC_bnd _ (allC_at (h i hi) c hc) q1), simC_fit (allC_at (h i hi) c hc) q2⟩
      · exact ⟨SC.bnd_mono none0_le (hr i hi c hc).1, (hr i hi c hc).2⟩
    · rw [← simC_sound Rho.nil (allC_at (h i hi) c hc), q0]
      have hget : (flat cs)[i * wd + c]? = some ((flat cs).getD (i * wd + c) (.bit false)) := by
        rw [List.getD_eq_getElem?_getD, List.getElem?_eq_getElem (by omega)]; rfl
      have hmem : (flat cs).getD (i * wd + c) (.bit false) ∈ flat cs := List.mem_of_getElem? hget
      have hcn : ((flat cs).getD (i * wd + c) (.bit false)).conc Rho.nil = ((flat cs).getD (i * wd + c) (.bit false)).conc ρ := (conc_bare (bareC_ok (hbc _ hmem) (hcb _ hmem)).1 ρ).symm
      rw [hcn]
      have hk : (concs ρ ks)[off + (i * wd + c)]? = some (((flat cs).getD (i * wd + c) (.bit false)).conc ρ) := by
        unfold concs
        rw [List.getElem?_map]
        have : (flat cs)[i * wd + c]? = (flat ks)[off + (i * wd + c)]? := by
          rw [hl2, List.getElem?_take, if_pos hlt, List.getElem?_drop]
        rw [← this, hget]; rfl
      simp only [World.cell?, hrow]
      rw [List.getElem?_toArray, List.getElem?_append_left (List.getElem?_eq_some_iff.1 hk).1]
      exact hk
  · exact h.no
theorem okK_sound {B : Nat} {F : Nat → Nat → Value → Prop} {ob : List SO} (hm : Mem B ρ ob w) (hf : ∀ b o v, ρ.fz b o v → (∃ o u, F b o u) ∨ B ≤ b) {sh : Bool} : ∀ {ks : List RK} {l : List SK}, (∀ k ∈ ks, k.closedX) → (sh = true ∨ ∀ k ∈ ks, k.closed) → (∀ x ∈ l, x.bnd (lv ρ ob)) → okK sh ob ks l →
    isG w (fun b => B ≤ b ∨ (sh = true ∧ ∃ o u, F b o u)) ks (concs ρ l)
  | [], [], _, _, _, _ => rfl
  | .k x :: r, y :: r', hk, hq, hl, h => by
    unfold okK at h
    split at h
    case h_2 => exact h.no
    rename_i a b ha hb'
    obtain ⟨⟨h1, _⟩, h2⟩ := ands_iff.1 h
    have hb : x.bnd none0 := hk (.k x) (by simp)
    have hcat : concs ρ (y :: r') = concs ρ a ++ concs ρ b := by
      have e1 := (grab_flat _ _ ha).2
      have e2 := (seek_flat _ _ hb').2
      unfold concs
      rw [← List.map_append, e1, e2, List.take_append_drop]
    refine ⟨concs ρ b, ?_, hb, okK_sound hm hf (fun k h => hk k (by simp [h])) (hq.imp id fun q k h => q k (by simp [h])) (bnd_flat.2 (mem_seek hb' (bnd_flat.1 hl))) h2⟩
    rw [hcat, sameK_sound ρ _ _ h1, Agree.sks (n := none0) (ρ := Rho.nil) (ρ' := ρ) (fun _ hi => hi.elim) (fun c hc => by rw [List.mem_singleton.1 hc]; exact hb)]
  | .s n wd g :: r, .c y :: r', hk, hq, hl, h =>
    ⟨y.conc ρ, concs ρ r', by rw [concs_cons ρ _ r']; rfl, okS_sound hm hf (hq.imp id fun q => q (.s n wd g) (by simp)) (hl (.c y) (by simp)) h.1, okK_sound hm hf (fun k h => hk k (by simp [h])) (hq.imp id fun q k h => q k (by simp [h])) (fun x h => hl x (by simp [h])) h.2⟩
  | [], _ :: _, _, _, _, h | .k _ :: _, [], _, _, _, h | .s _ _ _ :: _, [], _, _, _, h | .s _ _ _ :: _, .u _ :: _, _, _, _, h | .s _ _ _ :: _, .f _ _ _ :: _, _, _, _, h => by unfold okK at h; exact h.no
theorem RK.closed.x : ∀ {k : RK}, k.closed → k.closedX
  | .k _, h => h
  | .s _ _ _, _ => trivial
theorem RS.closed.x : ∀ {r : RS}, r.closed → r.closedX
  | .v _, h => h
  | .s _ _ _, _ => trivial
  | .rows _ _ _, _ => trivial
  | .st _, h => fun k hk => (h k hk).x
  | .ex _ _, h => h
theorem okR_sound {B : Nat} {F : Nat → Nat → Value → Prop} {ob : List SO} (hm : Mem B ρ ob w) (hf : ∀ b o v, ρ.fz b o v → (∃ o u, F b o u) ∨ B ≤ b) {sh : Bool} {r : RS} {x : SA} (hr : r.closedX) (hq : sh = true ∨ r.closed) (hx : x.bnd (lv ρ ob)) (h : okR sh ob r x) : r.is w (fun b => B ≤ b ∨ (sh = true ∧ ∃ o u, F b o u)) (x.conc ρ) := by
  induction r generalizing x with
  | ex P f ih =>
    unfold okR at h
    split at h
    · obtain ⟨ac, hp, h⟩ := h
      exact ⟨ac, hp, ih ac (hr ac) (.inl rfl) hx h⟩
    · exact h.no
  | rows n wd g =>
    cases x with
    | sc x => exact okS_sound hm hf (hq.imp id id) hx h
    | agg l => unfold okR at h; exact h.no
  | st ks =>
    cases x with
    | sc x => unfold okR at h; exact h.no
    | agg l => exact ⟨concs ρ l, rfl, okK_sound hm hf hr (hq.imp id id) hx h⟩
  | v y => exact ⟨by rw [sameA_sound ρ h]; exact (Agree.sa (n := none0) (ρ := ρ) (ρ' := Rho.nil) (fun _ hi => hi.elim) hr).symm, hr⟩
  | s n k g =>
    unfold okR at h
    split at h
    · rename_i h1; cases h1
    · rename_i n' k' g' x heq
      simp only [RS.s.injEq] at heq
      obtain ⟨rfl, rfl, rfl⟩ := heq
      split at h
      · subst h
        exact ⟨none, 0, rfl, fun _ => ⟨rfl, rfl⟩, Nat.le_refl _, fun b hb => by cases hb⟩
      · rename_i o w1 off len cap
        split at h
        case h_2 => exact h.no
        rename_i e' w2 m g' sp hob
        split at h
        case h_2 => exact h.no
        rename_i hw
        simp only [Bool.and_eq_true] at hw
        have hw1 := Nat.eq_of_beq_eq_true hw.1
        have hw2 := Nat.eq_of_beq_eq_true hw.2
        subst hw1
        subst hw2
        obtain ⟨⟨hol, hln, hlc, _⟩, h⟩ := ands_iff.1 h
        subst hln
        obtain ⟨hB, ⟨rest, _, hrow⟩, hok⟩ := hm.rows hob
        refine ⟨some ⟨ρ o, off, none⟩, cap, by simp only [SA.conc, SC.conc, Nat.mul_one], fun e => (by cases e), hlc, fun b hb => ?_⟩
        simp only [Option.some.injEq] at hb
        subst hb
        refine ⟨fun _ => rfl, fun i hi => ⟨.inl hB, ?_⟩⟩
        have hg := rowc_get (w := 1) (n := m) (g := g') (i := off + i) (c := 0) (by omega) (by omega)
        simp only [World.cell?, hrow]
        rw [List.getElem?_toArray, List.getElem?_append_left (by rw [rowc_length]; omega), show off + i = (off + i) * 1 + 0 by omega, hg, isInt_sound (h i hi)]
        rfl
      · rename_i o off len cap
        split at h
        case h_2 => exact h.no
        rename_i e' ks sp hob
        split at h
        case h_2 => exact h.no
        rename_i cs hcs
        split at h
        case h_2 => exact h.no
        rename_i hka
        obtain ⟨⟨hln, hlc, _⟩, h⟩ := ands_iff.1 h
        subst hln
        obtain ⟨hB, ⟨rest, _, hrow⟩, _⟩ := hm.obj o e' ks sp hob
        refine ⟨some ⟨ρ o, off, none⟩, cap, rfl, fun e => (by cases e), hlc, fun b hb => ?_⟩
        simp only [Option.some.injEq] at hb
        subst hb
        refine ⟨fun _ => rfl, fun i hi => ⟨.inl hB, ?_⟩⟩
        obtain ⟨l1, l2⟩ := concs_sub hcs ρ
        have hlen : (flat cs).length = len := by
          obtain ⟨a, b⟩ := sub_flat hcs
          rw [b]; simp; omega
        have := selG_conc hka ρ (j := i) (by omega)
        rw [l2, List.getElem?_take, if_pos hi, List.getElem?_drop, h i hi] at this
        simp only [World.cell?, hrow]
        rw [List.getElem?_toArray, List.getElem?_append_left (List.getElem?_eq_some_iff.1 this).1]
        exact this
      · rename_i ad len cap w1 h'
        split at h
        case h_2 => exact h.no
        rename_i hs hw
        have hw1 := Nat.eq_of_beq_eq_true hw
        subst hw1
        obtain ⟨⟨hln, _⟩, h⟩ := ands_iff.1 h
        subst hln
        obtain ⟨b1, b2, b3⟩ := hx
        refine ⟨ad, cap, rfl, b1, b2, fun b hb => ⟨(b3 b hb).1, fun i hi => ?_⟩⟩
        obtain ⟨_, _, q⟩ := (b3 b hb).2 i hi 0 (by omega)
        rw [isInt_sound (h i hi), Nat.mul_one, Nat.add_zero] at q
        refine ⟨?_, (hm.frz _ _ _ q).1⟩
        rcases hf _ _ _ q with k | k
        · exact .inr ⟨rfl, k⟩
        · exact .inl k
      · exact h.no
    · rename_i h1; cases h1
    · rename_i h1; cases h1
    · rename_i h1; cases h1
    · exact h.no
theorem okRL_sound {B : Nat} {F : Nat → Nat → Value → Prop} {ob : List SO} (hm : Mem B ρ ob w) (hf : ∀ b o v, ρ.fz b o v → (∃ o u, F b o u) ∨ B ≤ b) {sh : Bool} : ∀ {rs : List RS} {xs : List SA}, (∀ r ∈ rs, r.closed) → (∀ x ∈ xs, x.bnd (lv ρ ob)) → okRL sh ob rs xs → RS.isL w (fun b => B ≤ b ∨ (sh = true ∧ ∃ o u, F b o u)) rs (xs.map (SA.conc ρ))
  | [], [], _, _, _ => trivial
  | [r], [x], hr, hx, h => ⟨okR_sound hm hf (hr r (by simp)).x (.inr (hr r (by simp))) (hx x (by simp)) h, trivial⟩
  | r :: r2 :: rs, x :: xs, hr, hx, h => ⟨okR_sound hm hf (hr r (by simp)).x (.inr (hr r (by simp))) (hx x (by simp)) h.1, okRL_sound hm hf (fun y hy => hr y (by simp [hy])) (fun y hy => hx y (by simp [hy])) h.2⟩
  | [r], x :: y :: xs, hr, hx, h => ⟨okR_sound hm hf (hr r (by simp)).x (.inr (hr r (by simp))) (hx x (by simp)) h.1, by exact h.2.elim⟩
  | [], _ :: _, _, _, h => by exact h.elim
  | [_], [], _, _, h => by exact h.elim
  | _ :: _ :: _, [], _, _, h => by exact h.elim
def OwesS (P : Program) (cx : Cx) (sl : List (Nat × SSpec)) (iv : List (Nat × Hint)) (N : Nat) (fn : Func) (args : List SA) (post : SV → List SO → Prop) : Prop :=
  sx P cx (inlX P cx sl drawOK iv N 8) drawOK iv N 0 0 (fn.body.getD .skip) (slots0 args fn.ntmps) [] (ret P fn.results.toList post)
def OwesV (P : Program) (cx : Cx) (sl : List (Nat × SSpec)) (iv : List (Nat × Hint)) (N : Nat) (fn : Func) (args : List SA) (out : SV) : Prop :=
  OwesS P cx sl iv N fn args fun sv _ => same sv out
def OwesR (P : Program) (cx : Cx) (sl : List (Nat × SSpec)) (iv : List (Nat × Hint)) (N : Nat) (fn : Func) (args : List SA) (sh : Bool) (rs : List RS) : Prop :=
  OwesS P cx sl iv N fn args (okRS sh rs)
theorem calls_of_owesS {cx : Cx} (hcx : CxOK P cx) {sl : List (Nat × SSpec)} (hsl : ∀ p ∈ sl, FnOKs P cx.gl p.1 p.2) {iv : List (Nat × Hint)} {N : Nat} {f : FuncId} {fn : Func} (hf : P.funcs[f]? = some fn) (hb : fn.body.isSome = true) {args : List SA} {post : SV → List SO → Prop}
    (h : OwesS P cx sl iv N fn args post) (ρ : Rho) (w : World) (hz : FzOK ρ.fz w) (hg : GlobsOK cx.gl ρ.fz) (hargs : ∀ x ∈ args, x.bnd ⟨fun _ => False, ρ.fz⟩) :
    Calls P f (args.map (SA.conc ρ)).toArray w fun e w' => ∃ v, e = .returned v ∧ Below w.heap.size w w' ∧ ∃ sv ob' ρ', post sv ob' ∧ sv.rep ρ' v ∧ sv.bnd (lv ρ' ob') ∧ Mem w.heap.size ρ' ob' w' ∧ FzLe ⟨w, [], ρ, cx.gl, noKeep⟩ ρ' := by
  obtain ⟨c, hc⟩ := Option.isSome_iff_exists.1 hb
  unfold OwesS at h
  rw [hc] at h
  exact calls_of_sx hcx (inlX_ok hcx hsl (drawOK_ok hcx) iv N 8) (drawOK_ok hcx) iv N 0 hf hc (Z := w) (ob := []) args ρ (fun x hx => SA.bnd_mono (n := ⟨fun _ => False, ρ.fz⟩) (m := lv ρ []) ⟨fun _ k => k.elim, fun _ _ _ k => k⟩ (hargs x hx)) w (Below.refl _ _) (Mem.start hz) hg (Nat.zero_le _) (Keeps.none _ _ _) _
    (fun sv ob' ρ' v w' hp hr hbd hb hm _ hfz _ => ⟨v, rfl, hb, sv, ob', ρ', hp, hr, hbd, hm, hfz⟩) h
theorem FnOKs_owes {cx : Cx} (hcx : CxOK P cx) {sl : List (Nat × SSpec)} (hsl : ∀ p ∈ sl, FnOKs P cx.gl p.1 p.2) {f : Nat} {fn : Func} (hf : P.funcs[f]? = some fn) (hb : fn.body.isSome = true) (hn : (fn.name == "runtime.NumGoroutine") = false) {s : SSpec}
    (h : ∀ args ps rs, s.of args = some (ps, rs) → Ok ps → ∃ iv N args', (∀ ρ, args.map (SA.conc ρ) = args'.map (SA.conc ρ)) ∧ (∀ fz, (∀ x ∈ args, x.bnd ⟨fun _ => True, fz⟩) → ∀ x ∈ args', x.bnd ⟨fun _ => False, fz⟩) ∧ (∀ r ∈ rs, r.closed) ∧ OwesR P cx sl iv N fn args' s.share rs) : FnOKs P cx.gl f s := by
  intro args ps rs hs hp ρ w hz hg ha
  refine ⟨run_callFunc_enter hf hb hn _ w, ?_⟩
  obtain ⟨iv, N, args', h1, h2, h3, h4⟩ := h args ps rs hs hp
  rw [h1]
  refine (calls_of_owesS hcx hsl hf hb h4 ρ w hz hg (h2 _ ha)).mono ?_
  rintro e w' ⟨v, rfl, hbl, sv, ob', ρ', hp', hr, hbd, hm, hfz⟩
  have key : ∀ xs : List SA, (∀ x ∈ xs, x.bnd (lv ρ' ob')) → okRL s.share ob' rs xs → RS.isL w' (fun b => w.heap.size ≤ b ∨ (s.share = true ∧ ∃ o u, ρ.fz b o u)) rs (xs.map (SA.conc ρ')) := fun xs hx hk => okRL_sound (F := ρ.fz) hm hfz.own h3 hx hk
  unfold okRS at hp'
  split at hp'
  · rename_i x
    exact ⟨_, by rw [hr]; rfl, key [x] (fun y hy => by simp only [List.mem_singleton] at hy; subst hy; exact hbd) hp', hbl⟩
  · exact hp'.elim
  · rename_i xs hne
    refine ⟨xs.map (SA.conc ρ'), ?_, key xs hbd hp', hbl⟩
    rw [hr]
    match xs, hne with
    | [], _ => rfl
    | [x], hne => exact absurd rfl (hne x)
    | x :: y :: r, _ => rfl
  · exact hp'.elim
end
attribute [irreducible] OwesS OwesV OwesR
end Go.Sx
end

section
namespace Go.Sx
open Go.RowKit
end Go.Sx
end

section
namespace Go.Sx
open Go.RowKit
theorem asI_canon {x : SA} {k : IntKind} {n : Int} (h : asI x = some (k, n)) (ρ : Rho) : x.conc ρ = (sI k n).conc ρ := asI_sound h ρ
def specII (c : Int → Int → List Prop) (g : Int → Int → SV) : FSpec := fun args =>
  match args with
  | [x, y] => match asI x, asI y with
    | some (.i64, a), some (.i64, b) => some (c a b, g a b)
    | _, _ => none
  | _ => none
theorem FnOK_II {P : Program} {cx : Cx} (hcx : CxOK P cx) {iv : List (Nat × Hint)} {N : Nat} {f : Nat} {fn : Func} (hf : P.funcs[f]? = some fn) (hb : fn.body.isSome = true) (hn : (fn.name == "runtime.NumGoroutine") = false) {c : Int → Int → List Prop} {g : Int → Int → SV} (hg : ∀ a b, (g a b).bnd none0)
    (h : ∀ a b, Ok (c a b) → Owes P cx iv N fn [sI .i64 a, sI .i64 b] (g a b)) : FnOKg P cx.gl f (specII c g) := by
  refine FnOK_owes (iv := iv) (N := N) hcx hf hb hn fun args ps sv hs hp => ?_
  unfold specII at hs
  split at hs
  · rename_i x y
    split at hs
    · rename_i a b ha hb'
      simp only [Option.some.injEq, Prod.mk.injEq] at hs
      obtain ⟨rfl, rfl⟩ := hs
      refine ⟨[sI .i64 a, sI .i64 b], fun ρ => by simp only [List.map_cons, List.map_nil, asI_canon ha ρ, asI_canon hb' ρ], ?_, hg a b, h a b hp⟩
      intro z hz
      simp only [List.mem_cons, List.not_mem_nil, or_false] at hz
      rcases hz with rfl | rfl <;> trivial
    · cases hs
  · cases hs
def i64ok (n : Int) : Prop := -9223372036854775808 ≤ n ∧ n ≤ 9223372036854775807
def lookS : List (Nat × SV) → Nat → SV
  | [], _ => .any
  | (k, v) :: r, t => match Nat.beq k t with
    | true => v
    | false => lookS r t
def slotsAt (n : Nat) (l : List (Nat × SV)) : List SV := (List.range n).map (lookS l)
def specI (c : Int → List Prop) (g : Int → SV) : FSpec := fun args =>
  match args with
  | [x] => match asI x with
    | some (.i64, a) => some (c a, g a)
    | _ => none
  | _ => none
theorem FnOK_I {P : Program} {cx : Cx} (hcx : CxOK P cx) {iv : Int → List (Nat × Hint)} {N : Nat} {f : Nat} {fn : Func} (hf : P.funcs[f]? = some fn) (hb : fn.body.isSome = true) (hn : (fn.name == "runtime.NumGoroutine") = false) {c : Int → List Prop} {g : Int → SV} (hg : ∀ a, (g a).bnd none0)
    (h : ∀ a, Ok (c a) → Owes P cx (iv a) N fn [sI .i64 a] (g a)) : FnOKg P cx.gl f (specI c g) := by
  refine FnOK_of hf hb hn fun args ps sv hs hp => ?_
  unfold specI at hs
  split at hs
  · rename_i x
    split at hs
    · rename_i a ha
      simp only [Option.some.injEq, Prod.mk.injEq] at hs
      obtain ⟨rfl, rfl⟩ := hs
      refine ⟨hg a, fun ρ w hzz hgg _ => ?_⟩
      rw [show [x].map (SA.conc ρ) = [sI .i64 a].map (SA.conc ρ) by simp only [List.map_cons, List.map_nil, asI_canon ha ρ]]
      refine (calls_of_owes0 hcx hf hb (args := [sI .i64 a]) (by intro z hz; simp only [List.mem_singleton] at hz; subst hz; trivial) (h a hp) ρ w hzz hgg).mono ?_
      rintro e w' ⟨v, rfl, ⟨ρ', hr⟩, hbl⟩
      exact ⟨v, rfl, rep_none0 (hg a) hr, hbl⟩
    · cases hs
  · cases hs
def yes : SV := .one (sB true)
def pickedG (n m : Int) : SV := .one (sI .i64 (n % m))
end Go.Sx
end

section
namespace Go.Sx
open Go.RowKit
end Go.Sx
end

section
namespace Go.Sx
open Go.RowKit
end Go.Sx
end

section
namespace Go.Sx
open Go.RowKit
end Go.Sx
end

section
namespace Go.Sx
open Go.RowKit
def asBit : SC → Option Bool
  | .bit x => some x
  | .val (.bool x) => some x
  | _ => none
theorem asBit_sound {s : SC} {x : Bool} (h : asBit s = some x) (ρ : Rho) : s.conc ρ = .bool x := by
  unfold asBit at h
  split at h
  · cases h; rfl
  · cases h; rfl
  · cases h
def takeU : List SK → Option (List Prop × Nat × List SK)
  | .u n :: r => some ([], n, r)
  | .c a :: .c b :: .c c :: .c d :: r => match asU4 [a, b, c, d] with
    | some (ps, n) => some (ps, n, r)
    | none => none
  | _ => none
theorem takeU_sound {ks r : List SK} {ps : List Prop} {n : Nat} (h : takeU ks = some (ps, n, r)) (hp : Ok ps) (ρ : Rho) : concs ρ ks = concs ρ (.u n :: r) := by
  unfold takeU at h
  split at h
  · cases h; rfl
  · rename_i a b c d r'
    split at h
    · rename_i ps' n' h4
      simp only [Option.some.injEq, Prod.mk.injEq] at h
      obtain ⟨rfl, rfl, rfl⟩ := h
      have := asU4_sound h4 hp ρ
      simp only [U, List.map_cons, List.map_nil, Value.agg.injEq] at this
      have := congrArg Array.toList this
      simp only [List.cons.injEq, and_true] at this
      obtain ⟨e1, e2, e3, e4⟩ := this
      simp [concs, flat, SK.cells, e1, e2, e3, e4, show ∀ v, (SC.val v).conc ρ = v from fun _ => rfl]
    · cases h
  · cases h
theorem concs_app (ρ : Rho) (k : SK) {xs ys : List SK} (h : concs ρ xs = concs ρ ys) : concs ρ (k :: xs) = concs ρ (k :: ys) := by
  rw [concs_cons ρ k xs, concs_cons ρ k ys, h]
end Go.Sx
end

section
namespace Go.Sx
open Go.RowKit
def inlW (wl : List (Nat × WSpec)) (inner : Inl) : Inl := fun f args ob k =>
  match getW wl f with
  | none => inner f args ob k
  | some s => match wdo s args ob with
    | some (ps, sv, o, _, m) => ands ps (k sv (ob.set o (noteO s.e s.k m)))
    | none => StuckAt "cell"
theorem inlW_ok {P : Program} {gl : Globs} {wl : List (Nat × WSpec)} (hwl : ∀ p ∈ wl, FnOKw P gl p.1 p.2) {inner : Inl} (hin : InlOK P gl inner) : InlOK P gl (inlW wl inner) := by
  intro f args ob k h Z ρ tm a w hz H hargs
  unfold inlW at h
  split at h
  · exact hin f args ob k h hz H hargs
  rename_i s hs
  split at h
  case h_2 => exact h.no
  rename_i ps sv o n m hd
  obtain ⟨hp, h⟩ := ands_iff.1 h
  obtain ⟨r, hc⟩ := wdo_sound H (hz ▸ getW_ok hwl hs) hargs hd hp
  refine ⟨r, hc.mono ?_⟩
  rintro e w' ⟨v, rfl, hv, hb, H'⟩
  exact ⟨v, rfl, ρ, sv, _, h, hv, SV.bnd_mono none0_le hb, H'.scrubbed⟩
section
variable {P : Program}
def inlY (P : Program) (cx : Cx) (sl : List (Nat × SSpec)) (dr : Drawn) (iv : List (Nat × Hint)) (N : Nat) : Nat → Inl
  | 0 => inlW cx.wf (inlS sl noInl)
  | d + 1 => inlW cx.wf (inlS sl fun f args ob k =>
    match P.funcs[f]? with
    | some fn =>
      match fn.body, fn.name == "runtime.NumGoroutine" with
      | some c, false => sx P { cx with kn := ob.length } (inlY P cx sl dr iv N d) dr iv N ((f + 1) * 100000) ob.length c (slots0 args fn.ntmps) ob (ret P fn.results.toList k)
      | _, _ => StuckAt "no text"
    | none => StuckAt "no function")
def noteIs (ob : List SO) (e : TypeId) (k : IntKind) (m : Int) : Prop :=
  match ob with
  | .cells e' [.c x] 0 :: _ => match Nat.beq e' e with
    | true => isInt k m x
    | false => False
  | _ => False
def OwesW (P : Program) (cx : Cx) (sl : List (Nat × SSpec)) (iv : List (Nat × Hint)) (N : Nat) (fn : Func) (args : List SA) (e : TypeId) (k : IntKind) (n : Int) (out : SV) (m : Int) : Prop :=
  sx P { cx with kn := 1 } (inlY P cx sl drawOK iv N 8) drawOK iv N 0 1 (fn.body.getD .skip) (slots0 args fn.ntmps) [noteO e k n] (ret P fn.results.toList fun sv ob => same sv out ∧ noteIs ob e k m)
def OwesU (P : Program) (cx : Cx) (sl : List (Nat × SSpec)) (iv : List (Nat × Hint)) (N : Nat) (fn : Func) (args : List SA) (out : SV) : Prop :=
  sx P { cx with kn := 0 } (inlY P cx sl drawOK iv N 8) drawOK iv N 0 0 (fn.body.getD .skip) (slots0 args fn.ntmps) [] (ret P fn.results.toList fun sv _ => same sv out)
end
attribute [irreducible] OwesW OwesU
end Go.Sx
end

section
namespace Go.Sx
open Go.RowKit
structure TSpec where
  e : TypeId
  wd : Nat
  of : List SA → Nat → (Nat → Nat → SC) → Option (List Prop × Nat × (Nat → Nat → SC) × List SA)
structure capOK (wd n cap sp : Nat) : Prop where
  le : n ≤ cap
  most : cap ≤ maxLen
  room : cap * wd = n * wd + sp
inductive HeadT (s : TSpec) (g : Nat → Nat → SC) : Nat → SA → List SO → Prop
  | none : HeadT s g 0 (.sc (.val (.slice none 0 0))) []
  | own (n cap sp : Nat) (h : capOK s.wd n cap sp) : HeadT s g n (.sc (.slw 0 s.wd 0 n cap)) [.row s.e s.wd n g sp]
def FnOKt (P : Program) (gl : Globs) (f : Nat) (s : TSpec) : Prop :=
  ∀ args n g ps n' g' vs, s.of args n g = some (ps, n', g', vs) → Ok ps → (∀ v ∈ vs, v.bnd none0) ∧ closedG n' s.wd g' ∧ ∀ (Z : World) (ρ : Rho) (w : World) (h : SA) (ob : List SO), HeadT s g n h ob → Below Z.heap.size Z w → Mem Z.heap.size ρ ob w → GlobsOK gl ρ.fz →
    (∀ x ∈ args, x.bnd ⟨fun _ => False, ρ.fz⟩) → ∀ keep : Nat → Obj → Prop, Keeps keep ρ ob w →
    (callFunc f ((h :: args).map (SA.conc ρ)).toArray).run P w = .ok (.enter f ((h :: args).map (SA.conc ρ)).toArray) w ∧
      Calls P f ((h :: args).map (SA.conc ρ)).toArray w fun r w' => ∃ (ρ' : Rho) (cap' sp' : Nat), r = .returned (valL ((SC.slw 0 s.wd 0 n' cap').conc ρ' :: vs.map (SA.conc Rho.nil))) ∧ capOK s.wd n' cap' sp' ∧ Below Z.heap.size Z w' ∧
        Mem Z.heap.size ρ' [.row s.e s.wd n' g' sp'] w' ∧ (∀ b o u, ρ.fz b o u → ρ'.fz b o u) ∧ Keeps keep ρ' [.row s.e s.wd n' g' sp'] w'
def getT : List (Nat × TSpec) → Nat → Option TSpec
  | [], _ => none
  | (g, s) :: r, f => match Nat.beq g f with
    | true => some s
    | false => getT r f
theorem getT_ok {P : Program} {gl : Globs} : ∀ {l : List (Nat × TSpec)} {f : Nat} {s : TSpec}, (∀ p ∈ l, FnOKt P gl p.1 p.2) → getT l f = some s → FnOKt P gl f s
  | [], _, _, _, h => by simp [getT] at h
  | (g, s') :: r, f, s, hc, h => by
    simp only [getT] at h
    split at h
    · rename_i e
      have e := Nat.eq_of_beq_eq_true e
      simp only [Option.some.injEq] at h
      subst h
      subst e
      exact hc (g, s') (by simp)
    · exact getT_ok (fun p hp => hc p (by simp [hp])) h
def gT (old : Option Nat) (g : Nat → Nat → SC) : Nat → Nat → SC :=
  match old with
  | none => fun _ _ => .val (.int .u8 0)
  | some _ => g
def ofT (s : TSpec) (r : List SA) (n : Nat) (g : Nat → Nat → SC) (old : Option Nat) : Option (List Prop × Nat × (Nat → Nat → SC) × List SA) :=
  match old with
  | none => s.of r n (fun _ _ => .val (.int .u8 0))
  | some _ => s.of r n g
theorem ofT_eq (s : TSpec) (r : List SA) (n : Nat) (g : Nat → Nat → SC) (old : Option Nat) : ofT s r n g old = s.of r n (gT old g) := by cases old <;> rfl
def headT (ob : List SO) (size : Nat) (e : TypeId) (x : SA) : Option (List Prop × Nat × (Nat → Nat → SC) × List SO × Option Nat) :=
  match x with
  | .sc (.sl o 0 n cap) =>
    match ob[o]? with
    | some (.cells e' ks sp) => match Nat.beq e' e && Nat.beq (flat ks).length n && kindAll .u8 ks && Nat.beq size 1 && !ks.isEmpty with
      | true => some ([n ≤ cap ∧ cap ≤ maxLen ∧ cap * size = n * size + sp], n, fun i _ => .val (.int .u8 (selG ks i)), ob.set o .dead, some o)
      | false => headG ob size e (.sc (.sl o 0 n cap))
    | _ => headG ob size e (.sc (.sl o 0 n cap))
  | x => headG ob size e x
section
variable {W0 : Base} {ρ : Rho} {tm : List SV} {ob : List SO} {a : Act} {w : World}
theorem headT_sound (H : Holds W0 ρ tm ob a w) {size n : Nat} {e : TypeId} {s : SA} {qs : List Prop} {g : Nat → Nat → SC} {ob0 : List SO} {old : Option Nat} (h : headT ob size e s = some (qs, n, g, ob0, old)) (hq : Ok qs) :
    w.ownsRow W0.w.heap.size e size (s.conc ρ) n (rowc size n g) ∧ Killed ρ ob ob0 (s.conc ρ) ∧ rowOK (lv ρ ob) size n g ∧
    ((old = none ∧ n = 0 ∧ s.conc ρ = .slice none 0 0 ∧ ob0 = ob) ∨ ∃ o, old = some o ∧ ob0 = ob.set o .dead ∧ o < ob.length ∧ s.conc ρ ≠ .slice none 0 0) := by
  unfold headT at h
  split at h
  · rename_i o m cap
    split at h
    · rename_i e' ks sp ho
      split at h
      · rename_i hc
        simp only [Bool.and_eq_true] at hc
        obtain ⟨⟨⟨⟨c1, c2⟩, ha⟩, c3⟩, _⟩ := hc
        have c3 := Nat.eq_of_beq_eq_true c3
        subst c3
        have c1 := Nat.eq_of_beq_eq_true c1
        have c2 := Nat.eq_of_beq_eq_true c2
        subst c1
        simp only [Option.some.injEq, Prod.mk.injEq] at h
        obtain ⟨rfl, rfl, rfl, rfl, rfl⟩ := h
        obtain ⟨⟨q0, q1, q2⟩, _⟩ := hq
        obtain ⟨h1, ⟨rest, hr, h2⟩, h3, h4⟩ := H.mem.obj o e' ks sp ho
        have hcc : concs ρ ks = rowc 1 m (fun i _ => .val (.int .u8 (selG ks i))) := by
          refine rowc_ext (by simp [concs, c2]) fun i c hi hc => ?_
          have : c = 0 := by omega
          subst this
          rw [Nat.mul_one, Nat.add_zero, selG_conc ha ρ (j := i) (by omega)]
          rfl
        rw [hcc] at h2
        refine ⟨⟨rowc_length _ _ _, .inr ⟨ρ o, cap, _, rfl, h1, h2, q0, q1, ?_, ?_⟩⟩, .inr ⟨o, _, ho, rfl, rfl, rfl⟩, fun i hi c hc => ⟨trivial, rfl⟩, .inr ⟨o, rfl, rfl, ob_lt ho, by simp [SA.conc, SC.conc]⟩⟩
        · simp only [List.size_toArray, List.length_append, rowc_length, hr, q2]
        · simp only
          rw [← rowc_length _ m (fun i _ => .val (.int .u8 (selG ks i))), List.take_left]
      · exact headG_sound H h hq
    · exact headG_sound H h hq
  · exact headG_sound H h hq
end
def inlT (tl : List (Nat × TSpec)) (inner : Inl) : Inl := fun f args ob k =>
  match getT tl f with
  | none => inner f args ob k
  | some s => match args with
    | x :: r => match headT ob s.wd s.e x with
      | some (qs, n, g, ob0, old) => match ob0.all (obB (liveB ob0)) && r.all (SA.bndB fun _ => false) with
        | true => match ofT s r n g old with
          | some (ps, n', g', vs) => ands (qs ++ ps) (∀ c : Nat, n' + c ≤ maxLen → k (resV (.sc (.slw ob0.length s.wd 0 n' (n' + c)) :: vs)) (ob0 ++ [.row s.e s.wd n' g' (c * s.wd)]))
          | none => StuckAt "card"
        | false => StuckAt "taken"
      | none => StuckAt "head"
    | [] => StuckAt "taken"
theorem PV.bndB_none {x : PV} (h : x.bndB (fun _ => false) = true) {n : Env} : x.bnd n := by
  cases x with
  | v _ => trivial
  | p o _ => cases h
theorem SC.bndB_none {x : SC} (h : x.bndB (fun _ => false) = true) {n : Env} (hb : x.bnd n) : x.bnd ⟨fun _ => False, n.fz⟩ := by
  cases x with
  | fn g caps =>
    simp only [SC.bndB, List.all_eq_true] at h
    exact fun c hc => PV.bndB_none (h c hc)
  | num _ _ => trivial
  | bit _ => trivial
  | val _ => trivial
  | xs a m cap w g => exact hb
  | px a m g => exact hb
  | _ => cases h
theorem SA.bndB_none {x : SA} (h : x.bndB (fun _ => false) = true) {n : Env} (hb : x.bnd n) : x.bnd ⟨fun _ => False, n.fz⟩ := by
  cases x with
  | sc c => exact SC.bndB_none h hb
  | agg ks =>
    simp only [SA.bndB, List.all_eq_true] at h
    intro k hk
    cases k with
    | c s => exact SC.bndB_none (h _ hk) (hb _ hk)
    | u _ => trivial
    | f _ _ _ => trivial
theorem inlT_ok {P : Program} {gl : Globs} {tl : List (Nat × TSpec)} (htl : ∀ p ∈ tl, FnOKt P gl p.1 p.2) {inner : Inl} (hin : InlOK P gl inner) : InlOK P gl (inlT tl inner) := by
  intro f args ob k h Z ρ tm a w hz H hargs
  unfold inlT at h
  split at h
  · exact hin f args ob k h hz H hargs
  rename_i s hs
  have hfn := getT_ok htl hs
  split at h
  case h_2 => exact h.no
  rename_i x r
  split at h
  case h_2 => exact h.no
  rename_i qs n g ob0 old hh
  split at h
  case h_2 => exact h.no
  rename_i hall
  simp only [Bool.and_eq_true] at hall
  obtain ⟨hall0, hall1⟩ := hall
  split at h
  case h_2 => exact h.no
  rename_i ps n' g' vs hof
  rw [ofT_eq] at hof
  obtain ⟨hqp, h⟩ := ands_iff.1 h
  obtain ⟨hq, hp⟩ := Ok.append.1 hqp
  obtain ⟨hown, hkl, hrow, hold⟩ := headT_sound H hh hq
  obtain ⟨hvs, hcl, hfn⟩ := hfn _ _ _ _ _ _ _ hof hp
  have hr : ∀ y ∈ r, y.bnd ⟨fun _ => False, ρ.fz⟩ := fun y hy => SA.bndB_none (List.all_eq_true.1 hall1 y hy) (n := lv ρ ob) (hargs y (by simp [hy]))
  have hlen : ob0.length = ob.length := by
    rcases hkl with ⟨_, rfl⟩ | ⟨o, _, _, _, rfl, _⟩
    · rfl
    · simp
  have hsub : ∀ i, live ob0 i → live ob i ∧ (x.conc ρ).ownBlock ≠ some (ρ i) := by
    rcases hkl with ⟨e, rfl⟩ | ⟨o, y, ho, hy, rfl, e⟩
    · exact fun i hi => ⟨hi, by rw [e]; exact fun e => by cases e⟩
    · intro i hi
      obtain ⟨q1, q2⟩ := live_dead.1 hi
      refine ⟨q1, ?_⟩
      rw [e]
      simp only [ne_eq, Option.some.injEq]
      exact fun e => q2 (H.mem.injs _ _ q1 ⟨y, ho, hy⟩ e.symm)
  have main : ∀ (ρ1 : Rho) (h1 : SA) (obh : List SO), ρ1.fz = ρ.fz → HeadT s (gT old g) n h1 obh → h1.conc ρ1 = x.conc ρ → Mem Z.w.heap.size ρ1 obh w → (∀ b : Nat, (x.conc ρ).ownBlock ≠ some b → ∀ j, live obh j → ρ1 j ≠ b) →
      (∀ b y, Z.keep b y → ∀ j, live obh j → ρ1 j ≠ b) →
      (callFunc f ((x :: r).map (SA.conc ρ)).toArray).run P w = .ok (.enter f ((x :: r).map (SA.conc ρ)).toArray) w ∧
        Calls P f ((x :: r).map (SA.conc ρ)).toArray w fun e w' => ∃ v, e = .returned v ∧ ∃ ρ' sv ob', k sv ob' ∧ sv.rep ρ' v ∧ sv.bnd (lv ρ' ob') ∧ Holds Z ρ' (scrub ob' tm) ob' a w' := by
    intro ρ1 h1 obh hfz hhead hconc hm1 hap hkp
    have hkeep : Keeps (fun b y => Z.keep b y ∨ ∃ i, live ob0 i ∧ ρ i = b ∧ w.heap[b]? = some y) ρ1 obh w := fun b y hy => by
      rcases hy with hy | ⟨i, hi, rfl, hy⟩
      · exact ⟨(H.keeps b y hy).1, hkp b y hy⟩
      · exact ⟨hy, hap _ (hsub i hi).2⟩
    have hc1 : r.map (SA.conc ρ1) = r.map (SA.conc ρ) := List.map_congr_left fun y hy => by
      have e : ∀ y : SA, y.bnd ⟨fun _ => False, ρ.fz⟩ → y.conc ρ1 = y.conc ρ := fun y hb => Agree.sa (n := ⟨fun _ => False, ρ.fz⟩) (ρ := ρ) (ρ' := ρ1) (fun _ q => q.elim) hb
      exact e y (hr y hy)
    obtain ⟨q, hc⟩ := hfn Z.w ρ1 w h1 obh hhead H.below hm1 (by rw [hfz, ← hz]; exact H.gl) (by rw [hfz]; exact hr) _ hkeep
    have hcc : (h1 :: r).map (SA.conc ρ1) = (x :: r).map (SA.conc ρ) := by rw [List.map_cons, List.map_cons, hconc, hc1]
    rw [hcc] at q hc
    refine ⟨q, hc.mono ?_⟩
    rintro e w' ⟨ρ', cap', sp', rfl, hcap, hbl, hm', hf', hkk⟩
    rw [hfz] at hf'
    refine ⟨_, rfl, ?_⟩
    obtain ⟨cp, rfl⟩ : ∃ c, cap' = n' + c := ⟨cap' - n', by have := hcap.le; omega⟩
    have hsp : sp' = cp * s.wd := by
      have := hcap.room
      rw [Nat.add_mul] at this
      omega
    subst hsp
    have hk := h cp hcap.most
    have hlast : (ob0 ++ [SO.row s.e s.wd n' g' (cp * s.wd)])[ob0.length]? = some (.row s.e s.wd n' g' (cp * s.wd)) := by simp
    have hback : ∀ i, i ≠ ob0.length → (ob0 ++ [SO.row s.e s.wd n' g' (cp * s.wd)])[i]? = ob0[i]? := fun i hi => by
      rcases Nat.lt_or_ge i ob0.length with hl | hl
      · rw [List.getElem?_append_left hl]
      · rw [List.getElem?_eq_none (by simp; omega), List.getElem?_eq_none hl]
    let ρ2 : Rho := ⟨fun i => if i = ob0.length then ρ' 0 else ρ i, ρ.fz⟩
    have r0 : ρ2 ob0.length = ρ' 0 := if_pos rfl
    have r1 : ∀ i, i ≠ ob0.length → ρ2 i = ρ i := fun i hi => if_neg hi
    have alive : ∀ i, i ≠ ob0.length → live (ob0 ++ [SO.row s.e s.wd n' g' (cp * s.wd)]) i → live ob0 i := fun i hi hl => by
      obtain ⟨y, hy, hh⟩ := hl
      rw [hback i hi] at hy
      exact ⟨y, hy, hh⟩
    have hfar : ∀ i, live ob0 i → ρ' 0 ≠ ρ i := fun i hi => by
      obtain ⟨y, hy, hh⟩ := (hsub i hi).1
      obtain ⟨_, ⟨rs, _, a2⟩, _⟩ := H.mem.objs i y hy hh
      exact (hkk (ρ i) _ (.inr ⟨i, hi, rfl, a2⟩)).2 0 ⟨_, rfl, rfl⟩
    obtain ⟨b1, ⟨rest, b2, b3⟩, _⟩ := hm'.objs 0 _ rfl rfl
    have hrc : ∀ {E : Env}, rowOK E s.wd n' g' := fun i hi c hc => ⟨SC.bnd_mono none0_le (hcl i hi c hc).1, (hcl i hi c hc).2⟩
    have hm2 : Mem Z.w.heap.size ρ2 (ob0 ++ [SO.row s.e s.wd n' g' (cp * s.wd)]) w' := by
      refine ⟨fun i y hi hy => ?_, fun i j hi hj hij => ?_, fun b c u hu => ?_⟩
      · by_cases e : i = ob0.length
        · subst e
          rw [hlast] at hi
          simp only [Option.some.injEq] at hi
          subst hi
          rw [r0]
          exact ⟨b1, ⟨rest, b2, b3⟩, hrc⟩
        · rw [hback i e] at hi
          have hl0 : live ob0 i := ⟨y, hi, hy⟩
          have hi2 : ob[i]? = some y := by
            rcases hkl with ⟨_, rfl⟩ | ⟨o, _, _, _, rfl, _⟩
            · exact hi
            · have := (live_dead.1 hl0).2
              rwa [List.getElem?_set_ne (fun e => this e.symm)] at hi
          obtain ⟨a1, ⟨rs, hrs, a2⟩, a3⟩ := H.mem.objs i y hi2 hy
          rw [r1 i e]
          have hobB := List.all_eq_true.1 hall0 y (List.mem_of_getElem? hi)
          refine ⟨a1, ⟨rs, hrs, ?_⟩, ?_⟩
          · rw [(hkk (ρ i) _ (.inr ⟨i, hl0, rfl, a2⟩)).1]
            have : y.lies ρ2 rs = y.lies ρ rs := by
              cases y with
              | cells e ks sp =>
                refine congrArg (fun l => Obj.cells (l ++ rs).toArray e (0, 0)) (Agree.sks (n := lv ρ ob0) (ρ := ρ) (ρ' := ρ2) (fun i hi => r1 i (by obtain ⟨z, hz, _⟩ := hi; have := ob_lt hz; omega)) (fun kk hkk => ?_))
                exact SK.bnd_re (E := lv ρ ob) (m := lv ρ ob0) (fun _ => liveB_iff) (fun _ _ _ h => h) (SK.bnd_mono (n := lv ρ ob) (m := (lv ρ ob).soft) (Env.le_soft _) (a3.1 kk hkk)) (by simp only [obB, List.all_eq_true] at hobB; exact hobB kk hkk)
              | row e w n g sp => rfl
              | mp => rfl
              | rown e w n g sp p => exact lies_agree (E := lv ρ ob0) (fun i hi => r1 i (by obtain ⟨z, hz, _⟩ := hi; have := ob_lt hz; omega)) (SO.ok_re (E := lv ρ ob) (m := lv ρ ob0) (fun _ => liveB_iff) (fun _ _ _ h => h) a3 hobB) rs
              | gone => rfl
              | dead => rfl
            rw [this]
          · cases y with
            | cells e ks sp =>
              refine ⟨fun kk hkk => ?_, a3.2⟩
              have := SK.bnd_re (E := lv ρ ob) (m := lv ρ ob0) (fun _ => liveB_iff) (fun _ _ _ h => h) (SK.bnd_mono (n := lv ρ ob) (m := (lv ρ ob).soft) (Env.le_soft _) (a3.1 kk hkk)) (by simp only [obB, List.all_eq_true] at hobB; exact hobB kk hkk)
              exact SK.bnd_mono (n := lv ρ ob0) (m := lv ρ2 (ob0 ++ [SO.row s.e s.wd n' g' (cp * s.wd)])) ⟨fun i hi => by
                obtain ⟨z, hz, hh⟩ := hi
                exact ⟨z, by rw [hback i (by have := ob_lt hz; omega)]; exact hz, hh⟩, fun _ _ _ h => h⟩ this
            | row e w n g sp => exact a3
            | mp => exact a3
            | rown e w n g sp p =>
              exact SO.ok_mono (n := lv ρ ob0) (m := lv ρ2 (ob0 ++ [SO.row s.e s.wd n' g' (cp * s.wd)])) ⟨fun i hi => by
                obtain ⟨z, hz, hh⟩ := hi
                exact ⟨z, by rw [hback i (by have := ob_lt hz; omega)]; exact hz, hh⟩, fun _ _ _ h => h⟩ (SO.ok_re (E := lv ρ ob) (m := lv ρ ob0) (fun _ => liveB_iff) (fun _ _ _ h => h) a3 hobB)
            | gone => cases hy
            | dead => cases hy
      · by_cases e1 : i = ob0.length
        · by_cases e2 : j = ob0.length
          · rw [e1, e2]
          · subst e1
            rw [r0, r1 j e2] at hij
            exact absurd hij (hfar j (alive j e2 hj))
        · by_cases e2 : j = ob0.length
          · subst e2
            rw [r0, r1 i e1] at hij
            exact absurd hij.symm (hfar i (alive i e1 hi))
          · rw [r1 i e1, r1 j e2] at hij
            exact H.mem.injs i j (hsub i (alive i e1 hi)).1 (hsub j (alive j e2 hj)).1 hij
      · obtain ⟨k1, k2⟩ := hm'.frz b c u (hf' b c u hu)
        refine ⟨k1, fun i hi => ?_⟩
        by_cases e : i = ob0.length
        · subst e; rw [r0]; exact k2 0 ⟨_, rfl, rfl⟩
        · rw [r1 i e]; exact (H.mem.frz b c u hu).2 i (hsub i (alive i e hi)).1
    have hkept : Kept Z ρ2 (ob0 ++ [SO.row s.e s.wd n' g' (cp * s.wd)]) := by
      have hlow : ∀ {i : Nat}, i < Z.ob.length → i < ob0.length := fun h => by have := H.kept.2.2; omega
      refine ⟨fun i hi => ?_, fun i hi => ?_, by have := H.kept.2.2; simp; omega⟩
      · have hil : i < ob0.length := hlow (by obtain ⟨z, hz, _⟩ := hi; exact ob_lt hz)
        rcases H.kept.1 i hi with ⟨k1, k2⟩ | k1
        · by_cases hl0 : live ob0 i
          · obtain ⟨z, hz, hh⟩ := hl0
            exact .inl ⟨⟨z, by rw [hback i (by omega)]; exact hz, hh⟩, by rw [r1 i (by omega)]; exact k2⟩
          · refine .inr ?_
            rw [hback i (by omega)]
            rcases hkl with ⟨_, rfl⟩ | ⟨o, y, ho, hy, rfl, _⟩
            · exact absurd k1 hl0
            · by_cases e : i = o
              · subst e; simp [ob_lt ho]
              · exact absurd (live_dead.2 ⟨k1, e⟩) hl0
        · refine .inr ?_
          rw [hback i (by omega)]
          rcases hkl with ⟨_, rfl⟩ | ⟨o, y, ho, hy, rfl, _⟩
          · exact k1
          · have e : i ≠ o := fun e => by subst e; rw [ho] at k1; simp only [Option.some.injEq] at k1; subst k1; cases hy
            rw [List.getElem?_set_ne (fun q => e q.symm)]; exact k1
      · have hil : i < ob0.length := hlow (ob_lt hi)
        have k1 := H.kept.2.1 i hi
        rw [hback i (by omega)]
        rcases hkl with ⟨_, rfl⟩ | ⟨o, y, ho, hy, rfl, _⟩
        · exact k1
        · have e : i ≠ o := fun e => by subst e; rw [ho] at k1; simp only [Option.some.injEq] at k1; subst k1; cases hy
          rw [List.getElem?_set_ne (fun q => e q.symm)]; exact k1
    have hkk2 : Keeps Z.keep ρ2 (ob0 ++ [SO.row s.e s.wd n' g' (cp * s.wd)]) w' := fun b y hy => by
      refine ⟨(hkk b y (.inl hy)).1, fun i hi => ?_⟩
      by_cases e : i = ob0.length
      · subst e; rw [r0]; exact (hkk b y (.inl hy)).2 0 ⟨_, rfl, rfl⟩
      · rw [r1 i e]; exact (H.keeps b y hy).2 i (hsub i (alive i e hi)).1
    have H2 : Holds Z ρ2 (scrub (ob0 ++ [SO.row s.e s.wd n' g' (cp * s.wd)]) tm) (ob0 ++ [SO.row s.e s.wd n' g' (cp * s.wd)]) a w' := by
      refine H.onto (fun i hi _ => r1 i ?_) (fun _ _ _ h => h) (fun b o v hv => .inl ⟨o, v, hv⟩) hbl hm2 hkept hkk2
      obtain ⟨z, hz, _⟩ := hi
      have := ob_lt hz
      omega
    refine ⟨ρ2, _, _, hk, ?_, ?_, H2⟩
    · have hv : (SA.sc (.slw ob0.length s.wd 0 n' (n' + cp)) :: vs).map (SA.conc ρ2) = (SC.slw 0 s.wd 0 n' (n' + cp)).conc ρ' :: vs.map (SA.conc Rho.nil) := by
        rw [List.map_cons]
        congr 1
        · simp only [SA.conc, SC.conc, r0]
        · exact List.map_congr_left fun y hy => Agree.sa (n := none0) (ρ := Rho.nil) (ρ' := ρ2) (fun _ q => q.elim) (hvs y hy)
      rw [← hv]
      exact valL_conc ρ2 _
    · refine resV_bnd fun y hy => ?_
      rcases List.mem_cons.1 hy with rfl | hy
      · exact ⟨_, hlast, rfl⟩
      · exact SA.bnd_mono none0_le (hvs y hy)
  rcases hown.2 with ⟨hv, hn⟩ | ⟨b, cap, cur, hv, hB, hcur, hnc, hcm, hsz, htk⟩
  · subst hn
    refine main ⟨ρ.pos, ρ.fz⟩ (.sc (.val (.slice none 0 0))) [] rfl .none (by rw [hv]; rfl) ⟨fun i y hi => by simp at hi, fun i j hi => by obtain ⟨z, hz, _⟩ := hi; simp at hz, fun b o v hv => ⟨(H.mem.frz b o v hv).1, fun i hi => by obtain ⟨z, hz, _⟩ := hi; simp at hz⟩⟩ (fun b _ j hj => by obtain ⟨z, hz, _⟩ := hj; simp at hz) (fun b y _ j hj => by obtain ⟨z, hz, _⟩ := hj; simp at hz)
  · have hgT : gT old g = g := by
      rcases hold with ⟨_, _, e, _⟩ | ⟨o, rfl, _⟩
      · rw [hv] at e; cases e
      · rfl
    rw [hgT] at main
    have hcurl : cur.toList = rowc s.wd n g ++ cur.toList.drop (n * s.wd) := by rw [← htk]; exact (List.take_append_drop _ _).symm
    have hapart : ∀ c o u, ρ.fz c o u → b ≠ c := fun c o u hu e => by
      rcases hkl with ⟨e2, _⟩ | ⟨o2, y, ho, hy, _, e2⟩
      · rw [hv] at e2; cases e2
      · rw [hv] at e2
        have : b = ρ o2 := by simpa [Value.ownBlock] using e2
        exact (H.mem.frz c o u hu).2 o2 ⟨y, ho, hy⟩ (by rw [← this, e])
    refine main ⟨fun _ => b, ρ.fz⟩ (.sc (.slw 0 s.wd 0 n cap)) [.row s.e s.wd n g (cap * s.wd - n * s.wd)] rfl (.own n cap _ ⟨hnc, hcm, ?_⟩) ?_ ⟨fun i y hi hy => ?_, fun i j hi hj _ => ?_, fun c o u hu => ⟨(H.mem.frz c o u hu).1, fun i _ => hapart c o u hu⟩⟩ (fun c hc j _ e => hc ?_) (fun c y hy j _ e => ?_)
    · have := Nat.mul_le_mul_right s.wd hnc; omega
    · rw [hv]; simp [SA.conc, SC.conc]
    · cases i with
      | succ i => simp at hi
      | zero =>
        simp only [List.getElem?_cons_zero, Option.some.injEq] at hi
        subst hi
        refine ⟨hB, ⟨cur.toList.drop (n * s.wd), ?_, ?_⟩, ?_⟩
        · rw [List.length_drop, Array.length_toList, hsz]; rfl
        · show w.heap[b]? = some (.cells (rowc s.wd n g ++ cur.toList.drop (n * s.wd)).toArray s.e (0, 0))
          rw [← hcurl, hcur]
        · exact fun i hi c hc => ⟨SC.bnd_mono (n := (lv ρ ob).bare) (m := (lv (⟨fun _ => b, ρ.fz⟩ : Rho) [.row s.e s.wd n g (cap * s.wd - n * s.wd)]).bare) ⟨fun _ q => q, fun _ _ _ q => q⟩ (hrow i hi c hc).1, (hrow i hi c hc).2⟩
    · obtain ⟨y, hy, _⟩ := hi
      obtain ⟨z, hz', _⟩ := hj
      cases i with
      | succ i => simp at hy
      | zero => cases j with
        | succ j => simp at hz'
        | zero => rfl
    · rw [hv]
      show some b = some c
      rw [show b = c from e]
    · rcases hkl with ⟨e2, _⟩ | ⟨o2, y2, ho, hy2, _, e2⟩
      · rw [hv] at e2; cases e2
      · rw [hv] at e2
        have : b = ρ o2 := by simpa [Value.ownBlock] using e2
        exact (H.keeps c y hy).2 o2 ⟨y2, ho, hy2⟩ (by rw [← this]; exact e)
section
variable {P : Program}
def inlZ (P : Program) (cx : Cx) (sl : List (Nat × SSpec)) (tl : List (Nat × TSpec)) (dr : Drawn) (iv : List (Nat × Hint)) (N : Nat) : Nat → Inl
  | 0 => inlT tl (inlW cx.wf (inlS sl noInl))
  | d + 1 => inlT tl (inlW cx.wf (inlS sl fun f args ob k =>
    match P.funcs[f]? with
    | some fn =>
      match fn.body, fn.name == "runtime.NumGoroutine" with
      | some c, false => sx P { cx with kn := ob.length } (inlZ P cx sl tl dr iv N d) dr iv N ((f + 1) * 100000) ob.length c (slots0 args fn.ntmps) ob (ret P fn.results.toList k)
      | _, _ => StuckAt "no text"
    | none => StuckAt "no function"))
def okV : List SA → List SA → Prop
  | [], [] => True
  | x :: r, y :: r' => sameA x y ∧ okV r r'
  | _, _ => StuckAt "values"
def okTs (s : TSpec) (n : Nat) (g : Nat → Nat → SC) (vs : List SA) (ob : List SO) : List SA → Prop
  | .sc (.slw o w off len cap) :: r => match ob[o]? with
    | some (.row e w' m h sp) => match Nat.beq w s.wd && Nat.beq w' s.wd && Nat.beq e s.e with
      | true => ands [off = 0, len = n, m = n, capOK s.wd m cap sp] (ands [∀ i, i < n → allC s.wd fun c => simC (h i c) (g i c)] (okV r vs))
      | false => StuckAt "row"
    | _ => StuckAt "row"
  | _ => StuckAt "result"
def okT (s : TSpec) (n : Nat) (g : Nat → Nat → SC) (vs : List SA) (sv : SV) (ob : List SO) : Prop :=
  match sv with
  | .one x => okTs s n g vs ob [x]
  | .tup [_] => False
  | .tup xs => okTs s n g vs ob xs
  | _ => False
def OwesZ (P : Program) (cx : Cx) (sl : List (Nat × SSpec)) (tl : List (Nat × TSpec)) (iv : List (Nat × Hint)) (N : Nat) (fn : Func) (args : List SA) (ob : List SO) (post : SV → List SO → Prop) : Prop :=
  sx P { cx with kn := ob.length } (inlZ P cx sl tl drawOK iv N 8) drawOK iv N 0 ob.length (fn.body.getD .skip) (slots0 args fn.ntmps) ob (ret P fn.results.toList post)
def OwesT (P : Program) (cx : Cx) (sl : List (Nat × SSpec)) (tl : List (Nat × TSpec)) (iv : List (Nat × Hint)) (N : Nat) (fn : Func) (args : List SA) (s : TSpec) (n cap sp : Nat) (g : Nat → Nat → SC) (n' : Nat) (g' : Nat → Nat → SC) (vs : List SA) : Prop :=
  OwesZ P cx sl tl iv N fn (.sc (.slw 0 s.wd 0 n cap) :: args) [.row s.e s.wd n g sp] (okT s n' g' vs)
def OwesT0 (P : Program) (cx : Cx) (sl : List (Nat × SSpec)) (tl : List (Nat × TSpec)) (iv : List (Nat × Hint)) (N : Nat) (fn : Func) (args : List SA) (s : TSpec) (n' : Nat) (g' : Nat → Nat → SC) (vs : List SA) : Prop :=
  OwesZ P cx sl tl iv N fn (.sc (.val (.slice none 0 0)) :: args) [] (okT s n' g' vs)
def OwesQ (P : Program) (cx : Cx) (sl : List (Nat × SSpec)) (tl : List (Nat × TSpec)) (iv : List (Nat × Hint)) (N : Nat) (fn : Func) (args : List SA) (sh : Bool) (rs : List RS) : Prop :=
  OwesZ P cx sl tl iv N fn args [] (okRS sh rs)
theorem okV_sound {ρ : Rho} : ∀ {xs vs : List SA}, okV xs vs → xs.map (SA.conc ρ) = vs.map (SA.conc ρ)
  | [], [], _ => rfl
  | x :: r, y :: r', h => by
    simp only [List.map_cons, okV_sound h.2, sameA_sound ρ h.1]
  | [], _ :: _, h => h.no
  | _ :: _, [], h => h.no
end
attribute [irreducible] OwesT OwesT0 OwesQ
end Go.Sx
end
