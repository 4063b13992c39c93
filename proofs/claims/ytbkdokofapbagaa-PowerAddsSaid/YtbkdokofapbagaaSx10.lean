/-
  A calculus of symbolic states for walks over translated Go code, part 10: code, and a call.
-/
import Derived.Test.YtbkdokofapbagaaSxS
import Derived.Deep.LoopGhost
namespace Go.Sx
open Go.RowKit

/-- Rounds of a loop that come to an end by themselves. -/
def sxLoop (body : List SV → List SO → (Exit → List SV → List SO → Prop) → Prop) (K : Exit → List SV → List SO → Prop) : Nat → List SV → List SO → Prop
  | 0, _, _ => StuckAt "rounds"
  | n + 1, tm, ob => body tm ob fun e tm ob => match e with
    | .normal => sxLoop body K n tm ob
    | e => K e tm ob

/-- A loop that is met by what holds at each round's head. -/
structure Inv where
  X : Type
  tm : X → List SV
  ob : X → List SO
  holds : X → Prop
  less : X → Nat
/-- What is told of a place of the code: a loop's rounds; behind a region, a number in a slot that is one of a few. -/
inductive Hint where
  | inv (L : Inv)
  | split (t k : Nat)
def getInv : List (Nat × Hint) → Nat → Option Inv
  | [], _ => none
  | (k, .inv L) :: r, n => match Nat.beq k n with
    | true => some L
    | false => getInv r n
  | (_, .split _ _) :: r, n => getInv r n
def getSplit : List (Nat × Hint) → Nat → Option (Nat × Nat)
  | [], _ => none
  | (k, .split t m) :: r, n => match Nat.beq k n with
    | true => some (t, m)
    | false => getSplit r n
  | (_, .inv _) :: r, n => getSplit r n
def firstId : Code → Nat
  | .region id _ _ => id
  | .seq a _ => firstId a
  | .block _ a => firstId a
  | .loop a => firstId a
  | _ => 0

/-- Said of a slot with less: what stood there stands for what is said now; what is owed for that. -/
def wC (x y : SC) : List Prop :=
  match x, y with
  | .num k a, .num k' b => if k = k' ∧ a = b then [] else [False]
  | .bit a, .bit b => match a, b with
    | true, true | false, false => []
    | _, _ => [False]
  | .ptr o off, .ptr o' off' => match Nat.beq o o' && Nat.beq off off' with
    | true => []
    | false => [False]
  | .sl o off len cap, .sl o' off' len' cap' => match Nat.beq o o' && Nat.beq off off' && Nat.beq len len' with
    | true => [cap = cap']
    | false => [False]
  | x, y => [sameC x y]
def wK : List SK → List SK → List Prop
  | [], [] => []
  | .u a :: r, .u b :: r' => (a % M256 = b % M256) :: wK r r'
  | .c x :: r, .c y :: r' => wC x y ++ wK r r'
  | xs, ys => [sameK xs ys]
def wA : SA → SA → List Prop
  | .sc x, .sc y => wC x y
  | .agg ks, .agg ks' => wK ks ks'
  | _, _ => [False]
def wL : List SA → List SA → List Prop
  | [], [] => []
  | x :: r, y :: r' => wA x y ++ wL r r'
  | _, _ => [False]
def weakV : SV → SV → List Prop
  | _, .any => []
  | .one x, .one y => wA x y
  | .tup xs, .tup ys => wL xs ys
  | .gd b x, .gd b' y => (b = b') :: wA x y
  | _, _ => [False]
def weakT : List SV → List SV → List Prop
  | [], [] => []
  | s :: l, s' :: l' => weakV s s' ++ weakT l l'
  | _, _ => [False]
/-- Of blocks with less: what is dead is forgotten; the first n are told of. -/
def weakO : Nat → List SO → List SO → List Prop
  | 0, _, [] => []
  | _ + 1, [], [] => []
  | n, .cells e ks sp :: l, .cells e' ks' sp' :: l' => match Nat.beq e e' with
    | true => wK ks ks' ++ (sp = sp') :: weakO (n - 1) l l'
    | false => [False]
  | n, .cells _ _ _ :: l, .dead :: l' | n, .dead :: l, .dead :: l' | n, .gone :: l, .dead :: l' | n, .gone :: l, .gone :: l' => weakO (n - 1) l l'
  | _, _, _ => [False]

/-- What is said of a loop's head names no blocks but those that it has. -/
def closedB (tm : List SV) (ob : List SO) : Bool := tm.all (SV.bndB (liveB ob)) && ob.all (obB (liveB ob)) && ob.all (fun o => match o with | .cells _ ks _ => ks.all SK.fit | _ => true)

/-- Places kept for a region's new blocks. -/
def isNew : Op → Bool
  | .alloc _ | .box .. | .buildSlice .. => true
  | _ => false
def gones : Nat → List SO
  | 0 => []
  | n + 1 => .gone :: gones n
def kept (ops : Array Oper) (ob : List SO) : List SO := if ops.toList.any (fun o => isNew o.op) then ob ++ gones ops.size else ob
/-- May a region draw its order, and the text's order serve for all? (Part 11.) -/
abbrev Drawn := Program → Cx → Array Oper → List SV → List SO → Bool

/-- A number in a slot that is one of a few: each is looked at. -/
def splitAll (kd : IntKind) (n : Int) (t : Nat) (K : List SV → List SO → Prop) (tm : List SV) (ob : List SO) : Nat → Prop
  | 0 => n = 0 → K (tm.set t (.one (.sc (.num kd 0)))) ob
  | k + 1 => splitAll kd n t K tm ob k ∧ (n = ((k + 1 : Nat) : Int) → K (tm.set t (.one (.sc (.num kd ((k + 1 : Nat) : Int))))) ob)
def splitK (sp : Option (Nat × Nat)) (K : List SV → List SO → Prop) (tm : List SV) (ob : List SO) : Prop :=
  match sp with
  | none => K tm ob
  | some (t, k) =>
    match tm.getD t .any with
    | .one (.sc (.val (.int kd n))) => (0 ≤ n ∧ n ≤ (k : Int)) ∧ splitAll kd n t K tm ob k
    | _ => K tm ob

def sx (P : Program) (cx : Cx) (inl : Inl) (dr : Drawn) (iv : List (Nat × Hint)) (N kf kn : Nat) : Code → List SV → List SO → (Exit → List SV → List SO → Prop) → Prop
  | .skip, tm, ob, K => K .normal tm ob
  | .label _, tm, ob, K => K .normal tm ob
  | .exit id, tm, ob, K => K (.exit id) tm ob
  | .ret, tm, ob, K => K .ret tm ob
  | .region id ops draw, tm, ob, K =>
    match draw with
    | false => runs P cx inl ops false 0 ops.toList tm ob (splitK (getSplit iv (kf + id)) (K .normal))
    | true => match dr P cx ops tm ob with
      | true => runs P cx noInl ops true ob.length ops.toList tm (kept ops ob) (splitK (getSplit iv (kf + id)) (K .normal))
      | false => StuckAt "order"
  | .seq x y, tm, ob, K => sx P cx inl dr iv N kf kn x tm ob fun e tm ob => match e with
    | .normal => sx P cx inl dr iv N kf kn y tm ob K
    | e => K e tm ob
  | .cond c x y, tm, ob, K =>
    match rd tm c with
    | some (ps, .sc (.bit true)) => ands ps (sx P cx inl dr iv N kf kn x tm ob K)
    | some (ps, .sc (.bit false)) => ands ps (sx P cx inl dr iv N kf kn y tm ob K)
    | some (ps, .sc (.val (.bool b))) => ands ps ((b = true → sx P cx inl dr iv N kf kn x tm ob K) ∧ (b = false → sx P cx inl dr iv N kf kn y tm ob K))
    | _ => StuckAt "cond"
  | .block id x, tm, ob, K => sx P cx inl dr iv N kf kn x tm ob fun e tm ob => match e with
    | .exit i => match Nat.beq i id with
      | true => K .normal tm ob
      | false => K (.exit i) tm ob
    | e => K e tm ob
  | .loop x, tm, ob, K =>
    match getInv iv (kf + firstId x) with
    | none => sxLoop (sx P cx inl dr iv N kf kn x) K N tm ob
    | some L => (∀ y, closedB (L.tm y) (L.ob y) = true) ∧ ∃ y, L.holds y ∧ ands (weakT tm (L.tm y)) (ands (weakO kn ob (L.ob y)) (∀ y, L.holds y → sx P cx inl dr iv N kf kn x (L.tm y) (L.ob y) fun e tm ob => match e with
      | .normal => ∃ y', L.holds y' ∧ ands (weakT tm (L.tm y')) (ands (weakO kn ob (L.ob y')) (L.less y' < L.less y))
      | e => K e tm ob))
  | _, _, _, _ => StuckAt "code"

/-- The order that a region draws is of no account. -/
def DrawnOK (P : Program) (cx : Cx) (dr : Drawn) : Prop :=
  ∀ ops tm ob, dr P cx ops tm ob = true → ∀ {W0 : Base} {ρ : Nat → Nat} {a : Act} {w : World} {Q : Exit → Act → World → Prop} {K : List SV → List SO → Prop} {id : Nat},
    Holds W0 ρ tm ob a w → runs P cx noInl ops true ob.length ops.toList tm (kept ops ob) K → (∀ ρ tm ob a w, Holds W0 ρ tm ob a w → K tm ob → Q .normal a w) → (Code.region id ops true).wp P Q a w
def noDraw : Drawn := fun _ _ _ _ _ => false
theorem noDraw_ok (P : Program) (cx : Cx) : DrawnOK P cx noDraw := fun _ _ _ h => by simp [noDraw] at h

section
variable {P : Program} {W0 : Base}

theorem wC_sound {x y : SC} (h : Ok (wC x y)) (ρ : Nat → Nat) : x.conc ρ = y.conc ρ := by
  unfold wC at h
  split at h
  · split at h
    · rename_i e; obtain ⟨rfl, rfl⟩ := e; rfl
    · exact h.1.elim
  · split at h
    · rfl
    · rfl
    · exact h.1.elim
  · split at h
    · rename_i e
      simp only [Bool.and_eq_true] at e
      rw [Nat.eq_of_beq_eq_true e.1, Nat.eq_of_beq_eq_true e.2]
    · exact h.1.elim
  · split at h
    · rename_i e
      simp only [Bool.and_eq_true] at e
      rw [Nat.eq_of_beq_eq_true e.1.1, Nat.eq_of_beq_eq_true e.1.2, Nat.eq_of_beq_eq_true e.2, h.1]
    · exact h.1.elim
  · exact sameC_sound h.1 ρ
theorem wK_sound (ρ : Nat → Nat) (xs ys : List SK) : Ok (wK xs ys) → concs ρ xs = concs ρ ys := by
  induction xs, ys using wK.induct with
  | case1 => intro _; rfl
  | case2 a r b r' ih =>
    intro h
    simp only [wK] at h
    rw [concs_cons, concs_cons ρ (.u b), concs_u_congr h.1, ih h.2]
  | case3 x r y r' ih =>
    intro h
    simp only [wK] at h
    obtain ⟨h1, h2⟩ := Ok.append.1 h
    rw [concs_cons, concs_cons ρ (.c y), ih h2]
    simp [concs, flat, SK.cells, wC_sound h1 ρ]
  | case4 xs ys h1 h2 h3 =>
    intro h
    rw [wK] at h <;> first | exact sameK_sound ρ _ _ h.1 | assumption
theorem wA_sound (ρ : Nat → Nat) {x y : SA} (h : Ok (wA x y)) : x.conc ρ = y.conc ρ := by
  unfold wA at h
  split at h
  · exact wC_sound h ρ
  · simp only [SA.conc, wK_sound ρ _ _ h]
  · exact h.1.elim
theorem wL_sound (ρ : Nat → Nat) : ∀ {xs ys : List SA}, Ok (wL xs ys) → xs.map (SA.conc ρ) = ys.map (SA.conc ρ)
  | [], [], _ => rfl
  | x :: r, y :: r', h => by
    simp only [wL] at h
    obtain ⟨h1, h2⟩ := Ok.append.1 h
    rw [List.map_cons, List.map_cons, wA_sound ρ h1, wL_sound ρ h2]
  | [], _ :: _, h | _ :: _, [], h => h.1.elim
theorem weakV_sound {ρ : Nat → Nat} {s s' : SV} (h : Ok (weakV s s')) : ∀ v, s.rep ρ v → s'.rep ρ v := by
  unfold weakV at h
  split at h
  · exact fun _ _ => trivial
  · intro v k; simp only [SV.rep] at k ⊢; rw [k, wA_sound ρ h]
  · intro v k; simp only [SV.rep] at k ⊢; rw [k, wL_sound ρ h]
  · obtain ⟨rfl, h⟩ := h
    intro v k; simp only [SV.rep] at k ⊢; rw [k, wA_sound ρ h]
  · exact h.1.elim
theorem weakT_sound : ∀ {tm tm' : List SV}, Ok (weakT tm tm') → tm.length = tm'.length ∧ ∀ t : Nat, Ok (weakV (tm.getD t .any) (tm'.getD t .any))
  | [], [], _ => ⟨rfl, fun t => by simp [weakV, Ok]⟩
  | s :: l, s' :: l', h => by
    simp only [weakT] at h
    obtain ⟨h1, h2⟩ := Ok.append.1 h
    obtain ⟨a1, a2⟩ := weakT_sound h2
    refine ⟨by simp [a1], fun t => ?_⟩
    cases t with
    | zero => exact h1
    | succ t => simpa using a2 t
  | [], _ :: _, h => h.1.elim
  | _ :: _, [], h => h.1.elim
theorem weakO_sound : ∀ (n : Nat) (ob ob' : List SO), n ≤ ob.length → Ok (weakO n ob ob') → n ≤ ob'.length ∧ (∀ (i : Nat) e ks sp, ob'[i]? = some (.cells e ks sp) → ∃ ks0, ob[i]? = some (.cells e ks0 sp) ∧ ∀ ρ, concs ρ ks0 = concs ρ ks) ∧
    (∀ i : Nat, i < n → (∀ e ks sp, ob[i]? = some (.cells e ks sp) → live ob' i ∨ ob'[i]? = some .dead) ∧ (ob[i]? = some .dead → ob'[i]? = some .dead)) := by
  intro n ob ob'
  induction n, ob, ob' using weakO.induct with
  | case1 ob => intro _ _; exact ⟨Nat.zero_le _, fun i e ks sp h => by simp at h, fun i hi => by omega⟩
  | case2 n => intro hn _; simp at hn
  | case3 n e ks sp l e' ks' sp' l' he ih =>
    intro hn h
    simp only [weakO, he] at h
    have he := Nat.eq_of_beq_eq_true he
    subst he
    obtain ⟨hk, hh⟩ := Ok.append.1 h
    have hsp : sp = sp' := hh.1
    have hh' : Ok (weakO (n - 1) l l') := hh.2
    subst hsp
    simp only [List.length_cons] at hn
    obtain ⟨h1, h2, h3⟩ := ih (by omega) hh'
    refine ⟨by simp only [List.length_cons]; omega, fun i e2 k2 s2 hi => ?_, fun i hi => ?_⟩
    · cases i with
      | zero =>
        simp only [List.getElem?_cons_zero, Option.some.injEq, SO.cells.injEq] at hi
        obtain ⟨rfl, rfl, rfl⟩ := hi
        exact ⟨ks, rfl, fun ρ => wK_sound ρ _ _ hk⟩
      | succ i => simp only [List.getElem?_cons_succ] at hi ⊢; exact h2 i _ _ _ hi
    · cases i with
      | zero => exact ⟨fun e2 k2 s2 _ => .inl ⟨e, ks', sp, rfl⟩, fun h => by cases h⟩
      | succ i =>
        obtain ⟨a, b⟩ := h3 i (by omega)
        exact ⟨fun e2 k2 s2 h => a e2 k2 s2 h, fun h => b h⟩
  | case4 n e ks sp l e' ks' sp' l' he =>
    intro hn h
    simp only [weakO, he] at h
    exact h.1.elim
  | case5 n e ks sp l l' ih | case6 n l l' ih | case7 n l l' ih =>
    intro hn h
    simp only [weakO] at h
    simp only [List.length_cons] at hn
    obtain ⟨h1, h2, h3⟩ := ih (by omega) h
    refine ⟨by simp only [List.length_cons]; omega, fun i e2 k2 s2 hi => ?_, fun i hi => ?_⟩
    · cases i with
      | zero => simp at hi
      | succ i => simp only [List.getElem?_cons_succ] at hi ⊢; exact h2 i _ _ _ hi
    · cases i with
      | zero => exact ⟨fun _ _ _ _ => .inr rfl, fun _ => rfl⟩
      | succ i =>
        obtain ⟨a, b⟩ := h3 i (by omega)
        exact ⟨fun e2 k2 s2 h => a e2 k2 s2 h, fun h => b h⟩
  | case8 n l l' ih =>
    intro hn h
    simp only [weakO] at h
    simp only [List.length_cons] at hn
    obtain ⟨h1, h2, h3⟩ := ih (by omega) h
    refine ⟨by simp only [List.length_cons]; omega, fun i e2 k2 s2 hi => ?_, fun i hi => ?_⟩
    · cases i with
      | zero => simp at hi
      | succ i => simp only [List.getElem?_cons_succ] at hi ⊢; exact h2 i _ _ _ hi
    · cases i with
      | zero => exact ⟨fun _ _ _ h => by simp at h, fun h => by simp at h⟩
      | succ i =>
        obtain ⟨a, b⟩ := h3 i (by omega)
        exact ⟨fun e2 k2 s2 h => a e2 k2 s2 h, fun h => b h⟩
  | case9 => intro _ h; rw [weakO] at h <;> first | exact h.1.elim | assumption

theorem Holds.weaken {ρ : Nat → Nat} {tm tm' : List SV} {ob ob' : List SO} {a : Act} {w : World} (H : Holds W0 ρ tm ob a w) {kn : Nat} (hkn : W0.ob.length ≤ kn) (hkl : kn ≤ ob.length) (ht : Ok (weakT tm tm')) (ho : Ok (weakO kn ob ob')) (hc : closedB tm' ob' = true) : Holds W0 ρ tm' ob' a w ∧ kn ≤ ob'.length := by
  obtain ⟨h1, h2⟩ := weakT_sound ht
  obtain ⟨k1, k2, k3⟩ := weakO_sound _ _ _ hkl ho
  simp only [closedB, Bool.and_eq_true, List.all_eq_true] at hc
  obtain ⟨⟨c1, c2⟩, c3⟩ := hc
  refine ⟨⟨H.size.trans h1, fun t => weakV_sound (h2 t) _ (H.rep t), fun t => ?_, H.defers, H.below, ⟨fun i e ks sp hi => ?_, fun i j e ks sp e' ks' sp' hi hj hij => ?_⟩, fun i hi => ?_, fun i hi => ?_, by omega⟩, k1⟩
  · rcases Nat.lt_or_ge t tm'.length with hlt | hge
    · have := c1 tm'[t] (List.getElem_mem hlt)
      simp only [List.getD_eq_getElem?_getD, List.getElem?_eq_getElem hlt, Option.getD_some]
      exact SV.bndB_iff (fun _ => liveB_iff) this
    · simp only [List.getD_eq_getElem?_getD, List.getElem?_eq_none hge, Option.getD_none]
      trivial
  · obtain ⟨ks0, h0, hs⟩ := k2 i e ks sp hi
    obtain ⟨a1, a2, a3, a4⟩ := H.mem.obj i e ks0 sp h0
    rw [hs ρ] at a2
    refine ⟨a1, a2, fun k hk => ?_, fun k hk => ?_⟩
    · have := c2 (.cells e ks sp) (List.mem_of_getElem? hi)
      simp only [obB, List.all_eq_true] at this
      exact SK.bndB_iff (fun _ => liveB_iff) (this k hk)
    · have := c3 (.cells e ks sp) (List.mem_of_getElem? hi)
      simp only [List.all_eq_true] at this
      exact this k hk
  · obtain ⟨_, h0, _⟩ := k2 i _ _ _ hi
    obtain ⟨_, h0', _⟩ := k2 j _ _ _ hj
    exact H.mem.inj _ _ _ _ _ _ _ _ h0 h0' hij
  · have hlt : i < kn := by
      obtain ⟨e, ks, sp, h⟩ := hi
      have := ob_lt h; omega
    rcases H.kept.1 i hi with ⟨⟨e, ks, sp, q1⟩, q2⟩ | q
    · rcases (k3 i hlt).1 e ks sp q1 with q | q
      · exact .inl ⟨q, q2⟩
      · exact .inr q
    · exact .inr ((k3 i hlt).2 q)
  · have hlt := ob_lt hi
    exact (k3 i (by omega)).2 (H.kept.2.1 i hi)

theorem splitAll_sound {kd : IntKind} {t : Nat} {K : List SV → List SO → Prop} {tm : List SV} {ob : List SO} : ∀ {k j : Nat}, splitAll kd (j : Int) t K tm ob k → j ≤ k → K (tm.set t (.one (.sc (.num kd (j : Int))))) ob
  | 0, j, h, hj => by
    have : j = 0 := by omega
    subst this
    exact h rfl
  | k + 1, j, h, hj => by
    rcases Nat.lt_or_ge j (k + 1) with hlt | hge
    · exact splitAll_sound h.1 (by omega)
    · have : j = k + 1 := by omega
      subst this
      exact h.2 rfl
theorem splitK_sound {ρ : Nat → Nat} {tm : List SV} {ob : List SO} {a : Act} {w : World} (H : Holds W0 ρ tm ob a w) {sp : Option (Nat × Nat)} {K : List SV → List SO → Prop} (h : splitK sp K tm ob) : ∃ tm', Holds W0 ρ tm' ob a w ∧ K tm' ob := by
  unfold splitK at h
  split at h
  · exact ⟨tm, H, h⟩
  · rename_i t k
    split at h
    · rename_i kd n hn
      obtain ⟨⟨h0, h1⟩, h⟩ := h
      obtain ⟨j, rfl⟩ := Int.eq_ofNat_of_zero_le h0
      refine ⟨tm.set t (.one (.sc (.num kd (j : Int)))), ?_, splitAll_sound h (by omega)⟩
      have hr := H.rep t
      rw [hn] at hr
      refine ⟨by rw [List.length_set]; exact H.size, fun u => ?_, fun u => ?_, H.defers, H.below, H.mem, H.kept⟩
      · have hu := H.rep u
        simp only [List.getD_eq_getElem?_getD, List.getElem?_set] at hu ⊢
        by_cases e : t = u
        · subst e
          by_cases hl : t < tm.length
          · simp only [hl, if_true, Option.getD_some]; exact hr
          · simp only [hl, if_true, if_false, Option.getD_none]; exact trivial
        · simp only [e, if_false]; exact hu
      · have hu := H.bnd u
        simp only [List.getD_eq_getElem?_getD, List.getElem?_set] at hu ⊢
        by_cases e : t = u
        · subst e
          by_cases hl : t < tm.length
          · simp only [hl, if_true, Option.getD_some]; exact trivial
          · simp only [hl, if_true, if_false, Option.getD_none]; exact trivial
        · simp only [e, if_false]; exact hu
    · exact ⟨tm, H, h⟩

theorem sxLoop_sound {c : Code} {body : List SV → List SO → (Exit → List SV → List SO → Prop) → Prop} 
    (hbody : ∀ {ρ : Nat → Nat} {tm : List SV} {ob : List SO} {a : Act} {w : World} {K : Exit → List SV → List SO → Prop} {Q : Exit → Act → World → Prop}, Holds W0 ρ tm ob a w → body tm ob K → (∀ e ρ tm ob a w, Holds W0 ρ tm ob a w → K e tm ob → Q e a w) → c.wp P Q a w)
    {K : Exit → List SV → List SO → Prop} {Q : Exit → Act → World → Prop} (hK : ∀ e ρ tm ob a w, Holds W0 ρ tm ob a w → K e tm ob → Q e a w) :
    ∀ (n : Nat) {ρ : Nat → Nat} {tm : List SV} {ob : List SO} {a : Act} {w : World}, Holds W0 ρ tm ob a w → sxLoop body K n tm ob → Code.rounds P c Q n a w
  | 0, _, _, _, _, _, _, h => h.no
  | n + 1, ρ, tm, ob, a, w, H, h => by
    rw [rounds_succ]
    refine hbody H h fun e ρ' tm' ob' a' w' H' h' => ?_
    cases e <;> first
      | exact sxLoop_sound hbody hK n H' h'
      | exact hK _ ρ' tm' ob' a' w' H' h'

theorem sx_sound {cx : Cx} (hcx : CxOK P cx) {inl : Inl} (hin : InlOK P inl) {dr : Drawn} (hdr : DrawnOK P cx dr) {iv : List (Nat × Hint)} {N kf kn : Nat} (hkn : W0.ob.length = kn) : ∀ (c : Code) {ρ : Nat → Nat} {tm : List SV} {ob : List SO} {a : Act} {w : World} {K : Exit → List SV → List SO → Prop} {Q : Exit → Act → World → Prop},
    Holds W0 ρ tm ob a w → sx P cx inl dr iv N kf kn c tm ob K → (∀ e ρ tm ob a w, Holds W0 ρ tm ob a w → K e tm ob → Q e a w) → c.wp P Q a w
  | .skip, ρ, tm, ob, a, w, K, Q, H, h, hK => wp_skip (hK _ ρ tm ob a w H h)
  | .label _, ρ, tm, ob, a, w, K, Q, H, h, hK => wp_label (hK _ ρ tm ob a w H h)
  | .exit id, ρ, tm, ob, a, w, K, Q, H, h, hK => wp_exit (hK _ ρ tm ob a w H h)
  | .ret, ρ, tm, ob, a, w, K, Q, H, h, hK => wp_ret (hK _ ρ tm ob a w H h)
  | .region id ops draw, ρ, tm, ob, a, w, K, Q, H, h, hK => by
    simp only [sx] at h
    have hK' : ∀ ρ tm ob a w, Holds W0 ρ tm ob a w → splitK (getSplit iv (kf + id)) (K .normal) tm ob → Q .normal a w := by
      intro ρ tm ob a w H h
      obtain ⟨tm', H', h'⟩ := splitK_sound H h
      exact hK _ ρ tm' ob a w H' h'
    split at h
    · exact wp_region_list (runs_sound hcx hin hK' H h)
    · split at h
      · rename_i hd
        exact hdr _ _ _ hd H h hK'
      · exact h.no
  | .seq x y, ρ, tm, ob, a, w, K, Q, H, h, hK => by
    simp only [sx] at h
    refine wp_seq (sx_sound hcx hin hdr hkn x H h fun e ρ' tm' ob' a' w' H' h' => ?_)
    cases e <;> first
      | exact sx_sound hcx hin hdr hkn y H' h' hK
      | exact hK _ ρ' tm' ob' a' w' H' h'
  | .cond c x y, ρ, tm, ob, a, w, K, Q, H, h, hK => by
    simp only [sx] at h
    split at h
    · rename_i ps hc
      obtain ⟨hp, h⟩ := ands_iff.1 h
      exact wp_cond_true (rd_sound hc hp H).1 (sx_sound hcx hin hdr hkn x H h hK)
    · rename_i ps hc
      obtain ⟨hp, h⟩ := ands_iff.1 h
      exact wp_cond_false (rd_sound hc hp H).1 (sx_sound hcx hin hdr hkn y H h hK)
    · rename_i ps b hc
      obtain ⟨hp, h⟩ := ands_iff.1 h
      exact wp_cond_split (rd_sound hc hp H).1 (fun e => sx_sound hcx hin hdr hkn x H (h.1 e) hK) (fun e => sx_sound hcx hin hdr hkn y H (h.2 e) hK)
    · exact h.no
  | .block id x, ρ, tm, ob, a, w, K, Q, H, h, hK => by
    simp only [sx] at h
    refine wp_block (sx_sound hcx hin hdr hkn x H h fun e ρ' tm' ob' a' w' H' h' => ?_)
    cases e with
    | exit i =>
      simp only at h'
      simp only [Exit.inBlock]
      split at h'
      · rename_i e; rw [if_pos (Nat.eq_of_beq_eq_true e)]; exact hK _ ρ' tm' ob' a' w' H' h'
      · rename_i e; rw [if_neg (Nat.ne_of_beq_eq_false e)]; exact hK _ ρ' tm' ob' a' w' H' h'
    | _ => exact hK _ ρ' tm' ob' a' w' H' h'
  | .loop x, ρ, tm, ob, a, w, K, Q, H, h, hK => by
    simp only [sx] at h
    split at h
    · exact wp_loop_rounds N (sxLoop_sound (fun H h hK => sx_sound hcx hin hdr hkn x H h hK) hK N H h)
    · rename_i L _
      obtain ⟨hcl, y, hy, h⟩ := h
      obtain ⟨ht, h⟩ := ands_iff.1 h
      obtain ⟨ho, hround⟩ := ands_iff.1 h
      have hle : ∀ {ρ : Nat → Nat} {tm : List SV} {ob : List SO} {a : Act} {w : World}, Holds W0 ρ tm ob a w → kn ≤ ob.length := fun H => by have := H.kept.2.2; omega
      refine wp_loop_ghost (fun n a w => ∃ y ρ, L.less y = n ∧ L.holds y ∧ Holds W0 ρ (L.tm y) (L.ob y) a w) (L.less y) ⟨y, ρ, rfl, hy, (H.weaken (by omega) (hle H) ht ho (hcl y)).1⟩ ?_
      rintro n a w ⟨y, ρ, rfl, hy, H⟩
      refine sx_sound hcx hin hdr hkn x H (hround y hy) fun e ρ' tm' ob' a' w' H' h' => ?_
      cases e <;> first
        | (obtain ⟨y', hy', h'⟩ := h'
           obtain ⟨ht', h'⟩ := ands_iff.1 h'
           obtain ⟨ho', hlt⟩ := ands_iff.1 h'
           exact ⟨_, hlt, y', ρ', rfl, hy', (H'.weaken (by omega) (hle H') ht' ho' (hcl y')).1⟩)
        | exact hK _ ρ' tm' ob' a' w' H' h'
  | .rangeFunc .., _, _, _, _, _, _, _, _, h, _ | .scope _, _, _, _, _, _, _, _, _, h, _ | .goto _, _, _, _, _, _, _, _, _, h, _ | .refuse _, _, _, _, _, _, _, _, _, h, _ => by simp only [sx] at h; exact h.no

/-! ## A call -/

def resL (P : Program) (tm : List SV) (ob : List SO) : List ResultVar → Option (List SA)
  | [] => some []
  | .tmp t :: r =>
    match ev tm (.tmp t), resL P tm ob r with
    | .one x, some xs => some (x :: xs)
    | _, _ => none
  | .cell t ty :: r =>
    match ev tm (.tmp t), resL P tm ob r with
    | .one x, some xs => match semLoad P ob ty x with
      | some ([], z) => some (z :: xs)
      | _ => none
    | _, _ => none
def resV : List SA → SV
  | [x] => .one x
  | xs => .tup xs
/-- What a call comes to at its end. -/
def ret (P : Program) (rs : List ResultVar) (post : SV → List SO → Prop) : Exit → List SV → List SO → Prop
  | .ret, tm, ob | .normal, tm, ob =>
    match resL P tm ob rs with
    | some xs => post (resV xs) ob
    | none => StuckAt "results"
  | _, _, _ => StuckAt "exit"

theorem resL_sound {ρ : Nat → Nat} {tm : List SV} {ob : List SO} {a : Act} {w : World} (H : Holds W0 ρ tm ob a w) : ∀ {rs : List ResultVar} {xs : List SA}, resL P tm ob rs = some xs →
    (rs.mapM (fun
      | .tmp t => pure (a.tmps.getD t undef)
      | .cell c t => do loadVar t (← asAddr (a.tmps.getD c undef))) : Sem (List Value)).run P w = .ok (xs.map (SA.conc ρ)) w ∧ ∀ x ∈ xs, x.bnd (live ob)
  | [], xs, h => by simp only [resL, Option.some.injEq] at h; subst h; simp
  | .tmp t :: r, xs, h => by
    simp only [resL] at h
    split at h
    · rename_i x xs' h1 h2
      simp only [Option.some.injEq] at h; subst h
      have hr := (H.ev (.tmp t)).1
      have hb := (H.ev (.tmp t)).2
      rw [h1] at hr hb
      simp only [SV.rep, Act.eval] at hr
      obtain ⟨ih, ihb⟩ := resL_sound H h2
      refine ⟨by simp only [List.mapM_cons, Sem.run_bind, Sem.run_pure, Result.andThen_ok, hr, ih, List.map_cons], fun y hy => ?_⟩
      rcases List.mem_cons.1 hy with rfl | hy
      · exact hb
      · exact ihb y hy
    · cases h
  | .cell t ty :: r, xs, h => by
    simp only [resL] at h
    split at h
    · rename_i x xs' h1 h2
      split at h
      · rename_i z hz
        simp only [Option.some.injEq] at h; subst h
        have hr := (H.ev (.tmp t)).1
        rw [h1] at hr
        simp only [SV.rep, Act.eval] at hr
        obtain ⟨e, hb⟩ := semLoad_sound (P := P) H hz trivial
        obtain ⟨b, off, hx⟩ : ∃ b off, x.conc ρ = .pointer (some ⟨b, off, none⟩) := by
          unfold semLoad at hz
          split at hz
          · exact ⟨_, _, rfl⟩
          · exact ⟨_, _, rfl⟩
          · cases hz
        rw [hx] at e hr
        simp only [Instr.loadAt, Instr.sureAddr, Sem.run_bind, Sem.run_pure, Result.andThen_ok] at e
        obtain ⟨ih, ihb⟩ := resL_sound H h2
        have hp : asAddr (a.tmps.getD t undef) = pure ⟨b, off, none⟩ := by rw [hr]; rfl
        refine ⟨by simp only [List.mapM_cons, Sem.run_bind, Sem.run_pure, Result.andThen_ok, hp, ih, List.map_cons, e], fun y hy => ?_⟩
        rcases List.mem_cons.1 hy with rfl | hy
        · exact hb
        · exact ihb y hy
      · cases h
    · cases h
theorem results_sound {ρ : Nat → Nat} {tm : List SV} {ob : List SO} {a : Act} {w : World} (H : Holds W0 ρ tm ob a w) {fn : Func} {xs : List SA} (h : resL P tm ob fn.results.toList = some xs) :
    ∃ v, (results fn a.tmps).run P w = .ok v w ∧ (resV xs).rep ρ v ∧ (resV xs).bnd (live ob) := by
  obtain ⟨this, hb⟩ := resL_sound H h
  have e : (results fn a.tmps).run P w = .ok (if h : (xs.map (SA.conc ρ)).toArray.size = 1 then (xs.map (SA.conc ρ)).toArray[0] else .tuple (xs.map (SA.conc ρ)).toArray) w := by
    unfold results
    rw [Sem.run_bind, Array.mapM_eq_mapM_toList, Sem.run_map]
    erw [this]
    rfl
  rw [e]
  refine ⟨_, rfl, ?_, ?_⟩
  · match xs with
    | [] => simp [resV, SV.rep]
    | [x] => simp [resV, SV.rep]
    | x :: y :: r => simp [resV, SV.rep]
  · match xs, hb with
    | [], hb => exact hb
    | [x], hb => exact hb x (by simp)
    | x :: y :: r, hb => exact hb

/-- The slots as a call begins. -/
def slots0 (args : List SA) (n : Nat) : List SV := args.map .one ++ List.replicate (n - args.length) .any

theorem calls_of_sx {cx : Cx} (hcx : CxOK P cx) {inl : Inl} (hin : InlOK P inl) {dr : Drawn} (hdr : DrawnOK P cx dr) (iv : List (Nat × Hint)) (N kf : Nat) {f : FuncId} {fn : Func} {c : Code} (hf : P.funcs[f]? = some fn) (hb : fn.body = some c) {Z : World} {ob : List SO} (args : List SA) (hargs : ∀ x ∈ args, x.bnd (live ob)) (ρ : Nat → Nat) (w : World)
    (hB : Below Z.heap.size Z w) (hm : Mem Z.heap.size ρ ob w)
    (post : SV → List SO → Prop) {R : Ending → World → Prop} (hR : ∀ sv ob' ρ' v w', post sv ob' → sv.rep ρ' v → sv.bnd (live ob') → Below Z.heap.size Z w' → Mem Z.heap.size ρ' ob' w' → Kept ⟨Z, ob, ρ⟩ ρ' ob' → R (.returned v) w')
    (h : sx P cx inl dr iv N kf ob.length c (slots0 args fn.ntmps) ob (ret P fn.results.toList post)) : Calls P f (args.map (SA.conc ρ)).toArray w R := by
  refine calls_of_wp hf hb ?_
  have H : Holds ⟨Z, ob, ρ⟩ ρ (slots0 args fn.ntmps) ob { tmps := (args.map (SA.conc ρ)).toArray ++ Array.replicate (fn.ntmps - (args.map (SA.conc ρ)).toArray.size) undef, defers := [] } w := by
    have get : ∀ t : Nat, (slots0 args fn.ntmps).getD t .any = match args[t]? with | some x => .one x | none => .any := by
      intro t
      simp only [slots0, List.getD_eq_getElem?_getD, List.getElem?_append, List.length_map, List.getElem?_map]
      by_cases ht : t < args.length
      · simp [ht]
      · simp only [ht, if_false, List.getElem?_replicate, List.getElem?_eq_none (Nat.le_of_not_lt ht)]
        split <;> rfl
    refine ⟨by simp [slots0], fun t => ?_, fun t => ?_, rfl, hB, hm, fun i hi => .inl ⟨hi, rfl⟩, fun i hi => hi, Nat.le_refl _⟩
    · rw [get t]
      cases ht : args[t]? with
      | none => trivial
      | some x =>
        obtain ⟨hlt, rfl⟩ := List.getElem?_eq_some_iff.1 ht
        simp [SV.rep, Array.getElem?_append, hlt]
    · rw [get t]
      cases ht : args[t]? with
      | none => trivial
      | some x => exact hargs x (List.mem_of_getElem? ht)
  refine sx_sound hcx hin hdr rfl c H h fun e ρ' tm ob' a w' H' h' => ?_
  have fin : (match resL P tm ob' fn.results.toList with
      | some xs => post (resV xs) ob'
      | none => StuckAt "results") → a.defers = [] ∧ ∃ v, (results fn a.tmps).run P w' = .ok v w' ∧ R (.returned v) w' := by
    intro h'
    split at h'
    · rename_i xs hx
      obtain ⟨v, hv, hr, hbd⟩ := results_sound H' hx
      exact ⟨H'.defers, v, hv, hR _ ob' ρ' v w' h' hr hbd H'.below H'.mem H'.kept⟩
    · exact h'.no
  cases e with
  | ret => exact fin h'
  | normal => exact fin h'
  | _ => exact h'.no

/-- Calls run in place, d of them in one another. -/
def inlD (P : Program) (cx : Cx) (dr : Drawn) (iv : List (Nat × Hint)) (N : Nat) : Nat → Inl
  | 0 => noInl
  | d + 1 => fun f args ob k =>
    match P.funcs[f]? with
    | some fn =>
      match fn.body, fn.name == "runtime.NumGoroutine" with
      | some c, false => sx P cx (inlD P cx dr iv N d) dr iv N ((f + 1) * 100000) ob.length c (slots0 args fn.ntmps) ob (ret P fn.results.toList k)
      | _, _ => StuckAt "no text"
    | none => StuckAt "no function"

theorem run_callFunc_enter {P : Program} {f : Nat} {fn : Func} (hf : P.funcs[f]? = some fn) (hb : fn.body.isSome = true) (hn : (fn.name == "runtime.NumGoroutine") = false) (args : Array Value) (w : World) : (callFunc f args).run P w = .ok (.enter f args) w := by
  have hb' : fn.body.isNone = false := by cases h : fn.body <;> simp [h] at hb ⊢
  unfold callFunc
  rw [Sem.run_bind, run_program, Result.andThen_ok]
  simp only [hf, hn, hb', Bool.false_eq_true, if_false, Sem.run_pure]

theorem inlD_ok {cx : Cx} (hcx : CxOK P cx) {dr : Drawn} (hdr : DrawnOK P cx dr) (iv : List (Nat × Hint)) (N : Nat) : ∀ d, InlOK P (inlD P cx dr iv N d)
  | 0 => noInl_ok P
  | d + 1 => by
    intro f args ob k h Z ρ tm a w H hargs
    simp only [inlD] at h
    split at h
    case h_2 => exact h.no
    rename_i fn hf
    split at h
    case h_2 => exact h.no
    rename_i c hb hn
    refine ⟨run_callFunc_enter hf (by rw [hb]; rfl) hn _ w, ?_⟩
    refine calls_of_sx hcx (inlD_ok hcx hdr iv N d) hdr iv N _ hf hb args hargs ρ w H.below H.mem k (fun sv ob' ρ' v w' hk hr hbd hB hm hkp => ?_) h
    refine ⟨v, rfl, ρ', sv, ob', hk, hr, hbd, H.onto (fun i hi hi' => ?_) hB hm ⟨fun i hi => ?_, fun i hi => hkp.2.1 i (H.kept.2.1 i hi), Nat.le_trans H.kept.2.2 hkp.2.2⟩⟩
    · rcases hkp.1 i hi with ⟨_, e⟩ | e
      · exact e
      · obtain ⟨_, _, _, h'⟩ := hi'; rw [e] at h'; cases h'
    · rcases H.kept.1 i hi with ⟨k1, k2⟩ | k1
      · rcases hkp.1 i k1 with ⟨q1, q2⟩ | q
        · exact .inl ⟨q1, Eq.trans q2 k2⟩
        · exact .inr q
      · exact .inr (hkp.2.1 i k1)
end

end Go.Sx
