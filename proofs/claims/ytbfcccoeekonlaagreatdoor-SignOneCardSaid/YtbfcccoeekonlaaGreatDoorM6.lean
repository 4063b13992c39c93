/-
  Texts: Sx10, Sx11.
-/
import Derived.Test.YtbfcccoeekonlaaGreatDoorM1
import Derived.Test.YtbfcccoeekonlaaGreatDoorM2
import Derived.Test.YtbfcccoeekonlaaGreatDoorM3
import Derived.Test.YtbfcccoeekonlaaGreatDoorM4
import Derived.Test.YtbfcccoeekonlaaGreatDoorM5
import Derived.Deep.LoopGhost
import Derived.Orders
section
/-
  A calculus of symbolic states for walks over translated Go code, part 10: code, and a call.
-/
namespace Go.Sx
open Go.RowKit

/-- Rounds of a loop that come to an end by themselves. -/
def sxLoop (body : List SV → List SO → (Exit → List SV → List SO → Prop) → Prop) (K : Exit → List SV → List SO → Prop) : Nat → List SV → List SO → Prop
  | 0, _, _ => StuckAt "rounds"
  | n + 1, tm, ob => body tm ob fun e tm ob => match e with
    | .normal => sxLoop body K n tm ob
    | e => K e tm ob

/-- A loop that is met by what holds at each round's head. -/
structure Inv where
  X : Type
  tm : X → List SV
  ob : X → List SO
  holds : X → Prop
  less : X → Nat
/-- What is told of a place of the code: a loop's rounds; behind a region, a number in a slot that is one of a few. -/
inductive Hint where
  | inv (L : Inv)
  | split (t k : Nat)
  | merge
def getInv : List (Nat × Hint) → Nat → Option Inv
  | [], _ => none
  | (k, .inv L) :: r, n => match Nat.beq k n with
    | true => some L
    | false => getInv r n
  | (_, .split _ _) :: r, n => getInv r n
  | (_, .merge) :: r, n => getInv r n
def getSplit : List (Nat × Hint) → Nat → Option (Nat × Nat)
  | [], _ => none
  | (k, .split t m) :: r, n => match Nat.beq k n with
    | true => some (t, m)
    | false => getSplit r n
  | (_, .inv _) :: r, n => getSplit r n
  | (_, .merge) :: r, n => getSplit r n
def getMerge : List (Nat × Hint) → Nat → Bool
  | [], _ => false
  | (k, .merge) :: r, n => Nat.beq k n || getMerge r n
  | _ :: r, n => getMerge r n
def firstId : Code → Nat
  | .region id _ _ => id
  | .seq a _ => firstId a
  | .block _ a => firstId a
  | .loop a => firstId a
  | _ => 0

/-- Said of a slot with less: what stood there stands for what is said now; what is owed for that. -/
def wC (x y : SC) : List Prop :=
  match x, y with
  | .num k a, .num k' b => if k = k' ∧ a = b then [] else [False]
  | .bit a, .bit b => match a, b with
    | true, true | false, false => []
    | _, _ => [False]
  | .ptr o off, .ptr o' off' => match Nat.beq o o' && Nat.beq off off' with
    | true => []
    | false => [False]
  | .sl o off len cap, .sl o' off' len' cap' => match Nat.beq o o' && Nat.beq off off' && Nat.beq len len' with
    | true => [cap = cap']
    | false => [False]
  | .xs a n cap w g, .xs a' n' cap' w' g' => [simC (.xs a n cap w g) (.xs a' n' cap' w' g')]
  | .px a m h, .px a' m' h' => [simC (.px a m h) (.px a' m' h')]
  | x, y => match noX y with
    | true => [sameC x y]
    | false => [False]
def noXK : SK → Bool
  | .c s => noX s
  | .u _ | .f _ _ _ => true
def wK : List SK → List SK → List Prop
  | [], [] => []
  | .u a :: r, .u b :: r' => (a % M256 = b % M256) :: wK r r'
  | .c x :: r, .c y :: r' => wC x y ++ wK r r'
  | xs, ys => match ys.all noXK with
    | true => [sameK xs ys]
    | false => [False]
def wA : SA → SA → List Prop
  | .sc x, .sc y => wC x y
  | .agg ks, .agg ks' => wK ks ks'
  | _, _ => [False]
def wL : List SA → List SA → List Prop
  | [], [] => []
  | x :: r, y :: r' => wA x y ++ wL r r'
  | _, _ => [False]
def weakV : SV → SV → List Prop
  | _, .any => []
  | .one x, .one y => wA x y
  | .tup xs, .tup ys => wL xs ys
  | .gd b x, .gd b' y => (b = b') :: wA x y
  | _, _ => [False]
def weakT : List SV → List SV → List Prop
  | [], [] => []
  | s :: l, s' :: l' => weakV s s' ++ weakT l l'
  | _, _ => [False]
/-- Of blocks with less: what is dead is forgotten; the first n are told of. -/
def weakO : Nat → List SO → List SO → List Prop
  | 0, _, [] => []
  | _ + 1, [], [] => []
  | n, .cells e ks sp :: l, .cells e' ks' sp' :: l' => match Nat.beq e e' with
    | true => wK ks ks' ++ (sp = sp') :: weakO (n - 1) l l'
    | false => [False]
  | n, .row e k m g sp :: l, .row e' k' m' g' sp' :: l' => match Nat.beq e e' && Nat.beq k k' with
    | true => (m = m') :: (sp = sp') :: (∀ i, i < m → allC k (fun c => simC (g i c) (g' i c))) :: weakO (n - 1) l l'
    | false => [False]
  | n, .row _ _ _ _ _ :: l, .dead :: l' | n, .cells _ _ _ :: l, .dead :: l' | n, .dead :: l, .dead :: l' | n, .gone :: l, .dead :: l' | n, .gone :: l, .gone :: l' => weakO (n - 1) l l'
  | _, _, _ => [False]

/-- What is said of a loop's head names no blocks but those that it has. -/
def closedB (tm : List SV) (ob : List SO) : Bool := tm.all (SV.bndB (liveB ob)) && ob.all (obB (liveB ob)) && ob.all (fun o => match o with | .cells _ ks _ => ks.all SK.fit | _ => true)

/-- Places kept for a region's new blocks. -/
def isNew : Op → Bool
  | .alloc _ | .box .. | .buildSlice .. | .makeSlice .. => true
  | _ => false
def gones : Nat → List SO
  | 0 => []
  | n + 1 => .gone :: gones n
def kept (ops : Array Oper) (ob : List SO) : List SO := if ops.toList.any (fun o => isNew o.op) then ob ++ gones ops.size else ob
/-- May a region draw its order, and the text's order serve for all? (Part 11.) -/
abbrev Drawn := Program → Cx → Array Oper → List SV → List SO → Option Nat

/-- A number in a slot that is one of a few: each is looked at. -/
def splitAll (kd : IntKind) (n : Int) (t : Nat) (K : List SV → List SO → Prop) (tm : List SV) (ob : List SO) : Nat → Prop
  | 0 => n = 0 → K (tm.set t (.one (.sc (.num kd 0)))) ob
  | k + 1 => splitAll kd n t K tm ob k ∧ (n = ((k + 1 : Nat) : Int) → K (tm.set t (.one (.sc (.num kd ((k + 1 : Nat) : Int))))) ob)
def splitK (sp : Option (Nat × Nat)) (K : List SV → List SO → Prop) (tm : List SV) (ob : List SO) : Prop :=
  match sp with
  | none => K tm ob
  | some (t, k) =>
    match tm.getD t .any with
    | .one (.sc (.val (.int kd n))) => (0 ≤ n ∧ n ≤ (k : Int)) ∧ splitAll kd n t K tm ob k
    | _ => K tm ob

/-- Every order that a region may draw, one by one. -/
def allOf : List Nat → (Nat → Prop) → Prop
  | [], _ => True
  | [i], f => f i
  | i :: r, f => f i ∧ allOf r f
def anyRuns (P : Program) (cx : Cx) (inl : Inl) (ops : Array Oper) (K : List SV → List SO → Prop) : Nat → Array Bool → List SV → List SO → Prop
  | 0, listed, tm, ob => match Region.ready .any ops listed with
    | [] => K tm ob
    | _ => StuckAt "orders"
  | fuel + 1, listed, tm, ob => match Region.ready .any ops listed with
    | [] => K tm ob
    | r => allOf r fun i => match ops[i]? with
      | some o => runs P cx inl ops false i [o] tm ob fun tm ob => anyRuns P cx inl ops K fuel (listed.setIfInBounds i true) tm ob
      | none => StuckAt "orders"

/-- What a plain region, and plain code, comes to: what is owed, slots, blocks. -/
def plainR (P : Program) (cx : Cx) (ops : Array Oper) : Nat → List Oper → List SV → List SO → Option (List Prop × List SV × List SO)
  | _, [], tm, ob => some ([], tm, ob)
  | i, o :: r, tm, ob =>
    match special P cx tm o with
    | some _ => none
    | none => match semG P cx ops ob.length tm ob o with
      | some (ps, sv, ob') => match plainR P cx ops (i + 1) r (put tm o.dst sv) ob' with
        | some (qs, t, b) => some (ps ++ qs, t, b)
        | none => none
      | none => none
def plainC (P : Program) (cx : Cx) (iv : List (Nat × Hint)) (kf : Nat) : Code → List SV → List SO → Option (List Prop × List SV × List SO)
  | .skip, tm, ob => some ([], tm, ob)
  | .region id ops false, tm, ob => match getSplit iv (kf + id) with
    | none => plainR P cx ops 0 ops.toList tm ob
    | some _ => none
  | .seq x y, tm, ob => match plainC P cx iv kf x tm ob with
    | some (ps, t, b) => match plainC P cx iv kf y t b with
      | some (qs, t', b') => some (ps ++ qs, t', b')
      | none => none
    | none => none
  | _, _, _ => none
def dsts : Code → List Nat
  | .region _ ops _ => ops.toList.filterMap (·.dst)
  | .seq x y => dsts x ++ dsts y
  | _ => []
/-- Two that are told as one, by a bit. -/
def mergeC (b : Bool) : SC → SC → SC
  | .val (.int k x), .val (.int _ y) | .val (.int k x), .num _ y | .num k x, .val (.int _ y) | .num k x, .num _ y => .val (.int k (cond b x y))
  | x, _ => x
def mergeK (b : Bool) : List SK → List SK → List SK
  | .u n :: r, .u m :: r' => .u (cond b n m) :: mergeK b r r'
  | .c x :: r, .c y :: r' => .c (mergeC b x y) :: mergeK b r r'
  | x :: r, _ :: r' => x :: mergeK b r r'
  | l, _ => l
def mergeV (b : Bool) : SV → SV → SV
  | .one (.sc (.val (.int k x))), .one (.sc (.val (.int _ y))) | .one (.sc (.val (.int k x))), .one (.sc (.num _ y)) | .one (.sc (.num k x)), .one (.sc (.val (.int _ y))) | .one (.sc (.num k x)), .one (.sc (.num _ y)) => .one (.sc (.val (.int k (cond b x y))))
  | _, _ => .any
def mergeT (b : Bool) (ds : List Nat) : Nat → List SV → List SV → List SV
  | i, x :: r, y :: r' => (match ds.elem i with
    | true => mergeV b x y
    | false => x) :: mergeT b ds (i + 1) r r'
  | _, l, _ => l
def mergeO (b : Bool) : List SO → List SO → List SO
  | .cells e ks sp :: r, .cells _ ks' _ :: r' => .cells e (mergeK b ks ks') sp :: mergeO b r r'
  | x :: r, _ :: r' => x :: mergeO b r r'
  | _, _ => []
/-- An if whose two branches are plain: what either owes, and what both come to. -/
def mergeOf (P : Program) (cx : Cx) (iv : List (Nat × Hint)) (kf kn : Nat) (b : Bool) (x y : Code) (tm : List SV) (ob : List SO) : Option (List Prop × List Prop × List SV × List SO) :=
  match getMerge iv (kf + (match firstId x with | 0 => firstId y | n => n)) with
  | true => match plainC P cx iv kf x tm ob, plainC P cx iv kf y tm ob with
    | some (ps, t1, o1), some (qs, t2, o2) =>
      match closedB (mergeT b (dsts x ++ dsts y) 0 t1 t2) (mergeO b o1 o2) with
      | true => some (ps ++ (weakT t1 (mergeT b (dsts x ++ dsts y) 0 t1 t2) ++ weakO kn o1 (mergeO b o1 o2)), qs ++ (weakT t2 (mergeT b (dsts x ++ dsts y) 0 t1 t2) ++ weakO kn o2 (mergeO b o1 o2)), mergeT b (dsts x ++ dsts y) 0 t1 t2, mergeO b o1 o2)
      | false => none
    | _, _ => none
  | false => none
def okAll : List Prop → Prop
  | [] => True
  | [p] => p
  | p :: r => p ∧ okAll r
theorem okAll_iff : ∀ {l : List Prop}, okAll l → Ok l
  | [], _ => trivial
  | [_], h => ⟨h, trivial⟩
  | _ :: _ :: _, h => ⟨h.1, okAll_iff h.2⟩

def sx (P : Program) (cx : Cx) (inl : Inl) (dr : Drawn) (iv : List (Nat × Hint)) (N kf kn : Nat) : Code → List SV → List SO → (Exit → List SV → List SO → Prop) → Prop
  | .skip, tm, ob, K => K .normal tm ob
  | .label _, tm, ob, K => K .normal tm ob
  | .exit id, tm, ob, K => K (.exit id) tm ob
  | .ret, tm, ob, K => K .ret tm ob
  | .region id ops draw, tm, ob, K =>
    match draw with
    | false => runs P cx inl ops false 0 ops.toList tm ob (splitK (getSplit iv (kf + id)) (K .normal))
    | true => match dr P cx ops tm ob with
      | some n => runs P cx noInl ops true ob.length (ops.toList.take n) tm (kept ops ob) fun tm ob => runs P cx inl ops false n (ops.toList.drop n) tm ob (splitK (getSplit iv (kf + id)) (K .normal))
      | none => match P.follows .mixedOrders with
        | true => anyRuns P cx inl ops (splitK (getSplit iv (kf + id)) (K .normal)) ops.size (Array.replicate ops.size false) tm ob
        | false => StuckAt "order"
  | .seq x y, tm, ob, K => sx P cx inl dr iv N kf kn x tm ob fun e tm ob => match e with
    | .normal => sx P cx inl dr iv N kf kn y tm ob K
    | e => K e tm ob
  | .cond c x y, tm, ob, K =>
    match rd tm c with
    | some (ps, .sc (.bit true)) => ands ps (sx P cx inl dr iv N kf kn x tm ob K)
    | some (ps, .sc (.bit false)) => ands ps (sx P cx inl dr iv N kf kn y tm ob K)
    | some (ps, .sc (.val (.bool b))) => match mergeOf P cx iv kf kn b x y tm ob with
      | some (p1, p2, tm', ob') => ands ps ((b = true → okAll p1) ∧ (b = false → okAll p2) ∧ K .normal tm' ob')
      | none => ands ps ((b = true → sx P cx inl dr iv N kf kn x tm ob K) ∧ (b = false → sx P cx inl dr iv N kf kn y tm ob K))
    | _ => StuckAt "cond"
  | .block id x, tm, ob, K => sx P cx inl dr iv N kf kn x tm ob fun e tm ob => match e with
    | .exit i => match Nat.beq i id with
      | true => K .normal tm ob
      | false => K (.exit i) tm ob
    | e => K e tm ob
  | .loop x, tm, ob, K =>
    match getInv iv (kf + firstId x) with
    | none => sxLoop (sx P cx inl dr iv N kf kn x) K N tm ob
    | some L => (∀ y, closedB (L.tm y) (L.ob y) = true) ∧ ∃ y, L.holds y ∧ ands (weakT tm (L.tm y)) (ands (weakO kn ob (L.ob y)) (∀ y, L.holds y → sx P cx inl dr iv N kf kn x (L.tm y) (L.ob y) fun e tm ob => match e with
      | .normal => ∃ y', L.holds y' ∧ ands (weakT tm (L.tm y')) (ands (weakO kn ob (L.ob y')) (L.less y' < L.less y))
      | e => K e tm ob))
  | _, _, _, _ => StuckAt "code"

/-- The order that a region draws is of no account. -/
def DrawnOK (P : Program) (cx : Cx) (dr : Drawn) : Prop :=
  ∀ kn ops tm ob n, dr P { cx with kn := kn } ops tm ob = some n → ∀ {inl : Inl}, InlOK P cx.gl inl → ∀ {W0 : Base} {ρ : Rho} {a : Act} {w : World} {Q : Exit → Act → World → Prop} {K : List SV → List SO → Prop} {id : Nat},
    CxAt { cx with kn := kn } W0 → Holds W0 ρ tm ob a w → runs P { cx with kn := kn } noInl ops true ob.length (ops.toList.take n) tm (kept ops ob) (fun tm ob => runs P { cx with kn := kn } inl ops false n (ops.toList.drop n) tm ob K) → (∀ ρ tm ob a w, Holds W0 ρ tm ob a w → K tm ob → Q .normal a w) → (Code.region id ops true).wp P Q a w
section
variable {P : Program} {W0 : Base}

theorem wC_sound {x y : SC} (h : Ok (wC x y)) (ρ : Rho) : x.conc ρ = y.conc ρ := by
  unfold wC at h
  split at h
  · split at h
    · rename_i e; obtain ⟨rfl, rfl⟩ := e; rfl
    · exact h.1.elim
  · split at h
    · rfl
    · rfl
    · exact h.1.elim
  · split at h
    · rename_i e
      simp only [Bool.and_eq_true] at e
      rw [Nat.eq_of_beq_eq_true e.1, Nat.eq_of_beq_eq_true e.2]
    · exact h.1.elim
  · split at h
    · rename_i e
      simp only [Bool.and_eq_true] at e
      rw [Nat.eq_of_beq_eq_true e.1.1, Nat.eq_of_beq_eq_true e.1.2, Nat.eq_of_beq_eq_true e.2, h.1]
    · exact h.1.elim
  · exact simC_sound ρ h.1
  · exact simC_sound ρ h.1
  · split at h
    · exact sameC_sound h.1 ρ
    · exact h.1.elim
theorem noX_soft {E : Env} {y : SC} (h : noX y = true) : y.bnd E.soft := by
  cases y <;> first | trivial | (intro c _; cases c <;> trivial) | (simp [noX] at h; done)
theorem wC_soft {x y : SC} (h : Ok (wC x y)) {E : Env} (hb : x.bnd E) : y.bnd E.soft := by
  unfold wC at h
  split at h
  · trivial
  · trivial
  · exact True.intro
  · exact True.intro
  · exact SC.bnd_mono E.le_soft (simC_bnd _ h.1 hb)
  · exact SC.bnd_mono E.le_soft (simC_bnd _ h.1 hb)
  · split at h
    · rename_i hn; exact noX_soft hn
    · exact h.1.elim
theorem wK_sound (ρ : Rho) (xs ys : List SK) : Ok (wK xs ys) → concs ρ xs = concs ρ ys := by
  induction xs, ys using wK.induct with
  | case1 => intro _; rfl
  | case2 a r b r' ih =>
    intro h
    simp only [wK] at h
    rw [concs_cons, concs_cons ρ (.u b), concs_u_congr h.1, ih h.2]
  | case3 x r y r' ih =>
    intro h
    simp only [wK] at h
    obtain ⟨h1, h2⟩ := Ok.append.1 h
    rw [concs_cons, concs_cons ρ (.c y), ih h2]
    simp [concs, flat, SK.cells, wC_sound h1 ρ]
  | case4 xs ys h1 h2 h3 hx =>
    intro h
    rw [wK] at h
    · rw [hx] at h; exact sameK_sound ρ _ _ h.1
    all_goals assumption
  | case5 xs ys h1 h2 h3 hx =>
    intro h
    rw [wK] at h
    · rw [hx] at h; exact h.1.elim
    all_goals assumption
theorem wK_soft {E : Env} (xs ys : List SK) : Ok (wK xs ys) → (∀ k ∈ xs, k.bnd E) → ∀ k ∈ ys, k.bnd E.soft := by
  have soft : ∀ {ys : List SK}, ys.all noXK = true → ∀ k ∈ ys, k.bnd E.soft := by
    intro ys h k hk
    have := List.all_eq_true.1 h k hk
    cases k with
    | c s => exact noX_soft this
    | u _ => trivial
    | f _ _ _ => trivial
  induction xs, ys using wK.induct with
  | case1 => intro _ _ k hk; cases hk
  | case2 a r b r' ih =>
    intro h hx k hk
    simp only [wK] at h
    rcases List.mem_cons.1 hk with rfl | hk
    · trivial
    · exact ih h.2 (fun k hk => hx k (by simp [hk])) k hk
  | case3 x r y r' ih =>
    intro h hx k hk
    simp only [wK] at h
    obtain ⟨h1, h2⟩ := Ok.append.1 h
    rcases List.mem_cons.1 hk with rfl | hk
    · exact wC_soft h1 (hx (.c x) (by simp))
    · exact ih h2 (fun k hk => hx k (by simp [hk])) k hk
  | case4 xs ys h1 h2 h3 hx => intro _ _; exact soft hx
  | case5 xs ys h1 h2 h3 hx =>
    intro h
    rw [wK] at h
    · rw [hx] at h; exact h.1.elim
    all_goals assumption
theorem wA_sound (ρ : Rho) {x y : SA} (h : Ok (wA x y)) : x.conc ρ = y.conc ρ := by
  unfold wA at h
  split at h
  · exact wC_sound h ρ
  · simp only [SA.conc, wK_sound ρ _ _ h]
  · exact h.1.elim
theorem wA_soft {E : Env} {x y : SA} (h : Ok (wA x y)) (hb : x.bnd E) : y.bnd E.soft := by
  unfold wA at h
  split at h
  · exact wC_soft h hb
  · exact wK_soft _ _ h hb
  · exact h.1.elim
theorem wL_sound (ρ : Rho) : ∀ {xs ys : List SA}, Ok (wL xs ys) → xs.map (SA.conc ρ) = ys.map (SA.conc ρ)
  | [], [], _ => rfl
  | x :: r, y :: r', h => by
    simp only [wL] at h
    obtain ⟨h1, h2⟩ := Ok.append.1 h
    rw [List.map_cons, List.map_cons, wA_sound ρ h1, wL_sound ρ h2]
  | [], _ :: _, h | _ :: _, [], h => h.1.elim
theorem wL_soft {E : Env} : ∀ {xs ys : List SA}, Ok (wL xs ys) → (∀ x ∈ xs, x.bnd E) → ∀ y ∈ ys, y.bnd E.soft
  | [], [], _, _ => fun y hy => by cases hy
  | x :: r, y :: r', h, hx => by
    simp only [wL] at h
    obtain ⟨h1, h2⟩ := Ok.append.1 h
    intro z hz
    rcases List.mem_cons.1 hz with rfl | hz
    · exact wA_soft h1 (hx x (by simp))
    · exact wL_soft h2 (fun x hx' => hx x (by simp [hx'])) z hz
  | [], _ :: _, h, _ | _ :: _, [], h, _ => h.1.elim
theorem weakV_sound {ρ : Rho} {s s' : SV} (h : Ok (weakV s s')) : ∀ v, s.rep ρ v → s'.rep ρ v := by
  unfold weakV at h
  split at h
  · exact fun _ _ => trivial
  · intro v k; simp only [SV.rep] at k ⊢; rw [k, wA_sound ρ h]
  · intro v k; simp only [SV.rep] at k ⊢; rw [k, wL_sound ρ h]
  · obtain ⟨rfl, h⟩ := h
    intro v k; simp only [SV.rep] at k ⊢; rw [k, wA_sound ρ h]
  · exact h.1.elim
theorem weakV_soft {E : Env} {s s' : SV} (h : Ok (weakV s s')) (hb : s.bnd E) : s'.bnd E.soft := by
  unfold weakV at h
  split at h
  · trivial
  · exact wA_soft h hb
  · exact wL_soft h hb
  · obtain ⟨rfl, h⟩ := h
    exact fun e => wA_soft h (hb e)
  · exact h.1.elim
theorem weakT_sound : ∀ {tm tm' : List SV}, Ok (weakT tm tm') → tm.length = tm'.length ∧ ∀ t : Nat, Ok (weakV (tm.getD t .any) (tm'.getD t .any))
  | [], [], _ => ⟨rfl, fun t => by simp [weakV, Ok]⟩
  | s :: l, s' :: l', h => by
    simp only [weakT] at h
    obtain ⟨h1, h2⟩ := Ok.append.1 h
    obtain ⟨a1, a2⟩ := weakT_sound h2
    refine ⟨by simp [a1], fun t => ?_⟩
    cases t with
    | zero => exact h1
    | succ t => simpa using a2 t
  | [], _ :: _, h => h.1.elim
  | _ :: _, [], h => h.1.elim
/-- A block that says less than another. -/
def SO.below (x x' : SO) : Prop := x.has = true ∧ x.elem = x'.elem ∧ x.spare = x'.spare ∧ (∀ ρ, x.vals ρ = x'.vals ρ) ∧ ∀ E : Env, x.ok E → match x' with
  | .cells _ ks _ => ∀ k ∈ ks, k.bnd E.soft
  | .row _ w n g _ => rowOK E w n g
  | _ => True
theorem rowc_congr {w n : Nat} {g g' : Nat → Nat → SC} (h : ∀ i, i < n → allC w (fun c => simC (g i c) (g' i c))) : rowc w n g = rowc w n g' := by
  refine rowc_ext (rowc_length _ _ _) fun i c hi hc => ?_
  rw [rowc_get hi hc, simC_sound Rho.nil (allC_at (h i hi) c hc)]
theorem weakO_sound : ∀ (n : Nat) (ob ob' : List SO), n ≤ ob.length → Ok (weakO n ob ob') → n ≤ ob'.length ∧ (∀ (i : Nat) x', ob'[i]? = some x' → x'.has = true → ∃ x, ob[i]? = some x ∧ x.below x') ∧
    (∀ i : Nat, i < n → (∀ x, ob[i]? = some x → x.has = true → live ob' i ∨ ob'[i]? = some .dead) ∧ (ob[i]? = some .dead → ob'[i]? = some .dead)) := by
  intro n ob ob'
  have tail : ∀ {n : Nat} {y y' : SO} {l l' : List SO}, n ≤ (y :: l).length → (n - 1 ≤ l.length → n - 1 ≤ l'.length ∧ (∀ (i : Nat) x', l'[i]? = some x' → x'.has = true → ∃ x, l[i]? = some x ∧ x.below x') ∧
      (∀ i : Nat, i < n - 1 → (∀ x, l[i]? = some x → x.has = true → live l' i ∨ l'[i]? = some .dead) ∧ (l[i]? = some .dead → l'[i]? = some .dead))) →
      (y'.has = true → y.below y') → ((∀ x, y = x → x.has = true → y'.has = true ∨ y' = .dead) ∧ (y = .dead → y' = .dead)) →
      n ≤ (y' :: l').length ∧ (∀ (i : Nat) x', (y' :: l')[i]? = some x' → x'.has = true → ∃ x, (y :: l)[i]? = some x ∧ x.below x') ∧
      (∀ i : Nat, i < n → (∀ x, (y :: l)[i]? = some x → x.has = true → live (y' :: l') i ∨ (y' :: l')[i]? = some .dead) ∧ ((y :: l)[i]? = some .dead → (y' :: l')[i]? = some .dead)) := by
    intro n y y' l l' hn ih hy hz
    simp only [List.length_cons] at hn
    obtain ⟨h1, h2, h3⟩ := ih (by omega)
    refine ⟨by simp only [List.length_cons]; omega, fun i x' hi hx => ?_, fun i hi => ?_⟩
    · cases i with
      | zero =>
        simp only [List.getElem?_cons_zero, Option.some.injEq] at hi
        subst hi
        exact ⟨y, rfl, hy hx⟩
      | succ i => simp only [List.getElem?_cons_succ] at hi ⊢; exact h2 i _ hi hx
    · cases i with
      | zero =>
        refine ⟨fun x h hx => ?_, fun h => ?_⟩
        · simp only [List.getElem?_cons_zero, Option.some.injEq] at h
          rcases hz.1 x h hx with k | k
          · exact .inl ⟨y', rfl, k⟩
          · exact .inr (by rw [k]; rfl)
        · simp only [List.getElem?_cons_zero, Option.some.injEq] at h
          rw [hz.2 h]; rfl
      | succ i =>
        obtain ⟨a, b⟩ := h3 i (by omega)
        refine ⟨fun x h hx => ?_, fun h => b h⟩
        rcases a x h hx with ⟨z, k1, k2⟩ | k
        · exact .inl ⟨z, k1, k2⟩
        · exact .inr k
  induction n, ob, ob' using weakO.induct with
  | case1 ob => intro _ _; exact ⟨Nat.zero_le _, fun i x' h => by simp at h, fun i hi => by omega⟩
  | case2 n => intro hn _; simp at hn
  | case3 n e ks sp l e' ks' sp' l' he ih =>
    intro hn h
    simp only [weakO, he] at h
    have he := Nat.eq_of_beq_eq_true he
    subst he
    obtain ⟨hk, hh⟩ := Ok.append.1 h
    have hsp : sp = sp' := hh.1
    have hh' : Ok (weakO (n - 1) l l') := hh.2
    subst hsp
    exact tail hn (fun h => ih h hh') (fun _ => ⟨rfl, rfl, rfl, fun ρ => wK_sound ρ _ _ hk, fun E hx => wK_soft _ _ hk hx.1⟩) ⟨fun _ _ _ => .inl rfl, fun h => by cases h⟩
  | case4 n e ks sp l e' ks' sp' l' he =>
    intro hn h
    simp only [weakO, he] at h
    exact h.1.elim
  | case5 n e k m g sp l e' k' m' g' sp' l' he ih =>
    intro hn h
    simp only [weakO, he] at h
    simp only [Bool.and_eq_true] at he
    have he1 := Nat.eq_of_beq_eq_true he.1
    have he2 := Nat.eq_of_beq_eq_true he.2
    obtain ⟨hm, hsp, hg, hh'⟩ := h
    subst he1 he2 hm hsp
    exact tail hn (fun h => ih h hh') (fun _ => ⟨rfl, rfl, rfl, fun ρ => rowc_congr hg, fun E hx i hi c hc => ⟨simC_bnd _ (allC_at (hg i hi) c hc) (hx i hi c hc).1, simC_fit (allC_at (hg i hi) c hc) (hx i hi c hc).2⟩⟩) ⟨fun _ _ _ => .inl rfl, fun h => by cases h⟩
  | case6 n e k m g sp l e' k' m' g' sp' l' he =>
    intro hn h
    simp only [weakO, he] at h
    exact h.1.elim
  | case7 n e k m g sp l l' ih | case8 n e ks sp l l' ih | case9 n l l' ih | case10 n l l' ih =>
    intro hn h
    simp only [weakO] at h
    exact tail hn (fun k => ih k h) (fun k => by cases k) ⟨fun _ _ _ => .inr rfl, fun _ => rfl⟩
  | case11 n l l' ih =>
    intro hn h
    simp only [weakO] at h
    exact tail hn (fun k => ih k h) (fun k => by cases k) ⟨fun x h1 h2 => (by subst h1; cases h2), fun h => (by cases h)⟩
  | case12 => intro _ h; rw [weakO] at h <;> first | exact h.1.elim | assumption

theorem Holds.weaken {ρ : Rho} {tm tm' : List SV} {ob ob' : List SO} {a : Act} {w : World} (H : Holds W0 ρ tm ob a w) {kn : Nat} (hkn : W0.ob.length ≤ kn) (hkl : kn ≤ ob.length) (ht : Ok (weakT tm tm')) (ho : Ok (weakO kn ob ob')) (hc : closedB tm' ob' = true) : Holds W0 ρ tm' ob' a w ∧ kn ≤ ob'.length := by
  obtain ⟨h1, h2⟩ := weakT_sound ht
  obtain ⟨k1, k2, k3⟩ := weakO_sound _ _ _ hkl ho
  simp only [closedB, Bool.and_eq_true, List.all_eq_true] at hc
  obtain ⟨⟨c1, c2⟩, c3⟩ := hc
  have old : ∀ i, live ob' i → live ob i := by
    rintro i ⟨x', hi, hx⟩
    obtain ⟨x, h0, hb⟩ := k2 i x' hi hx
    exact ⟨x, h0, hb.1⟩
  refine ⟨⟨H.size.trans h1, fun t => weakV_sound (h2 t) _ (H.rep t), fun t => ?_, H.defers, H.below, ⟨fun i x' hi hx => ?_, fun i j hi hj hij => H.mem.injs _ _ (old i hi) (old j hj) hij, fun b o v hv => ⟨(H.mem.frz b o v hv).1, fun i hi => (H.mem.frz b o v hv).2 i (old i hi)⟩⟩, ⟨fun i hi => ?_, fun i hi => ?_, by omega⟩, H.gl, H.fzs⟩, k1⟩
  · have hs := weakV_soft (h2 t) (H.bnd t)
    rcases Nat.lt_or_ge t tm'.length with hlt | hge
    · have := c1 tm'[t] (List.getElem_mem hlt)
      simp only [List.getD_eq_getElem?_getD, List.getElem?_eq_getElem hlt, Option.getD_some] at hs ⊢
      exact SV.bnd_re (E := lv ρ ob) (m := lv ρ ob') (fun _ => liveB_iff) (fun _ _ _ h => h) hs this
    · simp only [List.getD_eq_getElem?_getD, List.getElem?_eq_none hge, Option.getD_none]
      trivial
  · obtain ⟨x, h0, hb1, hb2, hb3, hb4, hb5⟩ := k2 i x' hi hx
    obtain ⟨a1, ⟨rest, hr, a2⟩, a3⟩ := H.mem.objs i x h0 hb1
    rw [hb4 ρ, hb2] at a2
    refine ⟨a1, ⟨rest, hr.trans hb3, a2⟩, ?_⟩
    have hs := hb5 _ a3
    cases x' with
    | cells e ks sp =>
      refine ⟨fun k hk => ?_, fun k hk => ?_⟩
      · have := c2 (.cells e ks sp) (List.mem_of_getElem? hi)
        simp only [obB, List.all_eq_true] at this
        exact SK.bnd_re (E := lv ρ ob) (m := lv ρ ob') (fun _ => liveB_iff) (fun _ _ _ h => h) (hs k hk) (this k hk)
      · have := c3 (.cells e ks sp) (List.mem_of_getElem? hi)
        simp only [List.all_eq_true] at this
        exact this k hk
    | row e w n g sp => exact hs
    | gone => cases hx
    | dead => cases hx
  · have hlt : i < kn := by
      obtain ⟨x, h, _⟩ := hi
      have := ob_lt h; omega
    rcases H.kept.1 i hi with ⟨⟨x, q1, qh⟩, q2⟩ | q
    · rcases (k3 i hlt).1 x q1 qh with q | q
      · exact .inl ⟨q, q2⟩
      · exact .inr q
    · exact .inr ((k3 i hlt).2 q)
  · have hlt := ob_lt hi
    exact (k3 i (by omega)).2 (H.kept.2.1 i hi)

theorem splitAll_sound {kd : IntKind} {t : Nat} {K : List SV → List SO → Prop} {tm : List SV} {ob : List SO} : ∀ {k j : Nat}, splitAll kd (j : Int) t K tm ob k → j ≤ k → K (tm.set t (.one (.sc (.num kd (j : Int))))) ob
  | 0, j, h, hj => by
    have : j = 0 := by omega
    subst this
    exact h rfl
  | k + 1, j, h, hj => by
    rcases Nat.lt_or_ge j (k + 1) with hlt | hge
    · exact splitAll_sound h.1 (by omega)
    · have : j = k + 1 := by omega
      subst this
      exact h.2 rfl
theorem splitK_sound {ρ : Rho} {tm : List SV} {ob : List SO} {a : Act} {w : World} (H : Holds W0 ρ tm ob a w) {sp : Option (Nat × Nat)} {K : List SV → List SO → Prop} (h : splitK sp K tm ob) : ∃ tm', Holds W0 ρ tm' ob a w ∧ K tm' ob := by
  unfold splitK at h
  split at h
  · exact ⟨tm, H, h⟩
  · rename_i t k
    split at h
    · rename_i kd n hn
      obtain ⟨⟨h0, h1⟩, h⟩ := h
      obtain ⟨j, rfl⟩ := Int.eq_ofNat_of_zero_le h0
      refine ⟨tm.set t (.one (.sc (.num kd (j : Int)))), ?_, splitAll_sound h (by omega)⟩
      have hr := H.rep t
      rw [hn] at hr
      refine ⟨by rw [List.length_set]; exact H.size, fun u => ?_, fun u => ?_, H.defers, H.below, H.mem, H.kept, H.gl, H.fzs⟩
      · have hu := H.rep u
        simp only [List.getD_eq_getElem?_getD, List.getElem?_set] at hu ⊢
        by_cases e : t = u
        · subst e
          by_cases hl : t < tm.length
          · simp only [hl, if_true, Option.getD_some]; exact hr
          · simp only [hl, if_true, if_false, Option.getD_none]; exact trivial
        · simp only [e, if_false]; exact hu
      · have hu := H.bnd u
        simp only [List.getD_eq_getElem?_getD, List.getElem?_set] at hu ⊢
        by_cases e : t = u
        · subst e
          by_cases hl : t < tm.length
          · simp only [hl, if_true, Option.getD_some]; exact trivial
          · simp only [hl, if_true, if_false, Option.getD_none]; exact trivial
        · simp only [e, if_false]; exact hu
    · exact ⟨tm, H, h⟩

theorem sxLoop_sound {c : Code} {body : List SV → List SO → (Exit → List SV → List SO → Prop) → Prop} 
    (hbody : ∀ {ρ : Rho} {tm : List SV} {ob : List SO} {a : Act} {w : World} {K : Exit → List SV → List SO → Prop} {Q : Exit → Act → World → Prop}, Holds W0 ρ tm ob a w → body tm ob K → (∀ e ρ tm ob a w, Holds W0 ρ tm ob a w → K e tm ob → Q e a w) → c.wp P Q a w)
    {K : Exit → List SV → List SO → Prop} {Q : Exit → Act → World → Prop} (hK : ∀ e ρ tm ob a w, Holds W0 ρ tm ob a w → K e tm ob → Q e a w) :
    ∀ (n : Nat) {ρ : Rho} {tm : List SV} {ob : List SO} {a : Act} {w : World}, Holds W0 ρ tm ob a w → sxLoop body K n tm ob → Code.rounds P c Q n a w
  | 0, _, _, _, _, _, _, h => h.no
  | n + 1, ρ, tm, ob, a, w, H, h => by
    rw [rounds_succ]
    refine hbody H h fun e ρ' tm' ob' a' w' H' h' => ?_
    cases e <;> first
      | exact sxLoop_sound hbody hK n H' h'
      | exact hK _ ρ' tm' ob' a' w' H' h'

theorem allOf_mem : ∀ {l : List Nat} {f : Nat → Prop}, allOf l f → ∀ i ∈ l, f i
  | [], _, _, i, hi => by simp at hi
  | [j], f, h, i, hi => by simp only [List.mem_singleton] at hi; subst hi; exact h
  | j :: k :: r, f, h, i, hi => by
    rcases List.mem_cons.1 hi with rfl | hi
    · exact h.1
    · exact allOf_mem h.2 i hi
theorem anyRuns_sound {cx : Cx} (hcx : CxOK P cx) (hat : CxAt cx W0) {inl : Inl} (hin : InlOK P cx.gl inl) {ops : Array Oper} {Q : Exit → Act → World → Prop} {K : List SV → List SO → Prop} (hK : ∀ ρ tm ob a w, Holds W0 ρ tm ob a w → K tm ob → Q .normal a w) :
    ∀ (fuel : Nat) (listed : Array Bool) (ρ : Rho) (tm : List SV) (ob : List SO) (a : Act) (w : World), Holds W0 ρ tm ob a w → anyRuns P cx inl ops K fuel listed tm ob → wpAny P .any ops Q fuel listed a w
  | 0, listed, ρ, tm, ob, a, w, H, h => by
    simp only [anyRuns] at h
    split at h
    · rename_i hr
      exact ⟨hr, hK ρ tm ob a w H h⟩
    · exact h.no
  | fuel + 1, listed, ρ, tm, ob, a, w, H, h => by
    simp only [anyRuns] at h
    split at h
    · rename_i hr
      exact ⟨fun _ => hK ρ tm ob a w H h, fun i hi => by rw [hr] at hi; simp at hi⟩
    · rename_i hr
      refine ⟨fun hr' => absurd hr' (by simpa using hr), fun i hi => ?_⟩
      have hi' := allOf_mem h i hi
      unfold wpOp
      cases ho : ops[i]? with
      | none =>
        rw [ho] at hi'
        exact hi'.no
      | some o =>
        rw [ho] at hi'
        exact runs_step hcx hat hin H hi' fun ρ' tm' ob' a' w' H' h' => anyRuns_sound hcx hat hin hK fuel _ ρ' tm' ob' a' w' H' h'
theorem Holds.drawnOne {ρ : Rho} {tm : List SV} {ob : List SO} {a : Act} {w : World} (H : Holds W0 ρ tm ob a w) : Holds W0 ρ tm ob a { w with drawn := w.drawn + 1 } :=
  ⟨H.size, H.rep, H.bnd, H.defers, Below.drew H.below, ⟨H.mem.objs, H.mem.injs, H.mem.frz⟩, H.kept, H.gl, H.fzs⟩
theorem plainR_runs {cx : Cx} {inl : Inl} {ops : Array Oper} {K : List SV → List SO → Prop} : ∀ {l : List Oper} {i : Nat} {tm : List SV} {ob : List SO} {ps : List Prop} {t : List SV} {o : List SO}, plainR P cx ops i l tm ob = some (ps, t, o) → Ok ps → K t o → runs P cx inl ops false i l tm ob K
  | [], i, tm, ob, ps, t, o, h, _, hK => by
    simp only [plainR, Option.some.injEq, Prod.mk.injEq] at h
    obtain ⟨_, rfl, rfl⟩ := h
    exact hK
  | op :: r, i, tm, ob, ps, t, o, h, hp, hK => by
    simp only [plainR] at h
    split at h
    · cases h
    · rename_i hsp
      split at h
      · rename_i p1 sv ob' hs
        split at h
        · rename_i q1 t' o' hr
          simp only [Option.some.injEq, Prod.mk.injEq] at h
          obtain ⟨rfl, rfl, rfl⟩ := h
          obtain ⟨h1, h2⟩ := Ok.append.1 hp
          simp only [runs, hsp, hs]
          exact ands_iff.2 ⟨h1, plainR_runs hr h2 hK⟩
        · cases h
      · cases h
theorem plainC_sx {cx : Cx} {inl : Inl} {dr : Drawn} {iv : List (Nat × Hint)} {N kf kn : Nat} : ∀ (c : Code) {tm : List SV} {ob : List SO} {ps : List Prop} {t : List SV} {o : List SO} {K : Exit → List SV → List SO → Prop}, plainC P cx iv kf c tm ob = some (ps, t, o) → Ok ps → K .normal t o → sx P cx inl dr iv N kf kn c tm ob K
  | .skip, tm, ob, ps, t, o, K, h, _, hK => by
    simp only [plainC, Option.some.injEq, Prod.mk.injEq] at h
    obtain ⟨_, rfl, rfl⟩ := h
    exact hK
  | .region id ops false, tm, ob, ps, t, o, K, h, hp, hK => by
    simp only [plainC] at h
    split at h
    · rename_i hsp
      simp only [sx, hsp]
      exact plainR_runs h hp hK
    · cases h
  | .seq x y, tm, ob, ps, t, o, K, h, hp, hK => by
    simp only [plainC] at h
    split at h
    · rename_i p1 t1 o1 hx
      split at h
      · rename_i q1 t2 o2 hy
        simp only [Option.some.injEq, Prod.mk.injEq] at h
        obtain ⟨rfl, rfl, rfl⟩ := h
        obtain ⟨h1, h2⟩ := Ok.append.1 hp
        simp only [sx]
        exact plainC_sx x hx h1 (plainC_sx y hy h2 hK)
      · cases h
    · cases h
  | .region _ _ true, _, _, _, _, _, _, h, _, _ | .label _, _, _, _, _, _, _, h, _, _ | .exit _, _, _, _, _, _, _, h, _, _ | .ret, _, _, _, _, _, _, h, _, _ | .cond _ _ _, _, _, _, _, _, _, h, _, _ | .block _ _, _, _, _, _, _, _, h, _, _ | .loop _, _, _, _, _, _, _, h, _, _ | .rangeFunc .., _, _, _, _, _, _, h, _, _ | .scope _, _, _, _, _, _, _, h, _, _ | .goto _, _, _, _, _, _, _, h, _, _ | .refuse _, _, _, _, _, _, _, h, _, _ => by simp [plainC] at h
theorem sx_sound {cx : Cx} (hcx : CxOK P cx) (hat : CxAt cx W0) {inl : Inl} (hin : InlOK P cx.gl inl) {dr : Drawn} (hdr : DrawnOK P cx dr) {iv : List (Nat × Hint)} {N kf kn : Nat} (hkn : W0.ob.length = kn) : ∀ (c : Code) {ρ : Rho} {tm : List SV} {ob : List SO} {a : Act} {w : World} {K : Exit → List SV → List SO → Prop} {Q : Exit → Act → World → Prop},
    Holds W0 ρ tm ob a w → sx P cx inl dr iv N kf kn c tm ob K → (∀ e ρ tm ob a w, Holds W0 ρ tm ob a w → K e tm ob → Q e a w) → c.wp P Q a w
  | .skip, ρ, tm, ob, a, w, K, Q, H, h, hK => wp_skip (hK _ ρ tm ob a w H h)
  | .label _, ρ, tm, ob, a, w, K, Q, H, h, hK => wp_label (hK _ ρ tm ob a w H h)
  | .exit id, ρ, tm, ob, a, w, K, Q, H, h, hK => wp_exit (hK _ ρ tm ob a w H h)
  | .ret, ρ, tm, ob, a, w, K, Q, H, h, hK => wp_ret (hK _ ρ tm ob a w H h)
  | .region id ops draw, ρ, tm, ob, a, w, K, Q, H, h, hK => by
    simp only [sx] at h
    have hK' : ∀ ρ tm ob a w, Holds W0 ρ tm ob a w → splitK (getSplit iv (kf + id)) (K .normal) tm ob → Q .normal a w := by
      intro ρ tm ob a w H h
      obtain ⟨tm', H', h'⟩ := splitK_sound H h
      exact hK _ ρ tm' ob a w H' h'
    split at h
    · exact wp_region_list (runs_sound hcx hat hin hK' H h)
    · split at h
      · rename_i hd
        exact hdr cx.kn _ _ _ _ hd hin hat H h hK'
      · split at h
        · rename_i hm
          exact wp_region_any hm (anyRuns_sound hcx hat hin hK' _ _ ρ tm ob a _ H.drawnOne h)
        · exact h.no
  | .seq x y, ρ, tm, ob, a, w, K, Q, H, h, hK => by
    simp only [sx] at h
    refine wp_seq (sx_sound hcx hat hin hdr hkn x H h fun e ρ' tm' ob' a' w' H' h' => ?_)
    cases e <;> first
      | exact sx_sound hcx hat hin hdr hkn y H' h' hK
      | exact hK _ ρ' tm' ob' a' w' H' h'
  | .cond c x y, ρ, tm, ob, a, w, K, Q, H, h, hK => by
    simp only [sx] at h
    split at h
    · rename_i ps hc
      obtain ⟨hp, h⟩ := ands_iff.1 h
      exact wp_cond_true (rd_sound hc hp H).1 (sx_sound hcx hat hin hdr hkn x H h hK)
    · rename_i ps hc
      obtain ⟨hp, h⟩ := ands_iff.1 h
      exact wp_cond_false (rd_sound hc hp H).1 (sx_sound hcx hat hin hdr hkn y H h hK)
    · rename_i ps b hc
      split at h
      · rename_i p1 p2 tm' ob' hm
        obtain ⟨hp, hx, hy, hk⟩ := ands_iff.1 h
        unfold mergeOf at hm
        split at hm
        case h_2 => cases hm
        split at hm
        case h_2 => cases hm
        rename_i ps1 t1 o1 qs1 t2 o2 e1 e2
        split at hm
        case h_2 => cases hm
        rename_i hcl
        simp only [Option.some.injEq, Prod.mk.injEq] at hm
        obtain ⟨rfl, rfl, rfl, rfl⟩ := hm
        have hle : ∀ {ρ : Rho} {tm : List SV} {ob : List SO} {a : Act} {w : World}, Holds W0 ρ tm ob a w → kn ≤ ob.length := fun H => by have := H.kept.2.2; omega
        refine wp_cond_split (rd_sound hc hp H).1 (fun e => ?_) (fun e => ?_)
        · obtain ⟨k1, k23⟩ := Ok.append.1 (okAll_iff (hx e))
          obtain ⟨k2, k3⟩ := Ok.append.1 k23
          refine sx_sound hcx hat hin hdr hkn x H (plainC_sx (inl := inl) (dr := dr) (iv := iv) (N := N) (kf := kf) (kn := kn) (K := fun e t o => e = .normal ∧ t = t1 ∧ o = o1) x e1 k1 ⟨rfl, rfl, rfl⟩) fun e ρ' t o a' w' H' h' => ?_
          obtain ⟨rfl, rfl, rfl⟩ := h'
          exact hK _ _ _ _ _ _ (H'.weaken (by omega) (hle H') k2 k3 hcl).1 hk
        · obtain ⟨k1, k23⟩ := Ok.append.1 (okAll_iff (hy e))
          obtain ⟨k2, k3⟩ := Ok.append.1 k23
          refine sx_sound hcx hat hin hdr hkn y H (plainC_sx (inl := inl) (dr := dr) (iv := iv) (N := N) (kf := kf) (kn := kn) (K := fun e t o => e = .normal ∧ t = t2 ∧ o = o2) y e2 k1 ⟨rfl, rfl, rfl⟩) fun e ρ' t o a' w' H' h' => ?_
          obtain ⟨rfl, rfl, rfl⟩ := h'
          exact hK _ _ _ _ _ _ (H'.weaken (by omega) (hle H') k2 k3 hcl).1 hk
      · obtain ⟨hp, h⟩ := ands_iff.1 h
        exact wp_cond_split (rd_sound hc hp H).1 (fun e => sx_sound hcx hat hin hdr hkn x H (h.1 e) hK) (fun e => sx_sound hcx hat hin hdr hkn y H (h.2 e) hK)
    · exact h.no
  | .block id x, ρ, tm, ob, a, w, K, Q, H, h, hK => by
    simp only [sx] at h
    refine wp_block (sx_sound hcx hat hin hdr hkn x H h fun e ρ' tm' ob' a' w' H' h' => ?_)
    cases e with
    | exit i =>
      simp only at h'
      simp only [Exit.inBlock]
      split at h'
      · rename_i e; rw [if_pos (Nat.eq_of_beq_eq_true e)]; exact hK _ ρ' tm' ob' a' w' H' h'
      · rename_i e; rw [if_neg (Nat.ne_of_beq_eq_false e)]; exact hK _ ρ' tm' ob' a' w' H' h'
    | _ => exact hK _ ρ' tm' ob' a' w' H' h'
  | .loop x, ρ, tm, ob, a, w, K, Q, H, h, hK => by
    simp only [sx] at h
    split at h
    · exact wp_loop_rounds N (sxLoop_sound (fun H h hK => sx_sound hcx hat hin hdr hkn x H h hK) hK N H h)
    · rename_i L _
      obtain ⟨hcl, y, hy, h⟩ := h
      obtain ⟨ht, h⟩ := ands_iff.1 h
      obtain ⟨ho, hround⟩ := ands_iff.1 h
      have hle : ∀ {ρ : Rho} {tm : List SV} {ob : List SO} {a : Act} {w : World}, Holds W0 ρ tm ob a w → kn ≤ ob.length := fun H => by have := H.kept.2.2; omega
      refine wp_loop_ghost (fun n a w => ∃ y ρ, L.less y = n ∧ L.holds y ∧ Holds W0 ρ (L.tm y) (L.ob y) a w) (L.less y) ⟨y, ρ, rfl, hy, (H.weaken (by omega) (hle H) ht ho (hcl y)).1⟩ ?_
      rintro n a w ⟨y, ρ, rfl, hy, H⟩
      refine sx_sound hcx hat hin hdr hkn x H (hround y hy) fun e ρ' tm' ob' a' w' H' h' => ?_
      cases e <;> first
        | (obtain ⟨y', hy', h'⟩ := h'
           obtain ⟨ht', h'⟩ := ands_iff.1 h'
           obtain ⟨ho', hlt⟩ := ands_iff.1 h'
           exact ⟨_, hlt, y', ρ', rfl, hy', (H'.weaken (by omega) (hle H') ht' ho' (hcl y')).1⟩)
        | exact hK _ ρ' tm' ob' a' w' H' h'
  | .rangeFunc .., _, _, _, _, _, _, _, _, h, _ | .scope _, _, _, _, _, _, _, _, _, h, _ | .goto _, _, _, _, _, _, _, _, _, h, _ | .refuse _, _, _, _, _, _, _, _, _, h, _ => by simp only [sx] at h; exact h.no

/-! ## A call -/

def resL (P : Program) (tm : List SV) (ob : List SO) : List ResultVar → Option (List SA)
  | [] => some []
  | .tmp t :: r =>
    match ev tm (.tmp t), resL P tm ob r with
    | .one x, some xs => some (x :: xs)
    | _, _ => none
  | .cell t ty :: r =>
    match ev tm (.tmp t), resL P tm ob r with
    | .one x, some xs => match semLoad P [] ob ty x with
      | some ([], z) => some (z :: xs)
      | _ => none
    | _, _ => none
def resV : List SA → SV
  | [x] => .one x
  | xs => .tup xs
/-- What a call comes to at its end. -/
def ret (P : Program) (rs : List ResultVar) (post : SV → List SO → Prop) : Exit → List SV → List SO → Prop
  | .ret, tm, ob | .normal, tm, ob =>
    match resL P tm ob rs with
    | some xs => post (resV xs) ob
    | none => StuckAt "results"
  | _, _, _ => StuckAt "exit"

theorem resL_sound {ρ : Rho} {tm : List SV} {ob : List SO} {a : Act} {w : World} (H : Holds W0 ρ tm ob a w) : ∀ {rs : List ResultVar} {xs : List SA}, resL P tm ob rs = some xs →
    (rs.mapM (fun
      | .tmp t => pure (a.tmps.getD t undef)
      | .cell c t => do loadVar t (← asAddr (a.tmps.getD c undef))) : Sem (List Value)).run P w = .ok (xs.map (SA.conc ρ)) w ∧ ∀ x ∈ xs, x.bnd (lv ρ ob)
  | [], xs, h => by simp only [resL, Option.some.injEq] at h; subst h; simp
  | .tmp t :: r, xs, h => by
    simp only [resL] at h
    split at h
    · rename_i x xs' h1 h2
      simp only [Option.some.injEq] at h; subst h
      have hr := (H.ev (.tmp t)).1
      have hb := (H.ev (.tmp t)).2
      rw [h1] at hr hb
      simp only [SV.rep, Act.eval] at hr
      obtain ⟨ih, ihb⟩ := resL_sound H h2
      refine ⟨by simp only [List.mapM_cons, Sem.run_bind, Sem.run_pure, Result.andThen_ok, hr, ih, List.map_cons], fun y hy => ?_⟩
      rcases List.mem_cons.1 hy with rfl | hy
      · exact hb
      · exact ihb y hy
    · cases h
  | .cell t ty :: r, xs, h => by
    simp only [resL] at h
    split at h
    · rename_i x xs' h1 h2
      split at h
      · rename_i z hz
        simp only [Option.some.injEq] at h; subst h
        have hr := (H.ev (.tmp t)).1
        rw [h1] at hr
        simp only [SV.rep, Act.eval] at hr
        obtain ⟨e, hb⟩ := semLoad_sound (P := P) H (x := x) (by have := (H.ev (.tmp t)).2; rw [h1] at this; exact this) hz (.inl rfl) trivial
        obtain ⟨ad, hx⟩ : ∃ ad, x.conc ρ = .pointer (some ad) := by
          unfold semLoad at hz
          split at hz
          · exact ⟨_, rfl⟩
          · exact ⟨_, rfl⟩
          · exact ⟨_, rfl⟩
          · exact ⟨_, rfl⟩
          · exact ⟨_, rfl⟩
          · cases hz
        rw [hx] at e hr
        simp only [Instr.loadAt, Instr.sureAddr, Sem.run_bind, Sem.run_pure, Result.andThen_ok] at e
        obtain ⟨ih, ihb⟩ := resL_sound H h2
        have hp : asAddr (a.tmps.getD t undef) = pure ad := by rw [hr]; rfl
        refine ⟨by simp only [List.mapM_cons, Sem.run_bind, Sem.run_pure, Result.andThen_ok, hp, ih, List.map_cons, e], fun y hy => ?_⟩
        rcases List.mem_cons.1 hy with rfl | hy
        · exact hb
        · exact ihb y hy
      · cases h
    · cases h
theorem results_sound {ρ : Rho} {tm : List SV} {ob : List SO} {a : Act} {w : World} (H : Holds W0 ρ tm ob a w) {fn : Func} {xs : List SA} (h : resL P tm ob fn.results.toList = some xs) :
    ∃ v, (results fn a.tmps).run P w = .ok v w ∧ (resV xs).rep ρ v ∧ (resV xs).bnd (lv ρ ob) := by
  obtain ⟨this, hb⟩ := resL_sound H h
  have e : (results fn a.tmps).run P w = .ok (if h : (xs.map (SA.conc ρ)).toArray.size = 1 then (xs.map (SA.conc ρ)).toArray[0] else .tuple (xs.map (SA.conc ρ)).toArray) w := by
    unfold results
    rw [Sem.run_bind, Array.mapM_eq_mapM_toList, Sem.run_map]
    erw [this]
    rfl
  rw [e]
  refine ⟨_, rfl, ?_, ?_⟩
  · match xs with
    | [] => simp [resV, SV.rep]
    | [x] => simp [resV, SV.rep]
    | x :: y :: r => simp [resV, SV.rep]
  · match xs, hb with
    | [], hb => exact hb
    | [x], hb => exact hb x (by simp)
    | x :: y :: r, hb => exact hb

/-- The slots as a call begins. -/
def slots0 (args : List SA) (n : Nat) : List SV := args.map .one ++ List.replicate (n - args.length) .any

theorem calls_of_sx {cx : Cx} (hcx : CxOK P cx) {inl : Inl} (hin : InlOK P cx.gl inl) {dr : Drawn} (hdr : DrawnOK P cx dr) (iv : List (Nat × Hint)) (N kf : Nat) {f : FuncId} {fn : Func} {c : Code} (hf : P.funcs[f]? = some fn) (hb : fn.body = some c) {Z : World} {ob : List SO} (args : List SA) (ρ : Rho) (hargs : ∀ x ∈ args, x.bnd (lv ρ ob)) (w : World)
    (hB : Below Z.heap.size Z w) (hm : Mem Z.heap.size ρ ob w) (hg : GlobsOK cx.gl ρ.fz) (hkn : ob.length ≤ cx.kn)
    (post : SV → List SO → Prop) {R : Ending → World → Prop} (hR : ∀ sv ob' ρ' v w', post sv ob' → sv.rep ρ' v → sv.bnd (lv ρ' ob') → Below Z.heap.size Z w' → Mem Z.heap.size ρ' ob' w' → Kept ⟨Z, ob, ρ, cx.gl⟩ ρ' ob' → (∀ b o v, ρ.fz b o v → ρ'.fz b o v) → R (.returned v) w')
    (h : sx P cx inl dr iv N kf ob.length c (slots0 args fn.ntmps) ob (ret P fn.results.toList post)) : Calls P f (args.map (SA.conc ρ)).toArray w R := by
  refine calls_of_wp hf hb ?_
  have H : Holds ⟨Z, ob, ρ, cx.gl⟩ ρ (slots0 args fn.ntmps) ob { tmps := (args.map (SA.conc ρ)).toArray ++ Array.replicate (fn.ntmps - (args.map (SA.conc ρ)).toArray.size) undef, defers := [] } w := by
    have get : ∀ t : Nat, (slots0 args fn.ntmps).getD t .any = match args[t]? with | some x => .one x | none => .any := by
      intro t
      simp only [slots0, List.getD_eq_getElem?_getD, List.getElem?_append, List.length_map, List.getElem?_map]
      by_cases ht : t < args.length
      · simp [ht]
      · simp only [ht, if_false, List.getElem?_replicate, List.getElem?_eq_none (Nat.le_of_not_lt ht)]
        split <;> rfl
    refine ⟨by simp [slots0], fun t => ?_, fun t => ?_, rfl, hB, hm, ⟨fun i hi => .inl ⟨hi, rfl⟩, fun i hi => hi, Nat.le_refl _⟩, hg, fun _ _ _ h => h⟩
    · rw [get t]
      cases ht : args[t]? with
      | none => trivial
      | some x =>
        obtain ⟨hlt, rfl⟩ := List.getElem?_eq_some_iff.1 ht
        simp [SV.rep, Array.getElem?_append, hlt]
    · rw [get t]
      cases ht : args[t]? with
      | none => trivial
      | some x => exact hargs x (List.mem_of_getElem? ht)
  refine sx_sound hcx ⟨rfl, hkn⟩ hin hdr rfl c H h fun e ρ' tm ob' a w' H' h' => ?_
  have fin : (match resL P tm ob' fn.results.toList with
      | some xs => post (resV xs) ob'
      | none => StuckAt "results") → a.defers = [] ∧ ∃ v, (results fn a.tmps).run P w' = .ok v w' ∧ R (.returned v) w' := by
    intro h'
    split at h'
    · rename_i xs hx
      obtain ⟨v, hv, hr, hbd⟩ := results_sound H' hx
      exact ⟨H'.defers, v, hv, hR _ ob' ρ' v w' h' hr hbd H'.below H'.mem H'.kept H'.fzs⟩
    · exact h'.no
  cases e with
  | ret => exact fin h'
  | normal => exact fin h'
  | _ => exact h'.no

/-- Calls run in place, d of them in one another. -/
def inlD (P : Program) (cx : Cx) (dr : Drawn) (iv : List (Nat × Hint)) (N : Nat) : Nat → Inl
  | 0 => noInl
  | d + 1 => fun f args ob k =>
    match P.funcs[f]? with
    | some fn =>
      match fn.body, fn.name == "runtime.NumGoroutine" with
      | some c, false => sx P { cx with kn := ob.length } (inlD P cx dr iv N d) dr iv N ((f + 1) * 100000) ob.length c (slots0 args fn.ntmps) ob (ret P fn.results.toList k)
      | _, _ => StuckAt "no text"
    | none => StuckAt "no function"

theorem run_callFunc_enter {P : Program} {f : Nat} {fn : Func} (hf : P.funcs[f]? = some fn) (hb : fn.body.isSome = true) (hn : (fn.name == "runtime.NumGoroutine") = false) (args : Array Value) (w : World) : (callFunc f args).run P w = .ok (.enter f args) w := by
  have hb' : fn.body.isNone = false := by cases h : fn.body <;> simp [h] at hb ⊢
  unfold callFunc
  rw [Sem.run_bind, run_program, Result.andThen_ok]
  simp only [hf, hn, hb', Bool.false_eq_true, if_false, Sem.run_pure]

theorem inlD_ok {cx : Cx} (hcx : CxOK P cx) {dr : Drawn} (hdr : DrawnOK P cx dr) (iv : List (Nat × Hint)) (N : Nat) : ∀ d, InlOK P cx.gl (inlD P cx dr iv N d)
  | 0 => noInl_ok P cx.gl
  | d + 1 => by
    intro f args ob k h Z ρ tm a w hz H hargs
    simp only [inlD] at h
    split at h
    case h_2 => exact h.no
    rename_i fn hf
    split at h
    case h_2 => exact h.no
    rename_i c hb hn
    refine ⟨run_callFunc_enter hf (by rw [hb]; rfl) hn _ w, ?_⟩
    refine calls_of_sx (cx := { cx with kn := ob.length }) hcx (inlD_ok hcx hdr iv N d) hdr iv N _ hf hb args ρ hargs w H.below H.mem (by rw [← hz]; exact H.gl) (Nat.le_refl _) k (fun sv ob' ρ' v w' hk hr hbd hB hm hkp hfz => ?_) h
    refine ⟨v, rfl, ρ', sv, ob', hk, hr, hbd, H.onto (fun i hi hi' => ?_) hfz hB hm ⟨fun i hi => ?_, fun i hi => hkp.2.1 i (H.kept.2.1 i hi), Nat.le_trans H.kept.2.2 hkp.2.2⟩⟩
    · rcases hkp.1 i hi with ⟨_, e⟩ | e
      · exact e
      · obtain ⟨_, h', hh⟩ := hi'; rw [e] at h'; cases h'; cases hh
    · rcases H.kept.1 i hi with ⟨k1, k2⟩ | k1
      · rcases hkp.1 i k1 with ⟨q1, q2⟩ | q
        · exact .inl ⟨q1, Eq.trans q2 k2⟩
        · exact .inr q
      · exact .inr (hkp.2.1 i k1)
end

end Go.Sx
end

section
/-
  A calculus of symbolic states for walks over translated Go code, part 11: a region that draws its order.
-/
namespace Go.Sx
open Go.RowKit

/-! ## What an operation looks at -/

def tmpOf : Operand → Option Tmp
  | .tmp t => some t
  | _ => none
def names (ops : Array Oper) (o : Oper) : List Tmp :=
  o.op.operands.toList.filterMap tmpOf ++
  (match o.guard with
   | some (j, _) => ((ops[j]?).bind (·.dst)).toList
   | none => [])

theorem ev_congr {tm tm' : List SV} {x : Operand} (h : ∀ t, tmpOf x = some t → tm.getD t .any = tm'.getD t .any) : ev tm x = ev tm' x := by
  cases x with
  | tmp t => exact h t rfl
  | _ => rfl
theorem rdL_congr {tm tm' : List SV} : ∀ {xs : List Operand}, (∀ x ∈ xs, ev tm x = ev tm' x) → rdL tm xs = rdL tm' xs
  | [], _ => rfl
  | x :: r, h => by simp only [rdL, rd, h x (by simp), rdL_congr (xs := r) fun y hy => h y (by simp [hy])]
theorem rdP_congr {tm tm' : List SV} : ∀ {xs : List (Nat × Operand)}, (∀ x ∈ xs, ev tm x.2 = ev tm' x.2) → rdP tm xs = rdP tm' xs
  | [], _ => rfl
  | (i, x) :: r, h => by simp only [rdP, rd, h (i, x) (by simp), rdP_congr (xs := r) fun y hy => h y (by simp [hy])]
theorem rdO_congr {tm tm' : List SV} {x : Option Operand} (h : ∀ y, x = some y → ev tm y = ev tm' y) : rdO tm x = rdO tm' x := by
  cases x with
  | none => rfl
  | some y => simp only [rdO, rd, h y rfl]
theorem semVal_congr {P : Program} {tm tm' : List SV} {o : Oper} (h : ∀ x ∈ o.op.operands, ev tm x = ev tm' x) : semVal P tm o = semVal P tm' o := by
  unfold semVal
  split <;> rename_i ho <;> (try simp only [ho] at h)
  all_goals first
    | rfl
    | (have h1 := h _ (by simp [Op.operands]; exact .inl rfl); have h2 := h _ (by simp [Op.operands]; exact .inr rfl); simp only [rd2, rd1, rd, h1, h2]; done)
    | (have h1 := h _ (by simp [Op.operands]; rfl); simp only [rd1, rd, h1]; done)
    | (rename_i args ts
       rw [rdL_congr (tm := tm) (tm' := tm') (xs := args.toList) fun x hx => h x (by simp only [Op.operands, Call.operands]; simpa using hx)]
       done)
    | skip
  · rename_i c x y
    have h1 := h c (by simp [Op.operands]); have h2 := h x (by simp [Op.operands]); have h3 := h y (by simp [Op.operands])
    simp only [semPick, rd1, rd, h1, h2, h3]
  · rename_i t parts
    rw [rdP_congr (tm := tm) (tm' := tm')]
    intro p hp
    exact h p.2 (by simp only [Op.operands, List.mem_toArray, List.mem_map]; exact ⟨p, hp, rfl⟩)
  · rename_i t x lo hi mx
    have h1 := h x (by simp [Op.operands])
    have h2 : rdO tm lo = rdO tm' lo := rdO_congr fun y hy => h y (by subst hy; simp [Op.operands])
    have h3 : rdO tm hi = rdO tm' hi := rdO_congr fun y hy => h y (by subst hy; simp [Op.operands])
    have h4 : rdO tm mx = rdO tm' mx := rdO_congr fun y hy => h y (by subst hy; simp [Op.operands])
    simp only [rd, h1, h2, h3, h4]
  · rename_i f first caps
    rw [rdL_congr (tm := tm) (tm' := tm') (xs := caps.toList) fun x hx => h x (by simp only [Op.operands]; simp at hx ⊢; exact .inr hx)]
theorem semOp_congr {P : Program} {cx : Cx} {id : Nat} {tm tm' : List SV} {ob : List SO} {o : Oper} (h : ∀ x ∈ o.op.operands, ev tm x = ev tm' x) : semOp P cx id tm ob o = semOp P cx id tm' ob o := by
  have hv : semVal P tm o = semVal P tm' o := semVal_congr h
  unfold semOp
  split <;> rename_i ho <;> (try simp only [ho] at h)
  all_goals first
    | rfl
    | (rw [hv]; done)
    | (have h1 := h _ (by simp [Op.operands]; exact .inl rfl); have h2 := h _ (by simp [Op.operands]; exact .inr rfl); simp only [rd, h1, h2]; done)
    | (have h1 := h _ (by simp [Op.operands]; rfl); simp only [rd, h1]; done)
    | skip
  · rename_i t len parts
    rw [rdP_congr (tm := tm) (tm' := tm')]
    intro p hp
    exact h p.2 (by simp only [Op.operands, List.mem_toArray, List.mem_map]; exact ⟨p, hp, rfl⟩)
  · rename_i f args ts
    have h1 := h f (by simp [Op.operands, Call.operands])
    rw [rdL_congr (tm := tm) (tm' := tm') (xs := args.toList) fun x hx => h x (by simp only [Op.operands, Call.operands]; simp at hx ⊢; exact .inr hx)]
    simp only [calleeOf, rd, h1]
  · rename_i args ts
    rw [rdL_congr (tm := tm) (tm' := tm') (xs := args.toList) fun x hx => h x (by simp only [Op.operands, Call.operands]; simpa using hx)]
  · rename_i s d x
    have h1 := h x (by simp [Op.operands])
    simp only [rd, h1, hv]

theorem mem_names {ops : Array Oper} {o : Oper} {x : Operand} {t : Tmp} (hx : x ∈ o.op.operands) (ht : tmpOf x = some t) : t ∈ names ops o := by
  unfold names
  exact List.mem_append_left _ (List.mem_filterMap.2 ⟨x, by simpa using hx, ht⟩)
theorem semG_congr {P : Program} {cx : Cx} {ops : Array Oper} {id : Nat} {tm tm' : List SV} {ob : List SO} {o : Oper} (h : ∀ t ∈ names ops o, tm.getD t .any = tm'.getD t .any) : semG P cx ops id tm ob o = semG P cx ops id tm' ob o := by
  have ho : semOp P cx id tm ob o = semOp P cx id tm' ob o := semOp_congr fun x hx => ev_congr fun t ht => h t (mem_names hx ht)
  unfold semG
  split
  · exact ho
  · rename_i j want hg
    split
    · rfl
    · rename_i d hd
      have hdt : d ∈ names ops o := by unfold names; simp [hg, hd]
      simp only [guarded, ho, h d hdt]

/-- Which block an operation looks at: reads, turns, or makes. -/
def looks (id : Nat) (tm : List SV) (o : Oper) : Option Nat :=
  match o.op with
  | .load _ x | .store _ x _ | .convert _ _ x => match rd tm x with
    | some (_, .sc (.ptr k _)) | some (_, .sc (.pti k _ _ _)) | some (_, .sc (.sl k _ _ _)) | some (_, .sc (.sls k _ _ _ _)) | some (_, .sc (.ptw k _ _ _)) | some (_, .sc (.slw k _ _ _ _)) => some k
    | _ => none
  | .alloc _ | .box .. | .buildSlice .. | .makeSlice .. => some id
  | .call { callee := .builtin .copy, args, .. } => match rdL tm args.toList with
    | some (_, [.sc (.sl k _ _ _), _]) => some k
    | _ => none
  | _ => none

def wr {α : Type} (l : List α) (w : Option (Nat × α)) : List α :=
  match w with
  | some (k, x) => l.set k x
  | none => l
def key {α : Type} (w : Option (Nat × α)) : Option Nat := w.map (·.1)
theorem wr_length {α : Type} (l : List α) (w : Option (Nat × α)) : (wr l w).length = l.length := by
  unfold wr; split <;> simp

def blockOf : SA → Option Nat
  | .sc (.ptr k _) | .sc (.pti k _ _ _) | .sc (.sl k _ _ _) | .sc (.sls k _ _ _ _) | .sc (.ptw k _ _ _) | .sc (.slw k _ _ _ _) => some k
  | _ => none
theorem semStore_wr {P : Program} {ob ob1 ob2 : List SO} {t : TypeId} {x y : SA} {ps : List Prop} (h : semStore P ob t x y = some (ps, ob1)) (hl : ∀ k, blockOf x = some k → ob2[k]? = ob[k]?) :
    ∃ k z, blockOf x = some k ∧ k < ob.length ∧ ob1 = ob.set k z ∧ semStore P ob2 t x y = some (ps, ob2.set k z) := by
  unfold semStore at h ⊢
  split at h
  · rename_i k off
    split at h
    · rename_i e ks sp hk
      split at h
      · rename_i hc
        obtain ⟨r, hr, he⟩ := Option.map_eq_some_iff.1 h
        simp only [Prod.mk.injEq] at he
        obtain ⟨rfl, rfl⟩ := he
        refine ⟨k, _, rfl, ob_lt hk, rfl, ?_⟩
        simp only [hl k rfl, hk]
        rw [if_pos hc, hr]
        rfl
      · cases h
    · cases h
  · rename_i k base len i
    split at h
    · rename_i e ks sp kd v hk hv
      split at h
      · rename_i hc
        obtain ⟨r, hr, he⟩ := Option.map_eq_some_iff.1 h
        simp only [Prod.mk.injEq] at he
        obtain ⟨rfl, rfl⟩ := he
        refine ⟨k, _, rfl, ob_lt hk, rfl, ?_⟩
        simp only [hl k rfl, hk, hv]
        rw [if_pos hc, hr]
        rfl
      · cases h
    · cases h
  · rename_i k w i c
    split at h
    · rename_i e w' n g sp hk
      split at h
      · rename_i hc
        simp only [Option.some.injEq, Prod.mk.injEq] at h
        obtain ⟨rfl, rfl⟩ := h
        refine ⟨k, _, rfl, ob_lt hk, rfl, ?_⟩
        simp only [hl k rfl, hk]
        rw [if_pos hc]
      · cases h
    · cases h
  · cases h
theorem semLoad_wr {P : Program} {gl : Globs} {ob ob2 : List SO} {t : TypeId} {x : SA} (hl : ∀ k, blockOf x = some k → ob2[k]? = ob[k]?) : semLoad P gl ob2 t x = semLoad P gl ob t x := by
  unfold semLoad
  split
  · rw [hl _ rfl]
  · rw [hl _ rfl]
  · rw [hl _ rfl]
  · rfl
  · rfl
  · rfl
theorem semStr_wr {ob ob2 : List SO} {x : SA} (hl : ∀ k, blockOf x = some k → ob2[k]? = ob[k]?) : semStr ob2 x = semStr ob x := by
  unfold semStr
  split
  · rw [hl _ rfl]
  · rfl
  · rw [hl _ rfl]
  · rw [hl _ rfl]
  · rfl
theorem semCpy_wr {P : Program} {ob ob1 ob2 : List SO} {ts : List TypeId} {s x z : SA} (h : semCpy P ob ts s x = some (z, ob1)) (hl : ∀ k, blockOf s = some k → ob2[k]? = ob[k]?) :
    ∃ k y off n cap, s = .sc (.sl k off n cap) ∧ k < ob.length ∧ ob1 = ob.set k y ∧ semCpy P ob2 ts s x = some (z, ob2.set k y) := by
  unfold semCpy at h ⊢
  split at h
  case h_2 => cases h
  rename_i t ts' o off n cap b
  split at h
  case h_2 => cases h
  rename_i e hu
  split at h
  case h_2 => cases h
  rename_i ie e' ks sp hie ho
  split at h
  case isFalse => cases h
  rename_i hsz
  split at h
  case h_2 => cases h
  rename_i cs hcs
  split at h
  case isFalse => cases h
  rename_i ha
  obtain ⟨r, hr, he⟩ := Option.map_eq_some_iff.1 h
  simp only [Prod.mk.injEq] at he
  obtain ⟨rfl, rfl⟩ := he
  refine ⟨o, _, off, n, cap, rfl, ob_lt ho, rfl, ?_⟩
  simp only [hie, hl o rfl, ho]
  rw [if_pos hsz]
  simp only [hcs]
  rw [if_pos ha, hr]
  rfl
theorem looks_block {tm : List SV} {x : Operand} {ps : List Prop} {y : SA} (hy : rd tm x = some (ps, y)) : (match rd tm x with
    | some (_, .sc (.ptr k _)) | some (_, .sc (.pti k _ _ _)) | some (_, .sc (.sl k _ _ _)) | some (_, .sc (.sls k _ _ _ _)) | some (_, .sc (.ptw k _ _ _)) | some (_, .sc (.slw k _ _ _ _)) => some k
    | _ => none) = blockOf y := by
  rw [hy]
  cases y with
  | agg ks => rfl
  | sc c => cases c <;> rfl
theorem place_wr {ob ob1 ob2 : List SO} {id : Nat} {x : SO} (h : place ob id x = some ob1) (hid : id < ob.length) (hl : ob2[id]? = ob[id]?) : ob1 = ob.set id x ∧ place ob2 id x = some (ob2.set id x) := by
  unfold place at h ⊢
  split at h
  · rename_i hn; rw [List.getElem?_eq_none_iff] at hn; omega
  · rename_i hn
    simp only [Option.some.injEq] at h
    exact ⟨h.symm, by rw [hl, hn]⟩
  · cases h
  · cases h
  · cases h
theorem semMakeW_wr {P : Program} {ob ob1 : List SO} {id : Nat} {e : TypeId} {x y : Int} {ps : List Prop} {k : Nat} (h : semMakeW P ob id e x y = some (ps, k, ob1)) (hid : id < ob.length) :
    ∃ z, ob1 = ob.set id z ∧ ∀ ob2 : List SO, ob2[id]? = ob[id]? → semMakeW P ob2 id e x y = some (ps, k, ob2.set id z) := by
  unfold semMakeW at h ⊢
  split at h
  case h_2 => cases h
  split at h
  case isFalse => cases h
  rename_i hc
  obtain ⟨ob', hp, he⟩ := Option.map_eq_some_iff.1 h
  simp only [Prod.mk.injEq] at he
  obtain ⟨rfl, rfl, rfl⟩ := he
  refine ⟨_, (place_wr hp hid rfl).1, fun ob2 hl => ?_⟩
  rw [if_pos hc, (place_wr hp hid hl).2]
  rfl

theorem semOp_ob {P : Program} {cx : Cx} {id : Nat} {tm : List SV} {ob ob1 : List SO} {o : Oper} {ps : List Prop} {sv : SV} (h : semOp P cx id tm ob o = some (ps, sv, ob1)) (hid : isNew o.op = true → id < ob.length) :
    ∃ w, ob1 = wr ob w ∧ (∀ k, key w = some k → eff o.op = true ∧ looks id tm o = some k) ∧ ∀ ob2, (∀ k, looks id tm o = some k → ob2[k]? = ob[k]?) → semOp P cx id tm ob2 o = some (ps, sv, wr ob2 w) := by
  cases he : eff o.op with
  | false =>
    have hq := semOp_quiet h he
    subst hq
    refine ⟨none, rfl, fun k hk => (by cases hk), fun ob2 hl => ?_⟩
    unfold semOp at h ⊢
    split at h <;> rename_i ho <;> (try simp only [ho])
    all_goals first
      | (simp [eff, ho] at he; done)
      | (simp only [Option.some.injEq, Prod.mk.injEq, and_true, wr] at h ⊢; exact h)
      | skip
    · rename_i t x
      split at h
      · rename_i p1 y hy
        have hb : looks id tm o = blockOf y := by simp only [looks, ho]; exact looks_block hy
        rw [semLoad_wr (ob := ob1) (ob2 := ob2) fun k hk => hl k (by rw [hb]; exact hk)]
        obtain ⟨z, hz, e⟩ := Option.map_eq_some_iff.1 h
        simp only [Prod.mk.injEq] at e
        obtain ⟨rfl, rfl, _⟩ := e
        simp [hz, wr]
      · cases h
    · split at h
      · split at h
        · split at h
          · simp only [Option.some.injEq, Prod.mk.injEq, and_true, wr] at h ⊢; exact h
          · cases h
        · cases h
      · cases h
    · rename_i s d x
      split at h
      · rename_i hb
        split at h
        · rename_i p1 y hy
          have hbl : looks id tm o = blockOf y := by simp only [looks, ho]; exact looks_block hy
          rw [semStr_wr (ob := ob1) (ob2 := ob2) fun k hk => hl k (by rw [hbl]; exact hk)]
          obtain ⟨z, hz, e⟩ := Option.map_eq_some_iff.1 h
          simp only [Prod.mk.injEq] at e
          obtain ⟨rfl, rfl, _⟩ := e
          simp [hz, wr]
        · cases h
      · obtain ⟨z, hz, e⟩ := Option.map_eq_some_iff.1 h
        simp only [Prod.mk.injEq] at e
        obtain ⟨rfl, rfl, _⟩ := e
        simp [hz, wr]
    · obtain ⟨z, hz, e⟩ := Option.map_eq_some_iff.1 h
      simp only [Prod.mk.injEq] at e
      obtain ⟨rfl, rfl, _⟩ := e
      simp [hz, wr]
  | true =>
    unfold semOp at h ⊢
    split at h <;> rename_i ho
    all_goals first
      | (simp [eff, ho] at he; done)
      | skip
    · have hlk : looks id tm o = some id := by simp [looks, ho]
      have hid := hid (by simp [isNew, ho])
      split at h
      · split at h
        · rename_i hf
          obtain ⟨ob', hp, e⟩ := Option.map_eq_some_iff.1 h
          simp only [Prod.mk.injEq] at e
          obtain ⟨rfl, rfl, rfl⟩ := e
          refine ⟨some (id, _), (place_wr hp hid rfl).1, fun k hk => ⟨rfl, by rw [hlk]; exact hk⟩, fun ob2 hl => ?_⟩
          rw [if_pos hf, (place_wr hp hid (hl id hlk)).2]
          rfl
        · cases h
      · cases h
    · have hlk : looks id tm o = some id := by simp [looks, ho]
      have hid := hid (by simp [isNew, ho])
      split at h
      · split at h
        · rename_i hf
          obtain ⟨ob', hp, e⟩ := Option.map_eq_some_iff.1 h
          simp only [Prod.mk.injEq] at e
          obtain ⟨rfl, rfl, rfl⟩ := e
          refine ⟨some (id, _), (place_wr hp hid rfl).1, fun k hk => ⟨rfl, by rw [hlk]; exact hk⟩, fun ob2 hl => ?_⟩
          rw [if_pos hf, (place_wr hp hid (hl id hlk)).2]
          rfl
        · cases h
      · cases h
    · have hlk : looks id tm o = some id := by simp [looks, ho]
      have hid := hid (by simp [isNew, ho])
      split at h
      · split at h
        · split at h
          · rename_i hf
            obtain ⟨ob', hp, e⟩ := Option.map_eq_some_iff.1 h
            simp only [Prod.mk.injEq] at e
            obtain ⟨rfl, rfl, rfl⟩ := e
            refine ⟨some (id, _), (place_wr hp hid rfl).1, fun k hk => ⟨rfl, by rw [hlk]; exact hk⟩, fun ob2 hl => ?_⟩
            rw [if_pos hf, (place_wr hp hid (hl id hlk)).2]
            rfl
          · cases h
        · cases h
      · cases h
    · have hlk : looks id tm o = some id := by simp [looks, ho]
      have hid := hid (by simp [isNew, ho])
      split at h
      · split at h
        · split at h
          · rename_i hf
            obtain ⟨ob', hp, e⟩ := Option.map_eq_some_iff.1 h
            simp only [Prod.mk.injEq] at e
            obtain ⟨rfl, rfl, rfl⟩ := e
            refine ⟨some (id, _), (place_wr hp hid rfl).1, fun k hk => ⟨rfl, by rw [hlk]; exact hk⟩, fun ob2 hl => ?_⟩
            rw [if_pos hf, (place_wr hp hid (hl id hlk)).2]
            rfl
          · cases h
        · cases h
      · split at h
        · obtain ⟨⟨qs, k, ob'⟩, hm, e⟩ := Option.map_eq_some_iff.1 h
          simp only [Prod.mk.injEq] at e
          obtain ⟨rfl, rfl, rfl⟩ := e
          obtain ⟨z, e1, e2⟩ := semMakeW_wr hm hid
          refine ⟨some (id, z), e1, fun k hk => ⟨rfl, by rw [hlk]; exact hk⟩, fun ob2 hl => ?_⟩
          rw [e2 ob2 (hl id hlk)]
          rfl
        · cases h
      · cases h
    · rename_i t x y
      split at h
      · rename_i p1 xv p2 yv hx hy
        obtain ⟨r, hs, e⟩ := Option.map_eq_some_iff.1 h
        simp only [Prod.mk.injEq] at e
        obtain ⟨rfl, rfl, rfl⟩ := e
        have hbl : looks id tm o = blockOf xv := by simp only [looks, ho]; exact looks_block hx
        obtain ⟨k, z, hb, hk, e1, _⟩ := semStore_wr hs (ob2 := ob) (fun _ _ => rfl)
        refine ⟨some (k, z), e1, fun k' hk' => ⟨rfl, by rw [hbl, hb]; exact hk'⟩, fun ob2 hl => ?_⟩
        obtain ⟨k', z', hb', hk', e3, e4⟩ := semStore_wr hs (ob2 := ob2) (fun q hq => hl q (by rw [hbl]; exact hq))
        rw [hb] at hb'
        simp only [Option.some.injEq] at hb'
        subst hb'
        simp only [e4, Option.map_some, wr]
        -- the block written is the same one
        have : (ob.set k z)[k]? = (ob.set k z')[k]? := by rw [← e1, ← e3]
        simp [hk] at this
        rw [this]
      · cases h
    · rename_i args ts
      split at h
      · rename_i p1 sv xv hx
        obtain ⟨r, hs, e⟩ := Option.map_eq_some_iff.1 h
        simp only [Prod.mk.injEq] at e
        obtain ⟨rfl, rfl, rfl⟩ := e
        obtain ⟨k, z, off, n, cap, rfl, hk, e1, _⟩ := semCpy_wr (ob2 := ob) (z := r.1) (ob1 := r.2) hs (fun _ _ => rfl)
        have hlk : looks id tm o = some k := by simp [looks, ho, hx]
        refine ⟨some (k, z), e1, fun k' hk' => ⟨rfl, by rw [hlk]; exact hk'⟩, fun ob2 hl => ?_⟩
        obtain ⟨k', z', off', n', cap', hs', hk', e3, e4⟩ := semCpy_wr (ob2 := ob2) (z := r.1) (ob1 := r.2) hs (fun q hq => by
          simp only [blockOf, Option.some.injEq] at hq; subst hq; exact hl k hlk)
        simp only [SA.sc.injEq, SC.sl.injEq] at hs'
        obtain ⟨rfl, _⟩ := hs'
        simp only [e4, Option.map_some, wr]
        have : (ob.set k z)[k]? = (ob.set k z')[k]? := by rw [← e1, ← e3]
        simp [hk] at this
        rw [this]
      · cases h
theorem guarded_ob {P : Program} {cx : Cx} {id : Nat} {tm : List SV} {ob ob1 : List SO} {o : Oper} {g : Bool} {ps : List Prop} {sv : SV} (h : guarded P cx id tm ob o g = some (ps, sv, ob1)) :
    ob1 = ob ∧ ∀ ob2, (∀ k, looks id tm o = some k → ob2[k]? = ob[k]?) → guarded P cx id tm ob2 o g = some (ps, sv, ob2) := by
  unfold guarded at h ⊢
  split at h
  · cases h
  rename_i he
  have he' : eff o.op = false := by simpa using he
  have hn : isNew o.op = true → id < ob.length := by
    intro hn
    exfalso
    revert he'
    unfold isNew at hn
    unfold eff
    split at hn <;> rename_i ho <;> (try simp only [ho]) <;> simp at hn ⊢
  split at h
  · rename_i p1 x ob3 h1
    simp only [Option.some.injEq, Prod.mk.injEq] at h
    obtain ⟨rfl, rfl, rfl⟩ := h
    refine ⟨rfl, fun ob2 hl => ?_⟩
    rw [if_neg he]
    obtain ⟨w, _, _, e⟩ := semOp_ob h1 hn
    rw [e ob2 hl]
  · rename_i p1 b x ob3 h1
    simp only [Option.some.injEq, Prod.mk.injEq] at h
    obtain ⟨rfl, rfl, rfl⟩ := h
    refine ⟨rfl, fun ob2 hl => ?_⟩
    rw [if_neg he]
    obtain ⟨w, _, _, e⟩ := semOp_ob h1 hn
    rw [e ob2 hl]
  · cases h
theorem semG_ob {P : Program} {cx : Cx} {ops : Array Oper} {id : Nat} {tm : List SV} {ob ob1 : List SO} {o : Oper} {ps : List Prop} {sv : SV} (h : semG P cx ops id tm ob o = some (ps, sv, ob1)) (hid : isNew o.op = true → id < ob.length) :
    ∃ w, ob1 = wr ob w ∧ (∀ k, key w = some k → eff o.op = true ∧ looks id tm o = some k) ∧ ∀ ob2, (∀ k, looks id tm o = some k → ob2[k]? = ob[k]?) → semG P cx ops id tm ob2 o = some (ps, sv, wr ob2 w) := by
  have hg : ∀ g, guarded P cx id tm ob o g = some (ps, sv, ob1) → ∃ w, ob1 = wr ob w ∧ (∀ k, key w = some k → eff o.op = true ∧ looks id tm o = some k) ∧ ∀ ob2, (∀ k, looks id tm o = some k → ob2[k]? = ob[k]?) → guarded P cx id tm ob2 o g = some (ps, sv, wr ob2 w) :=
    fun g h => ⟨none, (guarded_ob h).1, fun k hk => (by cases hk), (guarded_ob h).2⟩
  have skip : some ([], .one (.sc (.val undef)), ob) = some (ps, sv, ob1) → ∃ w, ob1 = wr ob w ∧ (∀ k, key w = some k → eff o.op = true ∧ looks id tm o = some k) ∧ ∀ ob2, (∀ k, looks id tm o = some k → ob2[k]? = ob[k]?) → some (([], .one (.sc (.val undef)), ob2) : List Prop × SV × List SO) = some (ps, sv, wr ob2 w) := by
    intro h
    simp only [Option.some.injEq, Prod.mk.injEq] at h
    obtain ⟨rfl, rfl, rfl⟩ := h
    exact ⟨none, rfl, fun k hk => (by cases hk), fun ob2 _ => rfl⟩
  unfold semG at h ⊢
  split at h
  · exact semOp_ob h hid
  · split at h
    · cases h
    · split at h
      · split at h
        · rename_i e; simp only [e, if_true]; exact semOp_ob h hid
        · rename_i e; simp only [e]; exact skip h
      · split at h <;> exact hg _ h
      · split at h
        · rename_i e; simp only [e, if_true]; exact hg _ h
        · rename_i e; simp only [e]; exact skip h
      · split at h <;> exact hg _ h
      · cases h

/-! ## The text's order, step by step -/

structure Info where
  nm : List Nat
  dst : Option Nat
  ef : Bool
  lk : Option Nat
def infoOf (ops : Array Oper) (id : Nat) (tm : List SV) (o : Oper) : Info := ⟨names ops o, o.dst, eff o.op, looks id tm o⟩
def infos (P : Program) (cx : Cx) (ops : Array Oper) : Nat → List Oper → List SV → List SO → List Info
  | _, [], _, _ => []
  | i, o :: r, tm, ob =>
    match semG P cx ops i tm ob o with
    | some (_, sv, ob') => infoOf ops i tm o :: infos P cx ops (i + 1) r (put tm o.dst sv) ob'
    | none => []

theorem runs_seq {P : Program} {cx : Cx} {ops : Array Oper} {K : List SV → List SO → Prop} : ∀ {l : List Oper} {b : Nat} {tm : List SV} {ob : List SO}, runs P cx noInl ops true b l tm ob K → ((∃ o ∈ l, isNew o.op = true) → b + l.length ≤ ob.length) →
    ∃ (TM : Nat → List SV) (OB : Nat → List SO) (V : Nat → SV) (PS : Nat → List Prop) (W : Nat → Option (Nat × SO)), TM 0 = tm ∧ OB 0 = ob ∧
      (∀ i o, l[i]? = some o → semG P cx ops (b + i) (TM i) (OB i) o = some (PS i, V i, OB (i + 1)) ∧ Ok (PS i) ∧ TM (i + 1) = put (TM i) o.dst (V i) ∧ (infos P cx ops b l tm ob)[i]? = some (infoOf ops (b + i) (TM i) o) ∧
        OB (i + 1) = wr (OB i) (W i) ∧ (∀ k, key (W i) = some k → eff o.op = true ∧ looks (b + i) (TM i) o = some k) ∧
        ∀ ob2, (∀ k, looks (b + i) (TM i) o = some k → ob2[k]? = (OB i)[k]?) → semG P cx ops (b + i) (TM i) ob2 o = some (PS i, V i, wr ob2 (W i))) ∧ K (TM l.length) (OB l.length)
  | [], b, tm, ob, h, _ => ⟨fun _ => tm, fun _ => ob, fun _ => .any, fun _ => [], fun _ => none, rfl, rfl, fun i o hi => by simp at hi, h⟩
  | o :: r, b, tm, ob, h, hnew => by
    simp only [runs] at h
    split at h
    · rename_i ps sv ob' hs
      obtain ⟨hp, h⟩ := ands_iff.1 h
      obtain ⟨w, w1, w2, w3⟩ := semG_ob hs (fun hn => by have := hnew ⟨o, by simp, hn⟩; simp at this; omega)
      obtain ⟨TM, OB, V, PS, W, h1, h2, h3, h4⟩ := runs_seq h (fun ⟨p, hp, hn⟩ => by
        have := hnew ⟨p, by simp [hp], hn⟩
        rw [w1, wr_length]; simp at this; omega)
      refine ⟨fun i => match i with | 0 => tm | i + 1 => TM i, fun i => match i with | 0 => ob | i + 1 => OB i, fun i => match i with | 0 => sv | i + 1 => V i, fun i => match i with | 0 => ps | i + 1 => PS i, fun i => match i with | 0 => w | i + 1 => W i, rfl, rfl, fun i o' hi => ?_, h4⟩
      cases i with
      | zero =>
        simp only [List.getElem?_cons_zero, Option.some.injEq] at hi
        subst hi
        exact ⟨by rw [Nat.add_zero, hs, ← h2], hp, h1, by simp [infos, hs], by rw [← w1, ← h2], w2, w3⟩
      | succ i =>
        simp only [List.getElem?_cons_succ] at hi
        obtain ⟨k1, k2, k3, k4, k5⟩ := h3 i o' hi
        rw [show b + 1 + i = b + (i + 1) by omega] at k1 k4 k5
        exact ⟨k1, k2, k3, by simp only [infos, hs, List.getElem?_cons_succ]; exact k4, k5⟩
    · exact h.no

/-! ## What comes ahead of what -/

def bitsOf (acc : List Nat) (es : List Edge) : Nat :=
  match es with
  | [] => 0
  | e :: r => if Region.binds .any e then (2 ^ e.on ||| acc.getD e.on 0) ||| bitsOf acc r else bitsOf acc r
def clos : List Oper → List Nat → List Nat
  | [], acc => acc
  | o :: r, acc => clos r (acc ++ [bitsOf acc o.after.toList])
def prB (C : List Nat) (i j : Nat) : Bool := (C.getD i 0).testBit j

theorem bitsOf_spec {acc : List Nat} {j : Nat} : ∀ {es : List Edge}, (bitsOf acc es).testBit j = true → ∃ e ∈ es, Region.binds .any e = true ∧ (e.on = j ∨ (acc.getD e.on 0).testBit j = true)
  | [], h => by simp [bitsOf] at h
  | e :: r, h => by
    simp only [bitsOf] at h
    split at h
    · rename_i hb
      simp only [Nat.testBit_or, Bool.or_eq_true, Nat.testBit_two_pow, decide_eq_true_eq] at h
      rcases h with (h | h) | h
      · exact ⟨e, by simp, hb, .inl h⟩
      · exact ⟨e, by simp, hb, .inr h⟩
      · obtain ⟨e', he, k⟩ := bitsOf_spec h; exact ⟨e', by simp [he], k⟩
    · obtain ⟨e', he, k⟩ := bitsOf_spec h; exact ⟨e', by simp [he], k⟩
theorem clos_spec : ∀ (l : List Oper) (acc : List Nat), (clos l acc).length = acc.length + l.length ∧ (clos l acc).take acc.length = acc ∧
    ∀ i o, l[i]? = some o → (clos l acc)[acc.length + i]? = some (bitsOf ((clos l acc).take (acc.length + i)) o.after.toList)
  | [], acc => ⟨rfl, by simp [clos], fun i o h => by simp at h⟩
  | o :: r, acc => by
    obtain ⟨h1, h2, h3⟩ := clos_spec r (acc ++ [bitsOf acc o.after.toList])
    simp only [List.length_append, List.length_singleton] at h1 h2 h3
    have h2' : (clos r (acc ++ [bitsOf acc o.after.toList])).take acc.length = acc := by
      have := congrArg (List.take acc.length) h2
      rw [List.take_take, Nat.min_eq_left (by omega)] at this
      rw [this]; simp
    refine ⟨by simp only [clos, h1, List.length_cons]; omega, h2', fun i p hi => ?_⟩
    cases i with
    | zero =>
      simp only [List.getElem?_cons_zero, Option.some.injEq] at hi
      subst hi
      simp only [clos, Nat.add_zero, h2']
      have : (clos r (acc ++ [bitsOf acc o.after.toList]))[acc.length]? = ((clos r (acc ++ [bitsOf acc o.after.toList])).take (acc.length + 1))[acc.length]? := by
        rw [List.getElem?_take]; simp
      rw [this, h2]; simp
    | succ i =>
      simp only [List.getElem?_cons_succ] at hi
      have := h3 i p hi
      rw [show acc.length + (i + 1) = acc.length + 1 + i by omega]
      exact this
theorem prB_spec {l : List Oper} {i j : Nat} {o : Oper} (hi : l[i]? = some o) (h : prB (clos l []) i j = true) :
    ∃ e ∈ o.after.toList, Region.binds .any e = true ∧ (e.on = j ∨ (e.on < i ∧ prB (clos l []) e.on j = true)) := by
  obtain ⟨_, _, h3⟩ := clos_spec l []
  have := h3 i o hi
  simp only [List.length_nil, Nat.zero_add] at this
  unfold prB at h
  rw [List.getD_eq_getElem?_getD, this, Option.getD_some] at h
  obtain ⟨e, he, hb, k⟩ := bitsOf_spec h
  refine ⟨e, he, hb, k.imp id fun k => ?_⟩
  rw [List.getD_eq_getElem?_getD, List.getElem?_take] at k
  split at k
  · rename_i hlt; exact ⟨hlt, by unfold prB; rw [List.getD_eq_getElem?_getD]; exact k⟩
  · simp at k

def ordB (C : List Nat) (i j : Nat) : Bool := (Nat.blt j i && prB C i j) || (Nat.blt i j && prB C j i)
def okPair (C : List Nat) (i : Nat) (I : Info) (j : Nat) (J : Info) : Bool :=
  Nat.beq i j || (ordB C i j ||
  ((match J.dst with
   | some t => !(I.nm.contains t || I.dst == some t)
   | none => true) &&
  (match I.lk with
   | some k => !(J.ef && J.lk == some k)
   | none => true)))
def allFrom {α : Type} (p : Nat → α → Bool) : Nat → List α → Bool
  | _, [] => true
  | i, x :: r => p i x && allFrom p (i + 1) r
/-- Where the part begins that is taken in the text's order: at the first call that has no card. -/
def noCard (cx : Cx) (tm : List SV) (o : Oper) : Bool :=
  match o.op with
  | .call { callee := .value x, .. } => match calleeOf tm x with
    | some (_, f, _) => (cx.get f).isNone
    | none => false
  | _ => false
def tailFrom (cx : Cx) (tm : List SV) : Nat → List Oper → Nat
  | i, [] => i
  | i, o :: r => match noCard cx tm o with
    | true => i
    | false => tailFrom cx tm (i + 1) r
def chainB (C : List Nat) (n size : Nat) : Bool := (List.range (size - n)).all fun k => (List.range (n + k)).all fun j => prB C (n + k) j
def drawAt (P : Program) (cx : Cx) (ops : Array Oper) (tm : List SV) (ob : List SO) (n : Nat) : Bool :=
  P.follows .mixedOrders &&
  allFrom (fun i (o : Oper) => o.after.toList.all fun e => !Region.binds .any e || Nat.blt e.on i) 0 ops.toList &&
  (Nat.ble n ops.size && chainB (clos ops.toList []) n ops.size) &&
  (let L := infos P cx ops ob.length (ops.toList.take n) tm (kept ops ob)
   let C := clos ops.toList []
   allFrom (fun i I => allFrom (fun j J => okPair C i I j J) 0 L) 0 L)
def drawOK : Drawn := fun P cx ops tm ob =>
  match drawAt P cx ops tm ob (tailFrom cx tm 0 ops.toList) with
  | true => some (tailFrom cx tm 0 ops.toList)
  | false => none
theorem allFrom_spec {α : Type} {p : Nat → α → Bool} : ∀ {l : List α} {i : Nat}, allFrom p i l = true → ∀ j x, l[j]? = some x → p (i + j) x = true
  | [], i, _, j, x, hx => by simp at hx
  | y :: r, i, h, j, x, hx => by
    simp only [allFrom, Bool.and_eq_true] at h
    cases j with
    | zero => simp only [List.getElem?_cons_zero, Option.some.injEq] at hx; subst hx; exact h.1
    | succ j => simp only [List.getElem?_cons_succ] at hx; have := allFrom_spec h.2 j x hx; rw [show i + (j + 1) = i + 1 + j by omega]; exact this

/-! ## Whatever has been done so far -/

def WD {α : Type} (l0 : List α) (W : Nat → Option (Nat × α)) (D : Nat → Bool) : Nat → List α
  | 0 => l0
  | j + 1 => if D j then wr (WD l0 W D j) (W j) else WD l0 W D j
section
variable {α : Type} {l0 : List α} {W : Nat → Option (Nat × α)}
theorem wr_other {l : List α} {w : Option (Nat × α)} {t : Nat} (h : key w ≠ some t) : (wr l w)[t]? = l[t]? := by
  unfold wr
  split
  · rename_i k x
    rw [List.getElem?_set_ne]
    rintro rfl
    exact h rfl
  · rfl
theorem wr_same {l l' : List α} {w : Option (Nat × α)} {t : Nat} (h : key w = some t) (hl : l.length = l'.length) : (wr l w)[t]? = (wr l' w)[t]? := by
  unfold wr
  split
  · rename_i k x
    simp only [key, Option.map_some, Option.some.injEq] at h
    subst h
    simp only [List.getElem?_set, hl, if_true]
  · cases h
theorem WD_length (D : Nat → Bool) : ∀ m, (WD l0 W D m).length = l0.length
  | 0 => rfl
  | m + 1 => by simp only [WD]; split <;> simp [wr_length, WD_length D m]
theorem WD_get {D D' : Nat → Bool} {t : Nat} : ∀ m, (∀ j, j < m → key (W j) = some t → D j = D' j) → (WD l0 W D m)[t]? = (WD l0 W D' m)[t]?
  | 0, _ => rfl
  | m + 1, h => by
    have ih := WD_get m (fun j hj => h j (by omega))
    simp only [WD]
    by_cases e : key (W m) = some t
    · rw [h m (by omega) e]
      split
      · exact wr_same e (by rw [WD_length, WD_length])
      · exact ih
    · have : ∀ D : Nat → Bool, (if D m = true then wr (WD l0 W D m) (W m) else WD l0 W D m)[t]? = (WD l0 W D m)[t]? := by
        intro D; split
        · exact wr_other e
        · rfl
      rw [this, this]; exact ih
theorem WD_trunc {D : Nat → Bool} {t m : Nat} : ∀ k, (∀ j, m ≤ j → j < m + k → key (W j) = some t → D j = false) → (WD l0 W D (m + k))[t]? = (WD l0 W D m)[t]?
  | 0, _ => rfl
  | k + 1, h => by
    rw [← WD_trunc k (fun j h1 h2 => h j h1 (by omega)), ← Nat.add_assoc]
    simp only [WD]
    split
    · rename_i hD
      refine wr_other fun e => ?_
      rw [h (m + k) (by omega) (by omega) e] at hD
      cases hD
    · rfl
theorem WD_all {D : Nat → Bool} {TM : Nat → List α} : ∀ m, TM 0 = l0 → (∀ j, j < m → TM (j + 1) = wr (TM j) (W j)) → (∀ j, j < m → D j = true) → WD l0 W D m = TM m
  | 0, h0, _, _ => h0.symm
  | m + 1, h0, h1, h2 => by
    simp only [WD, h2 m (by omega), if_true]
    rw [WD_all m h0 (fun j hj => h1 j (by omega)) (fun j hj => h2 j (by omega)), h1 m (by omega)]
/-- What stands at t, at whatever has been done: as the text's order has it at i. -/
theorem WD_at {D : Nat → Bool} {TM : Nat → List α} {i n t : Nat} (hin : i ≤ n) (h0 : TM 0 = l0) (hs : ∀ j, j < i → TM (j + 1) = wr (TM j) (W j))
    (hlt : ∀ j, j < i → key (W j) = some t → D j = true) (hge : ∀ j, i ≤ j → j < n → key (W j) = some t → D j = false) : (WD l0 W D n)[t]? = (TM i)[t]? := by
  obtain ⟨k, rfl⟩ : ∃ k, n = i + k := ⟨n - i, by omega⟩
  rw [WD_trunc k hge, WD_get (D' := fun _ => true) i hlt, WD_all i h0 hs (fun _ _ => rfl)]
theorem WD_after {D D' : Nat → Bool} {i n : Nat} (hin : i < n) (h1 : D' i = true) (h2 : ∀ j, j ≠ i → D' j = D j) (h3 : ∀ t j, key (W i) = some t → i < j → j < n → key (W j) = some t → D j = false) :
    WD l0 W D' n = wr (WD l0 W D n) (W i) := by
  apply List.ext_getElem?
  intro t
  by_cases e : key (W i) = some t
  · obtain ⟨k, rfl⟩ : ∃ k, n = i + 1 + k := ⟨n - (i + 1), by omega⟩
    rw [WD_trunc k (fun j a b c => by rw [h2 j (by omega)]; exact h3 t j e (by omega) b c)]
    simp only [WD, h1, if_true]
    exact wr_same e (by rw [WD_length, WD_length])
  · rw [wr_other e]
    refine WD_get n fun j _ hk => h2 j ?_
    rintro rfl
    exact e hk
end

theorem put_wr (tm : List SV) (dst : Option Tmp) (v : SV) : put tm dst v = wr tm (dst.map fun d => (d, v)) := by cases dst <;> rfl
theorem Holds.drew {W0 : Base} {ρ : Rho} {tm : List SV} {ob : List SO} {a : Act} {w : World} (H : Holds W0 ρ tm ob a w) : Holds W0 ρ tm ob a { w with drawn := w.drawn + 1 } :=
  ⟨H.size, H.rep, H.bnd, H.defers, Below.drew H.below, ⟨H.mem.objs, H.mem.injs, H.mem.frz⟩, H.kept, H.gl, H.fzs⟩
theorem gones_get : ∀ (n i : Nat) (x : SO), (gones n)[i]? = some x → x = .gone
  | 0, i, x, h => by simp [gones] at h
  | n + 1, 0, x, h => by simpa [gones] using h.symm
  | n + 1, i + 1, x, h => by simp only [gones, List.getElem?_cons_succ] at h; exact gones_get n i x h
theorem gones_length : ∀ n, (gones n).length = n
  | 0 => rfl
  | n + 1 => by simp [gones, gones_length n]
theorem Holds.withGones {W0 : Base} {ρ : Rho} {tm : List SV} {ob : List SO} {a : Act} {w : World} (H : Holds W0 ρ tm ob a w) (ops : Array Oper) : Holds W0 ρ tm (Sx.kept ops ob) a w := by
  unfold Sx.kept
  split
  case isFalse => exact H
  have same : ∀ (i : Nat) x, (ob ++ gones ops.size)[i]? = some x → x.has = true → ob[i]? = some x := by
    intro i x hi hx
    rcases Nat.lt_or_ge i ob.length with k | k
    · rwa [List.getElem?_append_left k] at hi
    · rw [List.getElem?_append_right k] at hi
      rw [gones_get _ _ _ hi] at hx; cases hx
  have sl : ∀ i, live (ob ++ gones ops.size) i → live ob i := fun i ⟨x, hi, hx⟩ => ⟨x, same i x hi hx, hx⟩
  have hl : ∀ i, live ob i → live (ob ++ gones ops.size) i := by
    rintro i ⟨x, hi, hx⟩
    exact ⟨x, by rw [List.getElem?_append_left (ob_lt hi)]; exact hi, hx⟩
  have hle : Env.le (lv ρ ob) (lv ρ (ob ++ gones ops.size)) := ⟨hl, fun _ _ _ h => h⟩
  have hd : ∀ i : Nat, ob[i]? = some .dead → (ob ++ gones ops.size)[i]? = some .dead := fun i h => by
    rw [List.getElem?_append_left (ob_lt h)]; exact h
  exact ⟨H.size, H.rep, fun t => SV.bnd_mono hle (H.bnd t), H.defers, H.below,
    ⟨fun i x hi hx => by
      obtain ⟨a1, a2, a3⟩ := H.mem.objs i x (same i x hi hx) hx
      exact ⟨a1, a2, SO.ok_mono hle a3⟩, fun i j hi hj hij => H.mem.injs i j (sl i hi) (sl j hj) hij, fun b o v hv => ⟨(H.mem.frz b o v hv).1, fun i hi => (H.mem.frz b o v hv).2 i (sl i hi)⟩⟩,
    ⟨fun i hi => (H.kept.1 i hi).imp (fun h => ⟨hl i h.1, h.2⟩) (fun h => hd i h), fun i hi => hd i (H.kept.2.1 i hi), by have := H.kept.2.2; simp; omega⟩, H.gl, H.fzs⟩

def Ordered (pr : Nat → Nat → Bool) (i j : Nat) : Prop := (j < i ∧ pr i j = true) ∨ (i < j ∧ pr j i = true)

/-- All that the check gives. n: where the part begins that is taken in the text's order. -/
structure Facts (P : Program) (cx : Cx) (ops : Array Oper) (b n : Nat) (TM : Nat → List SV) (OB : Nat → List SO) (V : Nat → SV) (PS : Nat → List Prop) (W : Nat → Option (Nat × SO)) (pr : Nat → Nat → Bool) : Prop where
  le : n ≤ ops.size
  chain : ∀ i j, n ≤ i → i < ops.size → j < i → pr i j = true
  one : ∀ i o, i < n → ops[i]? = some o → Ok (PS i) ∧ TM (i + 1) = put (TM i) o.dst (V i) ∧ OB (i + 1) = wr (OB i) (W i) ∧ (∀ k, key (W i) = some k → eff o.op = true ∧ looks (b + i) (TM i) o = some k) ∧
    ∀ ob2, (∀ k, looks (b + i) (TM i) o = some k → ob2[k]? = (OB i)[k]?) → semG P cx ops (b + i) (TM i) ob2 o = some (PS i, V i, wr ob2 (W i))
  back : ∀ i o, ops[i]? = some o → ∀ e ∈ o.after.toList, Region.binds .any e = true → e.on < i
  prs : ∀ i j o, ops[i]? = some o → pr i j = true → ∃ e ∈ o.after.toList, Region.binds .any e = true ∧ (e.on = j ∨ (e.on < i ∧ pr e.on j = true))
  tmp : ∀ i j o p t, i < n → j < n → i ≠ j → ops[i]? = some o → ops[j]? = some p → p.dst = some t → (t ∈ names ops o ∨ o.dst = some t) → Ordered pr i j
  mem : ∀ i j o p k, i < n → j < n → i ≠ j → ops[i]? = some o → ops[j]? = some p → looks (b + i) (TM i) o = some k → eff p.op = true → looks (b + j) (TM j) p = some k → Ordered pr i j

section
variable {P : Program} {cx : Cx} {ops : Array Oper} {b n : Nat} {TM : Nat → List SV} {OB : Nat → List SO} {V : Nat → SV} {PS : Nat → List Prop} {W : Nat → Option (Nat × SO)} {pr : Nat → Nat → Bool}

def Closed (ops : Array Oper) (D : Nat → Bool) : Prop := ∀ i o, D i = true → ops[i]? = some o → ∀ e ∈ o.after.toList, Region.binds .any e = true → D e.on = true

theorem closed_pr (F : Facts P cx ops b n TM OB V PS W pr) {D : Nat → Bool} (hD : Closed ops D) : ∀ (i j : Nat) (o : Oper), ops[i]? = some o → (∀ e ∈ o.after.toList, Region.binds .any e = true → D e.on = true) → pr i j = true → D j = true := by
  intro i
  induction i using Nat.strongRecOn with
  | _ i ih =>
    intro j o ho hall hp
    obtain ⟨e, he, hb, k⟩ := F.prs i j o ho hp
    have hde := hall e he hb
    rcases k with rfl | ⟨hlt, k⟩
    · exact hde
    · cases hq : ops[e.on]? with
      | none =>
        have h1 := (Array.getElem?_eq_some_iff.1 ho).1
        have h2 := Array.getElem?_eq_none_iff.1 hq
        omega
      | some q => exact ih e.on hlt j q hq (fun e' he' hb' => hD _ q hde hq e' he' hb') k

def tmW (ops : Array Oper) (V : Nat → SV) (j : Nat) : Option (Nat × SV) := ((ops[j]?).bind (·.dst)).map fun d => (d, V j)
theorem tmW_key {ops : Array Oper} {V : Nat → SV} {j t : Nat} (h : key (tmW ops V j) = some t) : ∃ o, ops[j]? = some o ∧ o.dst = some t := by
  unfold tmW key at h
  rw [Option.map_map] at h
  obtain ⟨d, hd, rfl⟩ := Option.map_eq_some_iff.1 h
  exact Option.bind_eq_some_iff.1 hd
abbrev tmAt (ops : Array Oper) (n : Nat) (TM : Nat → List SV) (V : Nat → SV) (D : Nat → Bool) : List SV := WD (TM 0) (tmW ops V) D n
abbrev obAt (n : Nat) (OB : Nat → List SO) (W : Nat → Option (Nat × SO)) (D : Nat → Bool) : List SO := WD (OB 0) W D n

/-- One operation more, at whatever has been done. -/
theorem one_more (F : Facts P cx ops b n TM OB V PS W pr) {D D' : Nat → Bool} (hD : Closed ops D) {i : Nat} {o : Oper} (hin : i < n) (ho : ops[i]? = some o) (hi : D i = false) (hall : ∀ e ∈ o.after.toList, Region.binds .any e = true → D e.on = true)
    (h1 : D' i = true) (h2 : ∀ j, j ≠ i → D' j = D j) :
    semG P cx ops (b + i) (tmAt ops n TM V D) (obAt n OB W D) o = some (PS i, V i, obAt n OB W D') ∧ tmAt ops n TM V D' = put (tmAt ops n TM V D) o.dst (V i) := by
  have hle := F.le
  have at_ : ∀ j, j < n → ops[j]? = some ops[j]! := fun j hj => by simp [show j < ops.size by omega]
  have hpr : ∀ j, pr i j = true → D j = true := fun j => closed_pr F hD i j o ho hall
  have hbeh : ∀ j, j < n → pr j i = true → D j = false := by
    intro j hj hp
    cases hdj : D j with
    | false => rfl
    | true => rw [closed_pr F hD j i _ (at_ j hj) (fun e he hb => hD j _ hdj (at_ j hj) e he hb) hp] at hi; cases hi
  -- what is ordered with i and comes ahead of it has been done; what comes behind it has not
  have ahead : ∀ j, j < i → Ordered pr i j → D j = true := fun j hj h => by
    rcases h with ⟨_, h⟩ | ⟨h, _⟩
    · exact hpr j h
    · omega
  have behind : ∀ j, i ≤ j → j < n → (i ≠ j → Ordered pr i j) → D j = false := fun j hj hjs h => by
    by_cases e : i = j
    · rw [← e]; exact hi
    · rcases h e with ⟨h, _⟩ | ⟨_, h⟩
      · omega
      · exact hbeh j hjs h
  have tms : ∀ j, j < i → TM (j + 1) = wr (TM j) (tmW ops V j) := by
    intro j hj
    rw [(F.one j _ (by omega) (at_ j (by omega))).2.1, put_wr, tmW, at_ j (by omega)]
    rfl
  have obs : ∀ j, j < i → OB (j + 1) = wr (OB j) (W j) := fun j hj => (F.one j _ (by omega) (at_ j (by omega))).2.2.1
  have ordT : ∀ t j, (t ∈ names ops o ∨ o.dst = some t) → j ≠ i → j < n → key (tmW ops V j) = some t → Ordered pr i j := by
    intro t j ht hji hjn hk
    obtain ⟨p, hp, hpd⟩ := tmW_key hk
    exact F.tmp i j o p t hin hjn (fun e => hji e.symm) ho hp hpd ht
  have lookT : ∀ t, t ∈ names ops o → (tmAt ops n TM V D)[t]? = (TM i)[t]? := fun t ht =>
    WD_at (Nat.le_of_lt hin) rfl tms (fun j hj hk => ahead j hj (ordT t j (.inl ht) (by omega) (by omega) hk)) (fun j hj hjs hk => behind j hj hjs fun e => ordT t j (.inl ht) (fun h => e h.symm) hjs hk)
  have ordO : ∀ k j, looks (b + i) (TM i) o = some k → j ≠ i → j < n → key (W j) = some k → Ordered pr i j := by
    intro k j hl hji hjs hk
    obtain ⟨e1, e2⟩ := (F.one j _ hjs (at_ j hjs)).2.2.2.1 k hk
    exact F.mem i j o _ k hin hjs (fun e => hji e.symm) ho (at_ j hjs) hl e1 e2
  have lookO : ∀ k, looks (b + i) (TM i) o = some k → (obAt n OB W D)[k]? = (OB i)[k]? := fun k hl =>
    WD_at (Nat.le_of_lt hin) rfl obs (fun j hj hk => ahead j hj (ordO k j hl (by omega) (by omega) hk)) (fun j hj hjs hk => behind j hj hjs fun e => ordO k j hl (fun h => e h.symm) hjs hk)
  refine ⟨?_, ?_⟩
  · rw [semG_congr (tm' := TM i) fun t ht => by simp only [List.getD_eq_getElem?_getD]; rw [lookT t ht]]
    rw [(F.one i o hin ho).2.2.2.2 _ lookO]
    rw [obAt, obAt, WD_after hin h1 h2]
    intro t j hk hj hjs hkj
    obtain ⟨_, e2⟩ := (F.one i o hin ho).2.2.2.1 t hk
    exact behind j (by omega) hjs fun e => ordO t j e2 (fun h => e h.symm) hjs hkj
  · rw [put_wr, tmAt, tmAt, WD_after hin h1 h2]
    · rw [tmW, ho]; rfl
    · intro t j hk hj hjs hkj
      obtain ⟨p, hp, hpd⟩ := tmW_key hk
      rw [ho] at hp
      obtain rfl := Option.some.inj hp
      exact behind j (by omega) hjs fun e => ordT t j (.inr hpd) (fun h => e h.symm) hjs hkj

/-- What comes up last, in the text's order. -/
theorem tail_any (hcx : CxOK P cx) {inl : Inl} (hin : InlOK P cx.gl inl) (F : Facts P cx ops b n TM OB V PS W pr) {W0 : Base} (hat : CxAt cx W0) {Q : Exit → Act → World → Prop} {K : List SV → List SO → Prop} (hK : ∀ ρ tm ob a w, Holds W0 ρ tm ob a w → K tm ob → Q .normal a w) :
    ∀ (fuel : Nat) (listed : Array Bool) (m : Nat) (ρ : Rho) (tm : List SV) (ob : List SO) (a : Act) (w : World), listed.size = ops.size → n ≤ m → m ≤ ops.size → ops.size - m ≤ fuel → (∀ j, j < m → listed.getD j false = true) → (∀ j, m ≤ j → listed.getD j false = false) →
      Holds W0 ρ tm ob a w → runs P cx inl ops false m (ops.toList.drop m) tm ob K → wpAny P .any ops Q fuel listed a w := by
  have rdy : ∀ (listed : Array Bool) (m : Nat), listed.size = ops.size → n ≤ m → m ≤ ops.size → (∀ j, j < m → listed.getD j false = true) → (∀ j, m ≤ j → listed.getD j false = false) → (∀ i, i ∈ Region.ready .any ops listed → i = m) ∧ (m < ops.size → m ∈ Region.ready .any ops listed) := by
    intro listed m hs hnm hms hlo hhi
    refine ⟨fun i hi => ?_, fun hlt => ?_⟩
    · obtain ⟨h1, o, ho, hall⟩ := mem_ready.1 hi
      have hlt := (Array.getElem?_eq_some_iff.1 ho).1
      have hDi : listed.getD i false = false := by
        have hls : i < listed.size := by omega
        simp only [Array.getD_eq_getD_getElem?, Array.getElem?_eq_getElem hls, Option.getD_some] at h1 ⊢; exact h1
      have him : m ≤ i := by
        rcases Nat.lt_or_ge i m with g | g
        · rw [hlo i g] at hDi; cases hDi
        · exact g
      rcases Nat.lt_or_ge m i with g | g
      · have hc : Closed ops (fun j => listed.getD j false) := by
          intro k p hk hp e he hb
          have hkm : k < m := by
            rcases Nat.lt_or_ge k m with g | g
            · exact g
            · simp only [hhi k g] at hk; cases hk
          have := F.back k p hp e he hb
          exact hlo _ (by omega)
        have := closed_pr F hc i m o ho (fun e he hb => hall e (by simpa using he) hb) (F.chain i m (by omega) hlt g)
        simp only [hhi m (Nat.le_refl m)] at this
        cases this
      · omega
    · have hom : ops[m]? = some ops[m] := Array.getElem?_eq_getElem hlt
      refine mem_ready.2 ⟨?_, _, hom, fun e he hb => ?_⟩
      · have hls : m < listed.size := by omega
        have hDi := hhi m (Nat.le_refl m)
        simp only [Array.getD_eq_getD_getElem?, Array.getElem?_eq_getElem hls, Option.getD_some] at hDi ⊢; exact hDi
      · exact hlo _ (F.back m _ hom e (by simpa using he) hb)
  have done : ∀ (m : Nat) (ρ : Rho) (tm : List SV) (ob : List SO) (a : Act) (w : World), ops.size ≤ m → Holds W0 ρ tm ob a w → runs P cx inl ops false m (ops.toList.drop m) tm ob K → Q .normal a w := by
    intro m ρ tm ob a w hm H h
    rw [List.drop_of_length_le (by simpa using hm)] at h
    exact hK ρ tm ob a w H h
  intro fuel
  induction fuel with
  | zero =>
    intro listed m ρ tm ob a w hs hnm hms hf hlo hhi H h
    obtain ⟨r1, _⟩ := rdy listed m hs hnm hms hlo hhi
    refine ⟨?_, done m ρ tm ob a w (by omega) H h⟩
    rw [List.eq_nil_iff_forall_not_mem]
    intro j hj
    have := r1 j hj
    obtain ⟨_, o, ho, _⟩ := mem_ready.1 hj
    have hlt := (Array.getElem?_eq_some_iff.1 ho).1
    omega
  | succ fuel ih =>
    intro listed m ρ tm ob a w hs hnm hms hf hlo hhi H h
    obtain ⟨r1, r2⟩ := rdy listed m hs hnm hms hlo hhi
    refine ⟨fun hr => ?_, fun i hi => ?_⟩
    · rcases Nat.lt_or_ge m ops.size with g | g
      · have := r2 g
        rw [hr] at this; cases this
      · exact done m ρ tm ob a w g H h
    · have := r1 i hi
      subst this
      obtain ⟨_, o, ho, _⟩ := mem_ready.1 hi
      have hlt := (Array.getElem?_eq_some_iff.1 ho).1
      have hls : i < listed.size := by omega
      have hd : ops.toList.drop i = o :: ops.toList.drop (i + 1) := by
        have hl : i < ops.toList.length := by simpa using hlt
        rw [List.drop_eq_getElem_cons hl]
        congr 1
        have : ops.toList[i]? = some o := by simpa using ho
        rw [List.getElem?_eq_getElem hl] at this
        exact Option.some.inj this
      rw [hd] at h
      have := runs_step (Q := Q) hcx hat hin H h (Z := wpAny P .any ops Q fuel (listed.setIfInBounds i true)) fun ρ' tm' ob' a' w' H' h' => by
        refine ih _ (i + 1) ρ' tm' ob' a' w' (by simpa using hs) (by omega) (by omega) (by omega) (fun j hj => ?_) (fun j hj => ?_) H' h'
        · by_cases e : i = j
          · subst e; simp [hls]
          · exact getD_set_true (hlo j (by omega))
        · rw [getD_set_ne false (by omega)]
          exact hhi j (by omega)
      unfold wpOp
      simp only [ho]
      exact this

theorem drawn_any (hcx : CxOK P cx) {inl : Inl} (hin : InlOK P cx.gl inl) (F : Facts P cx ops b n TM OB V PS W pr) {W0 : Base} (hat : CxAt cx W0) {Q : Exit → Act → World → Prop} {K : List SV → List SO → Prop} (hK : ∀ ρ tm ob a w, Holds W0 ρ tm ob a w → K tm ob → Q .normal a w)
    (hfin : runs P cx inl ops false n (ops.toList.drop n) (TM n) (OB n) K) :
    ∀ (fuel : Nat) (listed : Array Bool) (L : List Nat) (ρ : Rho) (a : Act) (w : World), listed.size = ops.size → L.length + (ops.size - n) ≤ fuel → (∀ j, j < n → listed.getD j false = false → j ∈ L) → (∀ j, n ≤ j → listed.getD j false = false) → Closed ops (fun j => listed.getD j false) →
      Holds W0 ρ (tmAt ops n TM V fun j => listed.getD j false) (obAt n OB W fun j => listed.getD j false) a w → wpAny P .any ops Q fuel listed a w := by
  have hle := F.le
  have tailed : ∀ (fuel : Nat) (listed : Array Bool) (ρ : Rho) (a : Act) (w : World), listed.size = ops.size → ops.size - n ≤ fuel → (∀ j, j < n → listed.getD j false = true) → (∀ j, n ≤ j → listed.getD j false = false) →
      Holds W0 ρ (tmAt ops n TM V fun j => listed.getD j false) (obAt n OB W fun j => listed.getD j false) a w → wpAny P .any ops Q fuel listed a w := by
    intro fuel listed ρ a w hs hf all hhi H
    have e1 : tmAt ops n TM V (fun j => listed.getD j false) = TM n := by
      refine WD_all _ rfl (fun j hj => ?_) all
      have hoj : ops[j]? = some ops[j] := Array.getElem?_eq_getElem (by omega)
      rw [(F.one j _ hj hoj).2.1, put_wr, tmW, hoj]; rfl
    have e2 : obAt n OB W (fun j => listed.getD j false) = OB n :=
      WD_all _ rfl (fun j hj => (F.one j _ hj (Array.getElem?_eq_getElem (by omega))).2.2.1) all
    rw [e1, e2] at H
    exact tail_any hcx hin F hat hK fuel listed n ρ _ _ a w hs (Nat.le_refl n) hle hf all hhi H hfin
  intro fuel
  induction fuel with
  | zero =>
    intro listed L ρ a w hs hL hmem hhi hc H
    refine tailed 0 listed ρ a w hs (by omega) (fun j hj => ?_) hhi H
    cases hl : listed.getD j false with
    | true => rfl
    | false =>
      have : 0 < L.length := List.length_pos_of_mem (hmem j hj hl)
      omega
  | succ fuel ih =>
    intro listed L ρ a w hs hL hmem hhi hc H
    by_cases hall : ∀ j, j < n → listed.getD j false = true
    · exact tailed _ listed ρ a w hs (by omega) hall hhi H
    refine ⟨fun hr => ?_, fun i hi => ?_⟩
    · refine absurd ?_ hall
      intro j
      induction j using Nat.strongRecOn with
      | _ j ih =>
        intro hj
        cases hl : listed.getD j false with
        | true => rfl
        | false =>
          have hoj : ops[j]? = some ops[j] := Array.getElem?_eq_getElem (by omega)
          have : j ∈ Region.ready .any ops listed := by
            refine mem_ready.2 ⟨?_, _, hoj, fun e he hb => ?_⟩
            · have : j < listed.size := by omega
              simp only [Array.getD_eq_getD_getElem?, Array.getElem?_eq_getElem this, Option.getD_some] at hl ⊢; exact hl
            · have := F.back j _ hoj e (by simpa using he) hb
              exact ih e.on this (by omega)
          rw [hr] at this; cases this
    obtain ⟨h1, o, ho, hall1⟩ := mem_ready.1 hi
    have hlt := (Array.getElem?_eq_some_iff.1 ho).1
    have hls : i < listed.size := by omega
    have hDi : listed.getD i false = false := by
      simp only [Array.getD_eq_getD_getElem?, Array.getElem?_eq_getElem hls, Option.getD_some] at h1 ⊢; exact h1
    have hall' : ∀ e ∈ o.after.toList, Region.binds .any e = true → listed.getD e.on false = true := fun e he hb => hall1 e (by simpa using he) hb
    have hin' : i < n := by
      rcases Nat.lt_or_ge i n with g | g
      · exact g
      · exact absurd (fun j hj => closed_pr F hc i j o ho hall' (F.chain i j g hlt (by omega))) hall
    obtain ⟨hs1, hs2⟩ := one_more F hc hin' ho hDi hall' (D' := fun j => (listed.setIfInBounds i true).getD j false)
      (by simp [hls]) (fun j hj => getD_set_ne false (fun h => hj h.symm))
    have hiL := hmem i hin' hDi
    have := semG_sound hcx hat.1 H hs1 (F.one i o hin' ho).1 (Q := Q) (K := wpAny P .any ops Q fuel (listed.setIfInBounds i true)) fun ρ' a' w' H' => by
      refine ih (listed.setIfInBounds i true) (L.erase i) ρ' a' w' (by simpa using hs) ?_ ?_ ?_ ?_ ?_
      · have := List.length_pos_of_mem hiL
        rw [List.length_erase_of_mem hiL]; omega
      · intro j hj hlj
        by_cases e : i = j
        · subst e; simp [hls] at hlj
        · rw [getD_set_ne false e] at hlj
          exact (List.mem_erase_of_ne (fun h => e h.symm)).2 (hmem j hj hlj)
      · intro j hj
        rw [getD_set_ne false (by omega)]
        exact hhi j hj
      · intro j p hj hp e he hb
        by_cases e' : i = j
        · subst e'
          rw [ho] at hp
          obtain rfl := Option.some.inj hp
          exact getD_set_true (hall' e he hb)
        · simp only [getD_set_ne false e'] at hj
          exact getD_set_true (hc j p hj hp e he hb)
      · rw [hs2]; exact H'
    unfold wpOp
    simp only [ho]
    split
    · rename_i hw; rw [if_pos hw] at this; exact .inl this
    · rename_i hw; rw [if_neg hw] at this; exact this
end

theorem drawOK_ok {P : Program} {cx : Cx} (hcx : CxOK P cx) : DrawnOK P cx drawOK := by
  intro kn ops tm ob n hd0 inl hin W0 ρ a w Q K id hat H hr hK
  have hcx : CxOK P { cx with kn := kn } := hcx
  have hin : InlOK P ({ cx with kn := kn } : Cx).gl inl := hin
  generalize ({ cx with kn := kn } : Cx) = cx at *
  unfold drawOK at hd0
  split at hd0
  case h_2 => cases hd0
  rename_i hd
  simp only [Option.some.injEq] at hd0
  rw [hd0] at hd
  unfold drawAt at hd
  simp only [Bool.and_eq_true] at hd
  obtain ⟨⟨⟨hm, hb⟩, hn, hchain⟩, hpairs⟩ := hd
  have hn : n ≤ ops.size := Nat.le_of_ble_eq_true hn
  have hlen : (ops.toList.take n).length = n := by simp; omega
  obtain ⟨TM, OB, V, PS, W, h0, h0', hone, hfin⟩ := runs_seq hr (by
    rintro ⟨o, ho, hn⟩
    have : ops.toList.any (fun o => isNew o.op) = true := List.any_eq_true.2 ⟨o, List.mem_of_mem_take ho, hn⟩
    simp [kept, this, gones_length]
    omega)
  have get : ∀ {i : Nat} {o : Oper}, ops[i]? = some o → ops.toList[i]? = some o := fun h => by simpa using h
  have getn : ∀ {i : Nat} {o : Oper}, i < n → ops[i]? = some o → (ops.toList.take n)[i]? = some o := fun hi h => by rw [List.getElem?_take, if_pos hi]; exact get h
  have pair : ∀ i j o p, i < n → j < n → i ≠ j → ops[i]? = some o → ops[j]? = some p → okPair (clos ops.toList []) i (infoOf ops (ob.length + i) (TM i) o) j (infoOf ops (ob.length + j) (TM j) p) = true := by
    intro i j o p hi hj _ ho hp
    have h1 := allFrom_spec hpairs i _ (hone i o (getn hi ho)).2.2.2.1
    have h2 := allFrom_spec h1 j _ (hone j p (getn hj hp)).2.2.2.1
    simpa using h2
  have ord : ∀ i j, ordB (clos ops.toList []) i j = true → Ordered (prB (clos ops.toList [])) i j := by
    intro i j h
    simp only [ordB, Bool.or_eq_true, Bool.and_eq_true, Nat.blt_eq] at h
    exact h
  have rest : ∀ i j o p, i < n → j < n → i ≠ j → ops[i]? = some o → ops[j]? = some p → Ordered (prB (clos ops.toList [])) i j ∨
      ((match p.dst with
       | some t => !((names ops o).contains t || o.dst == some t)
       | none => true) = true ∧
      (match looks (ob.length + i) (TM i) o with
       | some k => !(eff p.op && looks (ob.length + j) (TM j) p == some k)
       | none => true) = true) := by
    intro i j o p hi hj hij ho hp
    have := pair i j o p hi hj hij ho hp
    simp only [okPair, infoOf, Bool.or_eq_true, Bool.and_eq_true] at this
    rcases this with h | h | ⟨k1, k3⟩
    · exact absurd (Nat.eq_of_beq_eq_true h) hij
    · exact .inl (ord i j h)
    · exact .inr ⟨k1, k3⟩
  have F : Facts P cx ops ob.length n TM OB V PS W (prB (clos ops.toList [])) := by
    refine ⟨hn, fun i j hi his hji => ?_, fun i o hi ho => ?_, fun i o ho e he hbd => ?_, fun i j o ho hp => prB_spec (get ho) hp, ?_, ?_⟩
    · unfold chainB at hchain
      have h1 := List.all_eq_true.1 hchain (i - n) (List.mem_range.2 (by omega))
      rw [show n + (i - n) = i by omega] at h1
      exact List.all_eq_true.1 h1 j (List.mem_range.2 hji)
    · obtain ⟨_, k2, k3, _, k5, k6, k7⟩ := hone i o (getn hi ho); exact ⟨k2, k3, k5, k6, k7⟩
    · have := allFrom_spec hb i o (get ho)
      rw [List.all_eq_true] at this
      have := this e he
      simp only [hbd, Bool.not_true, Bool.false_or, Nat.zero_add, Nat.blt_eq] at this
      exact this
    · intro i j o p t hi hj hij ho hp hpd ht
      rcases rest i j o p hi hj hij ho hp with h | ⟨k1, _⟩
      · exact h
      · rw [hpd] at k1
        simp only [Bool.not_eq_true', Bool.or_eq_false_iff] at k1
        obtain ⟨k1, k2⟩ := k1
        rcases ht with ht | ht
        · simp at k1; exact absurd ht k1
        · simp [ht] at k2
    · intro i j o p k hi hj hij ho hp hl he ht
      rcases rest i j o p hi hj hij ho hp with h | ⟨_, k3⟩
      · exact h
      · simp [hl, he, ht] at k3
  refine wp_region_any hm ?_
  rw [hlen] at hfin
  have none_listed : ∀ j, (Array.replicate ops.size false).getD j false = false := by
    intro j
    simp only [Array.getD_eq_getD_getElem?, Array.getElem?_replicate]
    split <;> rfl
  refine drawn_any hcx hin F hat hK hfin ops.size _ (List.range n) ρ a _ (by simp) (by simp; omega) (fun j hj _ => List.mem_range.2 hj) (fun j _ => none_listed j) (fun i o hi => by simp only [none_listed] at hi; cases hi) ?_
  have none_done : ∀ {α : Type} (l : List α) (W : Nat → Option (Nat × α)) (m : Nat), WD l W (fun j => (Array.replicate ops.size false).getD j false) m = l := by
    intro α l W m
    induction m with
    | zero => rfl
    | succ m ih => rw [WD, if_neg (by rw [none_listed]; simp), ih]
  rw [tmAt, obAt, none_done, none_done, h0, h0']
  exact (H.withGones ops).drew

end Go.Sx
end
