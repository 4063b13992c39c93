/-
  Texts: Sx10.
-/
import Derived.Test.YtanlbhkppagfdaaM1
import Derived.Test.YtanlbhkppagfdaaM2
import Derived.Test.YtanlbhkppagfdaaM3
import Derived.Test.YtanlbhkppagfdaaM4
import Derived.Test.YtanlbhkppagfdaaM5
import Derived.Test.YtanlbhkppagfdaaM6
import Derived.Scope
import Derived.Deep.LoopGhost
import Derived.Orders
section
namespace Go.Sx
open Go.RowKit
def sxLoop (body : List SV → List SO → (Exit → List SV → List SO → Prop) → Prop) (K : Exit → List SV → List SO → Prop) : Nat → List SV → List SO → Prop
  | 0, _, _ => StuckAt "rounds"
  | n + 1, tm, ob => body tm ob fun e tm ob => match e with
    | .normal => sxLoop body K n tm ob
    | e => K e tm ob
structure Inv where
  X : Type
  tm : X → List SV
  ob : X → List SO
  holds : X → Prop
  less : X → Nat
inductive Hint where
  | inv (L : Inv)
  | inv1 (L : Inv)
  | cut (L : Inv) (R : L.X → L.X → Prop)
  | invR (L : Inv) (R : L.X → L.X → Prop)
  | split (t k : Nat)
  | merge
  | inv2 (L M : Inv) (p : List SV → List SO → Bool)
  | invs (Ls : List SV → List SO → List Inv) (p : List SV → List SO → Nat)
def getInv : List (Nat × Hint) → Nat → Option Inv
  | [], _ => none
  | (k, .inv L) :: r, n => match Nat.beq k n with
    | true => some L
    | false => getInv r n
  | (_, .split _ _) :: r, n => getInv r n
  | (_, .merge) :: r, n => getInv r n
  | (_, .invs _ _) :: r, n => getInv r n
  | (_, .inv2 _ _ _) :: r, n => getInv r n
  | (_, .inv1 _) :: r, n => getInv r n
  | (_, .cut _ _) :: r, n => getInv r n
  | (_, .invR _ _) :: r, n => getInv r n
def getInv1 : List (Nat × Hint) → Nat → Option Inv
  | [], _ => none
  | (k, .inv1 L) :: r, n => match Nat.beq k n with
    | true => some L
    | false => getInv1 r n
  | (_, .split _ _) :: r, n => getInv1 r n
  | (_, .merge) :: r, n => getInv1 r n
  | (_, .invs _ _) :: r, n => getInv1 r n
  | (_, .inv2 _ _ _) :: r, n => getInv1 r n
  | (_, .inv _) :: r, n => getInv1 r n
  | (_, .cut _ _) :: r, n => getInv1 r n
  | (_, .invR _ _) :: r, n => getInv1 r n
def getInvR : List (Nat × Hint) → Nat → Option ((L : Inv) × (L.X → L.X → Prop))
  | [], _ => none
  | (k, .invR L R) :: r, n => match Nat.beq k n with
    | true => some ⟨L, R⟩
    | false => getInvR r n
  | (_, .split _ _) :: r, n => getInvR r n
  | (_, .merge) :: r, n => getInvR r n
  | (_, .invs _ _) :: r, n => getInvR r n
  | (_, .inv2 _ _ _) :: r, n => getInvR r n
  | (_, .inv _) :: r, n => getInvR r n
  | (_, .inv1 _) :: r, n => getInvR r n
  | (_, .cut _ _) :: r, n => getInvR r n
def getCut : List (Nat × Hint) → Nat → Option ((L : Inv) × (L.X → L.X → Prop))
  | [], _ => none
  | (k, .cut L R) :: r, n => match Nat.beq k n with
    | true => some ⟨L, R⟩
    | false => getCut r n
  | (_, .split _ _) :: r, n => getCut r n
  | (_, .merge) :: r, n => getCut r n
  | (_, .invs _ _) :: r, n => getCut r n
  | (_, .inv2 _ _ _) :: r, n => getCut r n
  | (_, .inv _) :: r, n => getCut r n
  | (_, .inv1 _) :: r, n => getCut r n
  | (_, .invR _ _) :: r, n => getCut r n
def getSplit : List (Nat × Hint) → Nat → Option (Nat × Nat)
  | [], _ => none
  | (k, .split t m) :: r, n => match Nat.beq k n with
    | true => some (t, m)
    | false => getSplit r n
  | (_, .inv _) :: r, n => getSplit r n
  | (_, .merge) :: r, n => getSplit r n
  | (_, .invs _ _) :: r, n => getSplit r n
  | (_, .inv2 _ _ _) :: r, n => getSplit r n
  | (_, .inv1 _) :: r, n => getSplit r n
  | (_, .cut _ _) :: r, n => getSplit r n
  | (_, .invR _ _) :: r, n => getSplit r n
def getInv2 : List (Nat × Hint) → Nat → Option (Inv × Inv × (List SV → List SO → Bool))
  | [], _ => none
  | (k, .inv2 L M p) :: r, n => match Nat.beq k n with
    | true => some (L, M, p)
    | false => getInv2 r n
  | _ :: r, n => getInv2 r n
def getInvs : List (Nat × Hint) → Nat → Option ((List SV → List SO → List Inv) × (List SV → List SO → Nat))
  | [], _ => none
  | (k, .invs Ls p) :: r, n => match Nat.beq k n with
    | true => some (Ls, p)
    | false => getInvs r n
  | _ :: r, n => getInvs r n
def allI : List Inv → (Inv → Prop) → Prop
  | [], _ => True
  | [L], f => f L
  | L :: r, f => f L ∧ allI r f
def nthI : List Inv → Nat → (Inv → Prop) → Prop
  | [], _, _ => StuckAt "invs"
  | L :: r, n, f => match Nat.beq n 0 with
    | true => f L
    | false => nthI r (n - 1) f
theorem allI_mem : ∀ {Ls : List Inv} {f : Inv → Prop}, allI Ls f → ∀ L ∈ Ls, f L
  | [], _, _, L, h => by cases h
  | [M], f, h, L, hL => by rw [List.mem_singleton.1 hL]; exact h
  | M :: N :: r, f, h, L, hL => by
    rcases List.mem_cons.1 hL with rfl | hL
    · exact h.1
    · exact allI_mem h.2 L hL
theorem nthI_ex : ∀ {Ls : List Inv} {n : Nat} {f : Inv → Prop}, nthI Ls n f → ∃ L, L ∈ Ls ∧ f L
  | [], _, _, h => h.no
  | L :: r, n, f, h => by
    unfold nthI at h
    split at h
    · exact ⟨L, by simp, h⟩
    · obtain ⟨M, hM, h⟩ := nthI_ex h
      exact ⟨M, by simp [hM], h⟩
def getMerge : List (Nat × Hint) → Nat → Bool
  | [], _ => false
  | (k, .merge) :: r, n => Nat.beq k n || getMerge r n
  | _ :: r, n => getMerge r n
def firstId : Code → Nat
  | .region id _ _ => id
  | .seq a _ => firstId a
  | .block _ a => firstId a
  | .loop a => firstId a
  | _ => 0
def wC (x y : SC) : List Prop :=
  match x, y with
  | .num k a, .num k' b => if k = k' ∧ a = b then [] else [False]
  | .bit a, .bit b => match a, b with
    | true, true | false, false => []
    | _, _ => [False]
  | .mpr o, .mpr o' => match Nat.beq o o' with
    | true => []
    | false => [False]
  | .ptr o off, .ptr o' off' => match Nat.beq o o' && Nat.beq off off' with
    | true => []
    | false => [False]
  | .sl o off len cap, .sl o' off' len' cap' => match Nat.beq o o' && Nat.beq off off' && Nat.beq len len' with
    | true => [cap = cap']
    | false => [False]
  | .xs a n cap w g, .xs a' n' cap' w' g' => [simC (.xs a n cap w g) (.xs a' n' cap' w' g')]
  | .val (.slice none 0 0), .xs a' n' cap' _ _ => [a' = none, n' = 0, cap' = 0]
  | .px a m h, .px a' m' h' => [simC (.px a m h) (.px a' m' h')]
  | x, y => match noX y with
    | true => [sameC x y]
    | false => [False]
def noXK : SK → Bool
  | .c s => noX s
  | .u _ | .f _ _ _ => true
def wK : List SK → List SK → List Prop
  | [], [] => []
  | .u a :: r, .u b :: r' => (a % M256 = b % M256) :: wK r r'
  | .c x :: r, .c y :: r' => wC x y ++ wK r r'
  | .f k n g :: r, .f k' n' g' :: r' => match (SK.f k' n' g' :: r').all noXK with
    | true => [sameK (.f k n g :: r) (.f k' n' g' :: r')]
    | false => if k = k' ∧ n = n' then (∀ j, j < n → g j = g' j) :: wK r r' else [False]
  | .c a :: .c b :: .c c :: .c d :: r, .u n :: r' => match r'.all noXK with
    | true => [sameK (.c a :: .c b :: .c c :: .c d :: r) (.u n :: r')]
    | false => match asU4 [a, b, c, d] with
      | some (ps, m) => ps ++ (m % M256 = n % M256) :: wK r r'
      | none => [False]
  | xs, ys => match ys.all noXK with
    | true => [sameK xs ys]
    | false => [False]
def wA : SA → SA → List Prop
  | .sc x, .sc y => wC x y
  | .agg ks, .agg ks' => wK ks ks'
  | _, _ => [False]
def wL : List SA → List SA → List Prop
  | [], [] => []
  | x :: r, y :: r' => wA x y ++ wL r r'
  | _, _ => [False]
def weakV : SV → SV → List Prop
  | _, .any => []
  | .one x, .one y => wA x y
  | .tup xs, .tup ys => wL xs ys
  | .gd b x, .gd b' y => (b = b') :: wA x y
  | _, _ => [False]
def weakT : List SV → List SV → List Prop
  | [], [] => []
  | s :: l, s' :: l' => weakV s s' ++ weakT l l'
  | _, _ => [False]
def weakO : Nat → List SO → List SO → List Prop
  | 0, _, [] => []
  | _ + 1, [], [] => []
  | n, .cells e ks sp :: l, .cells e' ks' sp' :: l' => match Nat.beq e e' with
    | true => wK ks ks' ++ (sp = sp') :: weakO (n - 1) l l'
    | false => [False]
  | n, .row e k m g sp :: l, .row e' k' m' g' sp' :: l' => match Nat.beq e e' && Nat.beq k k' with
    | true => (m = m') :: (sp = sp') :: (∀ i, i < m → allC k (fun c => simC (g i c) (g' i c))) :: weakO (n - 1) l l'
    | false => [False]
  | n, .row e k m g sp :: l, .rown e' k' m' g' sp' _ :: l' => match Nat.beq e e' && Nat.beq k k' with
    | true => (m = m') :: (sp = sp') :: (∀ i, i < m → allC k (fun c => simC (g i c) (g' i c))) :: weakO (n - 1) l l'
    | false => [False]
  | n, .rown e k m g sp p :: l, .rown e' k' m' g' sp' p' :: l' => match Nat.beq e e' && Nat.beq k k' && Nat.beq p p' with
    | true => (m = m') :: (sp = sp') :: (∀ i, i < m → allC k (fun c => simC (g i c) (g' i c))) :: weakO (n - 1) l l'
    | false => [False]
  | n, .mp sc k w m key g :: l, .mp sc' k' w' m' key' g' :: l' => match sc == sc' && decide (k = k') && Nat.beq w w' with
    | true => (m = m') :: (∀ i, i < m → key i = key' i) :: (∀ i, i < m → allC w (fun c => simC (g i c) (g' i c))) :: (sc = true → w = 1) :: weakO (n - 1) l l'
    | false => [False]
  | n, .mp _ _ _ _ _ _ :: l, .dead :: l' | n, .rown _ _ _ _ _ _ :: l, .dead :: l' | n, .row _ _ _ _ _ :: l, .dead :: l' | n, .cells _ _ _ :: l, .dead :: l' | n, .dead :: l, .dead :: l' | n, .gone :: l, .dead :: l' | n, .gone :: l, .gone :: l' => weakO (n - 1) l l'
  | _, _, _ => [False]
def swapI (i j k : Nat) : Nat := match Nat.beq k i with
  | true => j
  | false => match Nat.beq k j with
    | true => i
    | false => k
def PV.ren (f : Nat → Nat) : PV → PV
  | .v x => .v x
  | .p o off => .p (f o) off
def SC.ren (f : Nat → Nat) : SC → SC
  | .ptr o off => .ptr (f o) off
  | .pti o base len i => .pti (f o) base len i
  | .sl o off len cap => .sl (f o) off len cap
  | .sls o base lo hi cap => .sls (f o) base lo hi cap
  | .fn g caps => .fn g (caps.map (PV.ren f))
  | .ptw o w i c => .ptw (f o) w i c
  | .slw o w off len cap => .slw (f o) w off len cap
  | .ifc t o off => .ifc t (f o) off
  | .mpr o => .mpr (f o)
  | c => c
def SK.ren (f : Nat → Nat) : SK → SK
  | .c s => .c (s.ren f)
  | k => k
def SA.ren (f : Nat → Nat) : SA → SA
  | .sc c => .sc (c.ren f)
  | .agg ks => .agg (ks.map (SK.ren f))
def SV.ren (f : Nat → Nat) : SV → SV
  | .any => .any
  | .one x => .one (x.ren f)
  | .tup xs => .tup (xs.map (SA.ren f))
  | .gd g x => .gd g (x.ren f)
def SO.ren (f : Nat → Nat) : SO → SO
  | .cells e ks sp => .cells e (ks.map (SK.ren f)) sp
  | .rown e w n g sp p => .rown e w n (fun i c => (g i c).ren f) sp (f p)
  | x => x
def refOf : SV → Option Nat
  | .one (.sc (.ptr o _)) | .one (.sc (.pti o _ _ _)) | .one (.sc (.sl o _ _ _)) | .one (.sc (.sls o _ _ _ _)) | .one (.sc (.ptw o _ _ _)) | .one (.sc (.slw o _ _ _ _)) | .one (.sc (.ifc _ o _)) | .one (.sc (.mpr o)) => some o
  | _ => none
def alignP : List SV → List SV → Option (Nat × Nat)
  | x :: r, y :: r' => match refOf y with
    | none => alignP r r'
    | some j => match refOf x with
      | none => alignP r r'
      | some i => match Nat.beq i j with
        | true => alignP r r'
        | false => some (i, j)
  | _, _ => none
def refC : SC → Option Nat
  | .ptr o _ | .pti o _ _ _ | .sl o _ _ _ | .sls o _ _ _ _ | .ptw o _ _ _ | .slw o _ _ _ _ | .ifc _ o _ | .mpr o => some o
  | _ => none
def alignK : List SK → List SK → Option (Nat × Nat)
  | .c s :: r, .c s' :: r' => match refC s, refC s' with
    | some i, some j => match Nat.beq i j with
      | true => alignK r r'
      | false => some (i, j)
    | _, _ => alignK r r'
  | _ :: r, _ :: r' => alignK r r'
  | _, _ => none
def alignO : List SO → List SO → Option (Nat × Nat)
  | .cells _ ks _ :: l, .cells _ ks' _ :: l' => match alignK ks ks' with
    | some p => some p
    | none => alignO l l'
  | _ :: l, _ :: l' => alignO l l'
  | _, _ => none
def alignQ (tm T : List SV) (ob O : List SO) : Option (Nat × Nat) := match alignP tm T with
  | some p => some p
  | none => alignO ob O
def swapOb (i j : Nat) (ob : List SO) : List SO := (List.range ob.length).map fun k => (ob.getD (swapI i j k) .gone).ren (swapI i j)
def weakA (kn : Nat) (T : List SV) (O : List SO) (X : Prop) : Nat → List SV → List SO → Prop
  | 0, tm, ob => ands (weakT tm T) (ands (weakO kn ob O) X)
  | n + 1, tm, ob => match alignQ tm T ob O with
    | none => ands (weakT tm T) (ands (weakO kn ob O) X)
    | some (i, j) => match Nat.ble kn i && Nat.ble kn j && Nat.blt i ob.length && Nat.blt j ob.length with
      | true => weakA kn T O X n (tm.map (SV.ren (swapI i j))) (swapOb i j ob)
      | false => ands (weakT tm T) (ands (weakO kn ob O) X)
def closedB (tm : List SV) (ob : List SO) : Bool := tm.all (SV.bndB (liveB ob)) && ob.all (obB (liveB ob)) && ob.all (fun o => match o with | .cells _ ks _ => ks.all SK.fit | _ => true)
def isNew : Op → Bool
  | .alloc _ | .box .. | .buildSlice .. | .makeSlice .. => true
  | _ => false
def gones : Nat → List SO
  | 0 => []
  | n + 1 => .gone :: gones n
def kept (ops : Array Oper) (ob : List SO) : List SO := if ops.toList.any (fun o => isNew o.op) then ob ++ gones ops.size else ob
abbrev Drawn := Program → Cx → Array Oper → List SV → List SO → Option Nat
def splitAll (kd : IntKind) (n : Int) (t : Nat) (K : List SV → List SO → Prop) (tm : List SV) (ob : List SO) : Nat → Prop
  | 0 => n = 0 → K (tm.set t (.one (.sc (.num kd 0)))) ob
  | k + 1 => splitAll kd n t K tm ob k ∧ (n = ((k + 1 : Nat) : Int) → K (tm.set t (.one (.sc (.num kd ((k + 1 : Nat) : Int))))) ob)
def thC (b w : Nat) (g : Nat → Nat → SC) : SC → SC
  | .slw _ _ off len cap => .xs (some ⟨b, off * w, none⟩) len cap w (fun i c => g (off + i) c)
  | s => s
def thOK (o w n : Nat) : SC → Prop
  | .slw o' w' off len cap => o' = o ∧ w' = w ∧ off + len ≤ n ∧ len ≤ cap
  | s => bareC s = true
def thO (b o w : Nat) (g : Nat → Nat → SC) : SO → SO
  | .rown e2 w2 n2 g2 sp2 p2 => match Nat.beq p2 o with
    | true => .row e2 w2 n2 (fun i c => thC b w g (g2 i c)) sp2
    | false => .rown e2 w2 n2 g2 sp2 p2
  | x => x
def thPs (o w n : Nat) : List SO → List Prop
  | [] => []
  | .rown _ w2 n2 g2 _ p2 :: r => match Nat.beq p2 o with
    | true => (∀ i, i < n2 → allC w2 fun c => thOK o w n (g2 i c)) :: thPs o w n r
    | false => thPs o w n r
  | _ :: r => thPs o w n r
def frzRow (t : Nat) (K : List SV → List SO → Prop) (tm : List SV) (ob : List SO) : Prop :=
  match tm.getD t .any with
  | .one (.sc (.slw o _ _ _ _)) => match ob[o]? with
    | some (.row _ w n g _) => ∀ b : Nat, match ((ob.map (thO b o w g)).set o .dead).all (obB (liveB ((ob.map (thO b o w g)).set o .dead))) with
      | true => ands (thPs o w n ob) (K (scrub ((ob.map (thO b o w g)).set o .dead) tm) ((ob.map (thO b o w g)).set o .dead))
      | false => StuckAt "freeze"
    | _ => StuckAt "freeze"
  | _ => StuckAt "freeze"
def splitK (sp : Option (Nat × Nat)) (K : List SV → List SO → Prop) (tm : List SV) (ob : List SO) : Prop :=
  match sp with
  | none => K tm ob
  | some (t, k) =>
    match tm.getD t .any with
    | .one (.sc (.val (.int kd n))) => (0 ≤ n ∧ n ≤ (k : Int)) ∧ splitAll kd n t K tm ob k
    | .one (.sc (.ptr o 0)) => match ob[o]? with
      | some (.cells _ ks _) => match (flat ks).all bareC && (ob.set o .dead).all (obB (liveB (ob.set o .dead))) with
        | true => ∀ a : Addr, K ((scrub (ob.set o .dead) tm).set t (.one (.sc (.px a (flat ks).length (fun c => (flat ks).getD c (.bit false)))))) (ob.set o .dead)
        | false => StuckAt "freeze"
      | _ => StuckAt "freeze"
    | .one (.sc (.slw _ _ _ _ _)) => match k with
      | 0 => frzRow t K tm ob
      | k => frzRow t (frzRow k K) tm ob
    | _ => K tm ob
def allOf : List Nat → (Nat → Prop) → Prop
  | [], _ => True
  | [i], f => f i
  | i :: r, f => f i ∧ allOf r f
def freeB (ops : Array Oper) (listed : Array Bool) (i : Nat) (oi : Oper) : Bool :=
  Region.noSelect ops && (List.range ops.size).all fun j => match ops[j]? with
    | some oj => Nat.beq j i || listed.getD j true || oj.after.toList.any (fun e => Region.binds .any e && Nat.beq e.on i) || oi.apart ops oj
    | none => true
def eagerV (P : Program) (m : Bool) (tm : List SV) (o : Oper) : Option SV :=
  match o.guard, o.op with
  | none, .move x | none, .assign x => some (ev tm x)
  | none, .load t x => match ev tm x with
    | .one (.sc (.px _ m h)) => (pieceG P t m h).map SV.one
    | _ => none
  | none, .fieldAddr t x f => match m, ev tm x with
    | true, .one y => match semFldAddr P t f y with
      | some ([], z) => some (.one z)
      | _ => none
    | _, _ => none
  | _, _ => none
def eagerIn (P : Program) (m : Bool) (ops : Array Oper) (listed : Array Bool) (tm : List SV) : List Nat → Option (Nat × Option Tmp × SV)
  | [] => none
  | i :: r => match ops[i]? with
    | some o => match freeB ops listed i o, eagerV P m tm o with
      | true, some sv => some (i, o.dst, sv)
      | _, _ => eagerIn P m ops listed tm r
    | none => eagerIn P m ops listed tm r
def pureOp : Op → Bool
  | .binOp .. | .unOp .. | .convert .. | .index .. | .slice .. | .build .. | .extract .. => true
  | _ => false
def semStrX (x : SA) : VR :=
  match x with
  | .sc (.xs _ len _ w g) => match Nat.beq w 1 with
    | true => some ([∀ j, isKind .u8 (g j 0)], .sc (.val (.string (bytesI ((List.range len).map fun j => intsC (g j 0))))))
    | false => none
  | _ => none
theorem semStrX_sound {P : Program} {ρ : Rho} {E : Env} {s d : TypeId} (hb : isBytes P s d = true) {x z : SA} (hx : x.bnd E) {ps : List Prop} (h : semStrX x = some (ps, z)) (hp : Ok ps) :
    (∀ w, FzOK E.fz w → (convert s d (x.conc ρ)).run P w = .ok (z.conc ρ) w) ∧ z.bnd E := by
  obtain ⟨e, h1, h2, h3⟩ := isBytes_spec hb
  unfold semStrX at h
  split at h
  · rename_i ad len cap k g
    split at h
    · rename_i hk
      have hk := Nat.eq_of_beq_eq_true hk
      subst hk
      simp only [Option.some.injEq, Prod.mk.injEq] at h
      obtain ⟨rfl, rfl⟩ := h
      obtain ⟨hk, _⟩ := hp
      obtain ⟨q1, q2, q3⟩ := hx
      refine ⟨fun w hz => ?_, trivial⟩
      rw [show SA.conc ρ (.sc (.xs ad len cap 1 g)) = .slice ad len cap from rfl, run_convert_bytes_string w s d e _ _ _ h1 h2 h3]
      cases ad with
      | none =>
        obtain ⟨rfl, rfl⟩ := q1 rfl
        rfl
      | some b =>
        obtain ⟨r1, r2⟩ := q3 b rfl
        refine run_bytesToString w _ len cap _ ?_
        have := run_loadCells_list (P := P) w b (((List.range len).map fun j => intsC (g j 0)).map (Value.int .u8)) (fun j v hj => by
          rw [List.getElem?_map, List.getElem?_map] at hj
          obtain ⟨m, hm, rfl⟩ := Option.map_eq_some_iff.1 hj
          obtain ⟨i, hi, rfl⟩ := Option.map_eq_some_iff.1 hm
          obtain ⟨hlt, rfl⟩ := List.getElem?_eq_some_iff.1 hi
          simp only [List.length_range] at hlt
          simp only [List.getElem_range]
          obtain ⟨_, _, p3⟩ := r2 j hlt 0 (by omega)
          have := hz _ _ _ p3
          rw [Nat.mul_one, Nat.add_zero] at this
          rw [fz_add (r1 (by omega)), this, isKind_sound (hk j) Rho.nil])
        simpa using this
    · cases h
  · cases h
def pureE (P : Program) (cx : Cx) (tm : List SV) (o : Oper) : VR :=
  match o.op with
  | .move x | .assign x => rd tm x
  | .load t x => match ev tm x with
    | .one (.sc (.px _ m h)) => (pieceG P t m h).map fun z => ([], z)
    | _ => none
  | .fieldAddr t x f => rd1 tm x (semFldAddr P t f)
  | .indexAddr t x i => match cx.get 1000000019 with
    | some _ => rd2 tm x i (semIdxAddr P t)
    | none => none
  | .convert s d x => match isBytes P s d with
    | true => rd1 tm x semStrX
    | false => match special P cx tm o with
      | none => semVal P tm o
      | some _ => none
  | _ => match pureOp o.op, special P cx tm o with
    | true, none => semVal P tm o
    | _, _ => none
def eagerH (P : Program) (cx : Cx) (ops : Array Oper) (tm : List SV) (o : Oper) : Option (List Prop × SV) :=
  match whenOf ops tm o with
  | some .no => some ([], .one (.sc (.val undef)))
  | some .yes => (pureE P cx tm o).map fun r => (r.1, .one r.2)
  | some (.on g) => (pureE P cx tm o).map fun r => (r.1.map (fun p => g = true → p), .gd g r.2)
  | none => none
def eagerP (P : Program) (cx : Cx) (ops : Array Oper) (tm : List SV) (o : Oper) : Option (List Prop × SV) :=
  match o.guard with
  | none => match cx.get 1000000012 with
    | none => none
    | some _ => match pureOp o.op, special P cx tm o with
      | true, none => (semVal P tm o).map fun r => (r.1, .one r.2)
      | _, _ => match cx.get 1000000019 with
        | none => none
        | some _ => (pureE P cx tm o).map fun r => (r.1, .one r.2)
  | some _ => match cx.get 1000000013 with
    | none => none
    | some _ => eagerH P cx ops tm o
def eagerQ (P : Program) (cx : Cx) (ops : Array Oper) (listed : Array Bool) (tm : List SV) : List Nat → Option (Nat × Option Tmp × List Prop × SV)
  | [] => none
  | i :: r => match ops[i]? with
    | some o => match freeB ops listed i o, eagerP P cx ops tm o with
      | true, some (ps, z) => some (i, o.dst, ps, z)
      | _, _ => eagerQ P cx ops listed tm r
    | none => eagerQ P cx ops listed tm r
def placed (cx : Cx) : Bool := (cx.get 1000000010).isSome
def keptM (cx : Cx) (ops : Array Oper) (ob : List SO) : List SO := match placed cx with
  | true => kept ops ob
  | false => ob
def oneRun (P : Program) (cx : Cx) (inl : Inl) (ops : Array Oper) (b i : Nat) (o : Oper) (tm : List SV) (ob : List SO) (K : List SV → List SO → Prop) : Prop :=
  match placed cx, special P cx tm o with
  | true, none => match semG P cx ops (b + i) tm ob o with
    | some (ps, sv, ob') => ands ps (K (put tm o.dst sv) ob')
    | none => Stuck o
  | _, _ => runs P cx inl ops false i [o] tm ob K
def anyRuns (P : Program) (cx : Cx) (inl : Inl) (ops : Array Oper) (b : Nat) (K : List SV → List SO → Prop) : Nat → Array Bool → List SV → List SO → Prop
  | 0, listed, tm, ob => match Region.ready .any ops listed with
    | [] => K tm ob
    | _ => StuckAt "orders"
  | fuel + 1, listed, tm, ob => match Region.ready .any ops listed with
    | [] => K tm ob
    | r => match eagerIn P (placed cx) ops listed tm r with
      | some (i, dst, sv) => anyRuns P cx inl ops b K fuel (listed.setIfInBounds i true) (put tm dst sv) ob
      | none => match eagerQ P cx ops listed tm r with
        | some (i, dst, ps, z) => ands ps (anyRuns P cx inl ops b K fuel (listed.setIfInBounds i true) (put tm dst z) ob)
        | none => allOf r fun i => match ops[i]? with
          | some o => oneRun P cx inl ops b i o tm ob fun tm ob => anyRuns P cx inl ops b K fuel (listed.setIfInBounds i true) tm ob
          | none => StuckAt "orders"
def plainR (P : Program) (cx : Cx) (ops : Array Oper) : Nat → List Oper → List SV → List SO → Option (List Prop × List SV × List SO)
  | _, [], tm, ob => some ([], tm, ob)
  | i, o :: r, tm, ob =>
    match special P cx tm o with
    | some _ => none
    | none => match semG P cx ops ob.length tm ob o with
      | some (ps, sv, ob') => match plainR P cx ops (i + 1) r (put tm o.dst sv) ob' with
        | some (qs, t, b) => some (ps ++ qs, t, b)
        | none => none
      | none => none
def plainC (P : Program) (cx : Cx) (iv : List (Nat × Hint)) (kf : Nat) : Code → List SV → List SO → Option (List Prop × List SV × List SO)
  | .skip, tm, ob => some ([], tm, ob)
  | .region id ops false, tm, ob => match getSplit iv (kf + id), getCut iv (kf + id), getInvs iv (kf + id + 1000) with
    | none, none, none => plainR P cx ops 0 ops.toList tm ob
    | _, _, _ => none
  | .seq x y, tm, ob => match plainC P cx iv kf x tm ob with
    | some (ps, t, b) => match plainC P cx iv kf y t b with
      | some (qs, t', b') => some (ps ++ qs, t', b')
      | none => none
    | none => none
  | _, _, _ => none
def dsts : Code → List Nat
  | .region _ ops _ => ops.toList.filterMap (·.dst)
  | .seq x y => dsts x ++ dsts y
  | _ => []
def mergeC (b : Bool) : SC → SC → SC
  | .val (.int k x), .val (.int _ y) | .val (.int k x), .num _ y | .num k x, .val (.int _ y) | .num k x, .num _ y => .val (.int k (cond b x y))
  | x, _ => x
def mergeK (b : Bool) : List SK → List SK → List SK
  | .u n :: r, .u m :: r' => .u (cond b n m) :: mergeK b r r'
  | .c x :: r, .c y :: r' => .c (mergeC b x y) :: mergeK b r r'
  | x :: r, _ :: r' => x :: mergeK b r r'
  | l, _ => l
def mergeV (b : Bool) : SV → SV → SV
  | .one (.sc (.val (.int k x))), .one (.sc (.val (.int _ y))) | .one (.sc (.val (.int k x))), .one (.sc (.num _ y)) | .one (.sc (.num k x)), .one (.sc (.val (.int _ y))) | .one (.sc (.num k x)), .one (.sc (.num _ y)) => .one (.sc (.val (.int k (cond b x y))))
  | _, _ => .any
def mergeT (b : Bool) (ds : List Nat) : Nat → List SV → List SV → List SV
  | i, x :: r, y :: r' => (match ds.elem i with
    | true => mergeV b x y
    | false => x) :: mergeT b ds (i + 1) r r'
  | _, l, _ => l
def mergeO (b : Bool) : List SO → List SO → List SO
  | .cells e ks sp :: r, .cells _ ks' _ :: r' => .cells e (mergeK b ks ks') sp :: mergeO b r r'
  | x :: r, _ :: r' => x :: mergeO b r r'
  | _, _ => []
def mergeOf (P : Program) (cx : Cx) (iv : List (Nat × Hint)) (kf kn : Nat) (b : Bool) (x y : Code) (tm : List SV) (ob : List SO) : Option (List Prop × List Prop × List SV × List SO) :=
  match getMerge iv (kf + (match firstId x with | 0 => firstId y | n => n)) with
  | true => match plainC P cx iv kf x tm ob, plainC P cx iv kf y tm ob with
    | some (ps, t1, o1), some (qs, t2, o2) =>
      match closedB (mergeT b (dsts x ++ dsts y) 0 t1 t2) (mergeO b o1 o2) with
      | true => some (ps ++ (weakT t1 (mergeT b (dsts x ++ dsts y) 0 t1 t2) ++ weakO kn o1 (mergeO b o1 o2)), qs ++ (weakT t2 (mergeT b (dsts x ++ dsts y) 0 t1 t2) ++ weakO kn o2 (mergeO b o1 o2)), mergeT b (dsts x ++ dsts y) 0 t1 t2, mergeO b o1 o2)
      | false => none
    | _, _ => none
  | false => none
def okAll : List Prop → Prop
  | [] => True
  | [p] => p
  | p :: r => p ∧ okAll r
theorem okAll_iff : ∀ {l : List Prop}, okAll l → Ok l
  | [], _ => trivial
  | [_], h => ⟨h, trivial⟩
  | _ :: _ :: _, h => ⟨h.1, okAll_iff h.2⟩
def inv2End (kn : Nat) (L M : Inv) (p : List SV → List SO → Bool) (b : Nat) (tm : List SV) (ob : List SO) : Prop :=
  match p tm ob with
  | true => ∃ y', L.holds y' ∧ weakA kn (L.tm y') (L.ob y') (L.less y' < b) 4 tm ob
  | false => ∃ y', M.holds y' ∧ weakA kn (M.tm y') (M.ob y') (M.less y' < b) 4 tm ob
def headL (n size : Nat) : Array Bool := ((List.range size).map fun j => Nat.blt j n).toArray
def drawnRun (P : Program) (cx : Cx) (inl : Inl) (ops : Array Oper) (tm : List SV) (ob : List SO) (n : Nat) (K : List SV → List SO → Prop) : Prop :=
  match Nat.blt n 1000 with
  | true => runs P cx noInl ops true ob.length (ops.toList.take n) tm (kept ops ob) fun tm ob => runs P cx inl ops false n (ops.toList.drop n) tm ob K
  | false => runs P cx noInl ops true ob.length (ops.toList.take (n - 1000)) tm (kept ops ob) fun tm ob' => anyRuns P cx inl ops ob.length K (ops.size - (n - 1000)) (headL (n - 1000) ops.size) tm ob'
def regionS (P : Program) (cx : Cx) (inl : Inl) (dr : Drawn) (ops : Array Oper) (draw : Bool) (tm : List SV) (ob : List SO) (K : List SV → List SO → Prop) : Prop :=
  match draw with
  | false => runs P cx inl ops false 0 ops.toList tm ob K
  | true => match dr P cx ops tm ob with
    | some n => drawnRun P cx inl ops tm ob n K
    | none => match P.follows .mixedOrders with
      | true => anyRuns P cx inl ops ob.length K ops.size (Array.replicate ops.size false) tm (keptM cx ops ob)
      | false => StuckAt "order"
def sx (P : Program) (cx : Cx) (inl : Inl) (dr : Drawn) (iv : List (Nat × Hint)) (N kf kn : Nat) : Code → List SV → List SO → (Exit → List SV → List SO → Prop) → Prop
  | .skip, tm, ob, K => K .normal tm ob
  | .label _, tm, ob, K => K .normal tm ob
  | .exit id, tm, ob, K => K (.exit id) tm ob
  | .ret, tm, ob, K => K .ret tm ob
  | .region id ops draw, tm, ob, K =>
    match getCut iv (kf + id) with
    | none => match getInvs iv (kf + id + 1000) with
      | none => regionS P cx inl dr ops draw tm ob (splitK (getSplit iv (kf + id)) (K .normal))
      | some (Lf, p) => allI (Lf tm ob) (fun L => (∀ y, closedB (L.tm y) (L.ob y) = true) ∧ ∀ y, L.holds y → K .normal (L.tm y) (L.ob y)) ∧ regionS P cx inl dr ops draw tm ob fun tm' ob' => nthI (Lf tm ob) (p tm' ob') fun L => ∃ y, L.holds y ∧ weakA kn (L.tm y) (L.ob y) True 4 tm' ob'
    | some ⟨L, R⟩ => (∀ y, closedB (L.tm y) (L.ob y) = true) ∧ ∃ y0, (∀ y, L.holds y → R y0 y → K .normal (L.tm y) (L.ob y)) ∧ regionS P cx inl dr ops draw tm ob fun tm ob => ∃ y, (L.holds y ∧ R y0 y) ∧ weakA kn (L.tm y) (L.ob y) True 4 tm ob
  | .seq x y, tm, ob, K => sx P cx inl dr iv N kf kn x tm ob fun e tm ob => match e with
    | .normal => sx P cx inl dr iv N kf kn y tm ob K
    | e => K e tm ob
  | .cond c x y, tm, ob, K =>
    match rd tm c with
    | some (ps, .sc (.bit true)) => ands ps (sx P cx inl dr iv N kf kn x tm ob K)
    | some (ps, .sc (.bit false)) => ands ps (sx P cx inl dr iv N kf kn y tm ob K)
    | some (ps, .sc (.val (.bool b))) => match mergeOf P cx iv kf kn b x y tm ob with
      | some (p1, p2, tm', ob') => ands ps ((b = true → okAll p1) ∧ (b = false → okAll p2) ∧ K .normal tm' ob')
      | none => ands ps ((b = true → sx P cx inl dr iv N kf kn x tm ob K) ∧ (b = false → sx P cx inl dr iv N kf kn y tm ob K))
    | _ => StuckAt "cond"
  | .block id x, tm, ob, K => sx P cx inl dr iv N kf kn x tm ob fun e tm ob => match e with
    | .exit i => match Nat.beq i id with
      | true => K .normal tm ob
      | false => K (.exit i) tm ob
    | e => K e tm ob
  | .scope x, tm, ob, K => sx P cx inl dr iv N kf kn x tm ob fun e tm ob => match e with
    | .goto _ => StuckAt "goto"
    | e => K e tm ob
  | .loop x, tm, ob, K =>
    match getInv iv (kf + firstId x) with
    | none => match getInv1 iv (kf + firstId x) with
      | none => match getInvR iv (kf + firstId x) with
        | none => match getInv2 iv (kf + firstId x) with
          | none => match getInvs iv (kf + firstId x) with
            | none => sxLoop (sx P cx inl dr iv N kf kn x) K N tm ob
            | some (Lf, p) => allI (Lf tm ob) (fun L => ∀ y, closedB (L.tm y) (L.ob y) = true) ∧ nthI (Lf tm ob) (p tm ob) (fun L => ∃ y, L.holds y ∧ weakA kn (L.tm y) (L.ob y) True 4 tm ob) ∧ allI (Lf tm ob) fun L => ∀ y, L.holds y → sx P cx inl dr iv N kf kn x (L.tm y) (L.ob y) fun e tm' ob' => match e with
              | .normal => nthI (Lf tm ob) (p tm' ob') fun L' => ∃ y', L'.holds y' ∧ weakA kn (L'.tm y') (L'.ob y') (L'.less y' < L.less y) 4 tm' ob'
              | e => K e tm' ob'
          | some (L, M, p) => (∀ y, closedB (L.tm y) (L.ob y) = true) ∧ (∀ y, closedB (M.tm y) (M.ob y) = true) ∧ (∀ y, M.holds y → sx P cx inl dr iv N kf kn x (M.tm y) (M.ob y) fun e tm ob => match e with
            | .normal => inv2End kn L M p (M.less y) tm ob
            | e => K e tm ob) ∧ ∃ y, L.holds y ∧ weakA kn (L.tm y) (L.ob y) (∀ y, L.holds y → sx P cx inl dr iv N kf kn x (L.tm y) (L.ob y) fun e tm ob => match e with
              | .normal => inv2End kn L M p (L.less y) tm ob
              | e => K e tm ob) 4 tm ob
        | some ⟨L, R⟩ => (∀ y, closedB (L.tm y) (L.ob y) = true) ∧ ∃ y0, (L.holds y0 ∧ R y0 y0) ∧ weakA kn (L.tm y0) (L.ob y0) (∀ y, L.holds y → R y0 y → sx P cx inl dr iv N kf kn x (L.tm y) (L.ob y) fun e tm ob => match e with
          | .normal => ∃ y', (L.holds y' ∧ R y0 y') ∧ weakA kn (L.tm y') (L.ob y') (L.less y' < L.less y) 4 tm ob
          | e => K e tm ob) 4 tm ob
      | some L => (∀ y, closedB (L.tm y) (L.ob y) = true) ∧ (∀ y, L.holds y → sx P cx inl dr iv N kf kn x (L.tm y) (L.ob y) fun e tm ob => match e with
        | .normal => ∃ y', L.holds y' ∧ weakA kn (L.tm y') (L.ob y') (L.less y' < L.less y) 4 tm ob
        | e => K e tm ob) ∧ sx P cx inl dr iv N kf kn x tm ob fun e tm ob => match e with
        | .normal => ∃ y', L.holds y' ∧ weakA kn (L.tm y') (L.ob y') True 4 tm ob
        | e => K e tm ob
    | some L => (∀ y, closedB (L.tm y) (L.ob y) = true) ∧ ∃ y, L.holds y ∧ weakA kn (L.tm y) (L.ob y) (∀ y, L.holds y → sx P cx inl dr iv N kf kn x (L.tm y) (L.ob y) fun e tm ob => match e with
      | .normal => ∃ y', L.holds y' ∧ weakA kn (L.tm y') (L.ob y') (L.less y' < L.less y) 4 tm ob
      | e => K e tm ob) 4 tm ob
  | _, _, _, _ => StuckAt "code"
def DrawnOK (P : Program) (cx : Cx) (dr : Drawn) : Prop :=
  ∀ kn ops tm ob n, dr P { cx with kn := kn } ops tm ob = some n → ∀ {inl : Inl}, InlOK P cx.gl inl → ∀ {W0 : Base} {ρ : Rho} {a : Act} {w : World} {Q : Exit → Act → World → Prop} {K : List SV → List SO → Prop} {id : Nat},
    CxAt { cx with kn := kn } W0 → Holds W0 ρ tm ob a w → drawnRun P { cx with kn := kn } inl ops tm ob n K → (∀ ρ tm ob a w, Holds W0 ρ tm ob a w → K tm ob → Q .normal a w) → (Code.region id ops true).wp P Q a w
section
variable {P : Program} {W0 : Base}
theorem wC_sound {x y : SC} (h : Ok (wC x y)) (ρ : Rho) : x.conc ρ = y.conc ρ := by
  unfold wC at h
  split at h
  · split at h
    · rename_i e; obtain ⟨rfl, rfl⟩ := e; rfl
    · exact h.1.elim
  · split at h
    · rfl
    · rfl
    · exact h.1.elim
  · split at h
    · rename_i e
      rw [Nat.eq_of_beq_eq_true e]
    · exact h.1.elim
  · split at h
    · rename_i e
      simp only [Bool.and_eq_true] at e
      rw [Nat.eq_of_beq_eq_true e.1, Nat.eq_of_beq_eq_true e.2]
    · exact h.1.elim
  · split at h
    · rename_i e
      simp only [Bool.and_eq_true] at e
      rw [Nat.eq_of_beq_eq_true e.1.1, Nat.eq_of_beq_eq_true e.1.2, Nat.eq_of_beq_eq_true e.2, h.1]
    · exact h.1.elim
  · exact simC_sound ρ h.1
  · obtain ⟨rfl, rfl, rfl, _⟩ := h; rfl
  · exact simC_sound ρ h.1
  · split at h
    · exact sameC_sound h.1 ρ
    · exact h.1.elim
theorem noX_soft {E : Env} {y : SC} (h : noX y = true) : y.bnd E.soft := by
  cases y <;> first | trivial | (intro c _; cases c <;> trivial) | (simp [noX] at h; done)
theorem wC_soft {x y : SC} (h : Ok (wC x y)) {E : Env} (hb : x.bnd E) : y.bnd E.soft := by
  unfold wC at h
  split at h
  · trivial
  · trivial
  · exact True.intro
  · exact True.intro
  · exact True.intro
  · exact SC.bnd_mono E.le_soft (simC_bnd _ h.1 hb)
  · obtain ⟨rfl, rfl, rfl, _⟩ := h
    exact ⟨fun _ => ⟨rfl, rfl⟩, Nat.le_refl _, fun b hb => by cases hb⟩
  · exact SC.bnd_mono E.le_soft (simC_bnd _ h.1 hb)
  · split at h
    · rename_i hn; exact noX_soft hn
    · exact h.1.elim
theorem wK_sound (ρ : Rho) (xs ys : List SK) : Ok (wK xs ys) → concs ρ xs = concs ρ ys := by
  induction xs, ys using wK.induct with
  | case1 => intro _; rfl
  | case2 a r b r' ih =>
    intro h
    simp only [wK] at h
    rw [concs_cons, concs_cons ρ (.u b), concs_u_congr h.1, ih h.2]
  | case3 x r y r' ih =>
    intro h
    simp only [wK] at h
    obtain ⟨h1, h2⟩ := Ok.append.1 h
    rw [concs_cons, concs_cons ρ (.c y), ih h2]
    simp [concs, flat, SK.cells, wC_sound h1 ρ]
  | case4 k n g r k' n' g' r' hx =>
    intro h
    rw [wK, hx] at h
    exact sameK_sound ρ _ _ h.1
  | case5 k n g r k' n' g' r' hx hc ih =>
    intro h
    rw [wK, hx] at h
    simp only [hc, and_self, if_true] at h
    obtain ⟨rfl, rfl⟩ := hc
    rw [concs_cons, concs_cons ρ (.f k n g'), ih h.2, concs_f, concs_f]
    congr 1
    exact List.map_congr_left fun j hj => by rw [h.1 j (List.mem_range.1 hj)]
  | case6 k n g r k' n' g' r' hx hc =>
    intro h
    rw [wK, hx] at h
    simp only [hc, if_false] at h
    exact h.1.elim
  | case7 a b c d r n r' hx =>
    intro h
    rw [wK, hx] at h
    exact sameK_sound ρ _ _ h.1
  | case8 a b c d r n r' hx ps m hm ih =>
    intro h
    simp only [wK, hx, hm] at h
    obtain ⟨hp, h1, h2⟩ := Ok.append.1 h
    have := asU4_concs hm hp ρ
    rw [concs_cons ρ (.u n), ← concs_u_congr h1, ← this, ← ih h2]
    simp [concs, flat, SK.cells]
  | case9 a b c d r n r' hx hm =>
    intro h
    simp only [wK, hx, hm] at h
    exact h.1.elim
  | case10 xs ys h1 h2 h3 h4 h5 hx =>
    intro h
    rw [wK] at h
    · rw [hx] at h; exact sameK_sound ρ _ _ h.1
    all_goals assumption
  | case11 xs ys h1 h2 h3 h4 h5 hx =>
    intro h
    rw [wK] at h
    · rw [hx] at h; exact h.1.elim
    all_goals assumption
theorem wK_soft {E : Env} (xs ys : List SK) : Ok (wK xs ys) → (∀ k ∈ xs, k.bnd E) → ∀ k ∈ ys, k.bnd E.soft := by
  have soft : ∀ {ys : List SK}, ys.all noXK = true → ∀ k ∈ ys, k.bnd E.soft := by
    intro ys h k hk
    have := List.all_eq_true.1 h k hk
    cases k with
    | c s => exact noX_soft this
    | u _ => trivial
    | f _ _ _ => trivial
  induction xs, ys using wK.induct with
  | case1 => intro _ _ k hk; cases hk
  | case2 a r b r' ih =>
    intro h hx k hk
    simp only [wK] at h
    rcases List.mem_cons.1 hk with rfl | hk
    · trivial
    · exact ih h.2 (fun k hk => hx k (by simp [hk])) k hk
  | case3 x r y r' ih =>
    intro h hx k hk
    simp only [wK] at h
    obtain ⟨h1, h2⟩ := Ok.append.1 h
    rcases List.mem_cons.1 hk with rfl | hk
    · exact wC_soft h1 (hx (.c x) (by simp))
    · exact ih h2 (fun k hk => hx k (by simp [hk])) k hk
  | case4 k n g r k' n' g' r' hx => intro _ _; exact soft hx
  | case5 k n g r k' n' g' r' hx hc ih =>
    intro h hb k hk
    rw [wK, hx] at h
    simp only [hc, and_self, if_true] at h
    rcases List.mem_cons.1 hk with rfl | hk
    · trivial
    · exact ih h.2 (fun k hk => hb k (by simp [hk])) k hk
  | case6 k n g r k' n' g' r' hx hc =>
    intro h
    rw [wK, hx] at h
    simp only [hc, if_false] at h
    exact h.1.elim
  | case7 a b c d r n r' hx =>
    intro _ _ k hk
    rcases List.mem_cons.1 hk with rfl | hk
    · trivial
    · exact soft hx k hk
  | case8 a b c d r n r' hx ps m hm ih =>
    intro h hb k hk
    simp only [wK, hx, hm] at h
    obtain ⟨_, _, h2⟩ := Ok.append.1 h
    rcases List.mem_cons.1 hk with rfl | hk
    · trivial
    · exact ih h2 (fun k hk => hb k (by simp [hk])) k hk
  | case9 a b c d r n r' hx hm =>
    intro h
    simp only [wK, hx, hm] at h
    exact h.1.elim
  | case10 xs ys h1 h2 h3 h4 h5 hx => intro _ _; exact soft hx
  | case11 xs ys h1 h2 h3 h4 h5 hx =>
    intro h
    rw [wK] at h
    · rw [hx] at h; exact h.1.elim
    all_goals assumption
theorem wA_sound (ρ : Rho) {x y : SA} (h : Ok (wA x y)) : x.conc ρ = y.conc ρ := by
  unfold wA at h
  split at h
  · exact wC_sound h ρ
  · simp only [SA.conc, wK_sound ρ _ _ h]
  · exact h.1.elim
theorem wA_soft {E : Env} {x y : SA} (h : Ok (wA x y)) (hb : x.bnd E) : y.bnd E.soft := by
  unfold wA at h
  split at h
  · exact wC_soft h hb
  · exact wK_soft _ _ h hb
  · exact h.1.elim
theorem wL_sound (ρ : Rho) : ∀ {xs ys : List SA}, Ok (wL xs ys) → xs.map (SA.conc ρ) = ys.map (SA.conc ρ)
  | [], [], _ => rfl
  | x :: r, y :: r', h => by
    simp only [wL] at h
    obtain ⟨h1, h2⟩ := Ok.append.1 h
    rw [List.map_cons, List.map_cons, wA_sound ρ h1, wL_sound ρ h2]
  | [], _ :: _, h | _ :: _, [], h => h.1.elim
theorem wL_soft {E : Env} : ∀ {xs ys : List SA}, Ok (wL xs ys) → (∀ x ∈ xs, x.bnd E) → ∀ y ∈ ys, y.bnd E.soft
  | [], [], _, _ => fun y hy => by cases hy
  | x :: r, y :: r', h, hx => by
    simp only [wL] at h
    obtain ⟨h1, h2⟩ := Ok.append.1 h
    intro z hz
    rcases List.mem_cons.1 hz with rfl | hz
    · exact wA_soft h1 (hx x (by simp))
    · exact wL_soft h2 (fun x hx' => hx x (by simp [hx'])) z hz
  | [], _ :: _, h, _ | _ :: _, [], h, _ => h.1.elim
theorem weakV_sound {ρ : Rho} {s s' : SV} (h : Ok (weakV s s')) : ∀ v, s.rep ρ v → s'.rep ρ v := by
  unfold weakV at h
  split at h
  · exact fun _ _ => trivial
  · intro v k; simp only [SV.rep] at k ⊢; rw [k, wA_sound ρ h]
  · intro v k; simp only [SV.rep] at k ⊢; rw [k, wL_sound ρ h]
  · obtain ⟨rfl, h⟩ := h
    intro v k; simp only [SV.rep] at k ⊢; rw [k, wA_sound ρ h]
  · exact h.1.elim
theorem weakV_soft {E : Env} {s s' : SV} (h : Ok (weakV s s')) (hb : s.bnd E) : s'.bnd E.soft := by
  unfold weakV at h
  split at h
  · trivial
  · exact wA_soft h hb
  · exact wL_soft h hb
  · obtain ⟨rfl, h⟩ := h
    exact fun e => wA_soft h (hb e)
  · exact h.1.elim
theorem weakT_sound : ∀ {tm tm' : List SV}, Ok (weakT tm tm') → tm.length = tm'.length ∧ ∀ t : Nat, Ok (weakV (tm.getD t .any) (tm'.getD t .any))
  | [], [], _ => ⟨rfl, fun t => by simp [weakV, Ok]⟩
  | s :: l, s' :: l', h => by
    simp only [weakT] at h
    obtain ⟨h1, h2⟩ := Ok.append.1 h
    obtain ⟨a1, a2⟩ := weakT_sound h2
    refine ⟨by simp [a1], fun t => ?_⟩
    cases t with
    | zero => exact h1
    | succ t => simpa using a2 t
  | [], _ :: _, h => h.1.elim
  | _ :: _, [], h => h.1.elim
def SO.below (x x' : SO) : Prop := x.has = true ∧ x.spare = x'.spare ∧ (∀ (ρ : Rho) (E : Env) (rest : List Value), x.ok E → x.lies ρ rest = x'.lies ρ rest) ∧ ∀ E : Env, x.ok E → match x' with
  | .cells _ ks _ => ∀ k ∈ ks, k.bnd E.soft
  | .row _ w n g _ => rowOK E w n g
  | .rown _ w n g _ p => rowOKn E w n g p
  | .mp _ _ w n _ g => rowOK E w n g
  | _ => True
theorem rowc_congr {w n : Nat} {g g' : Nat → Nat → SC} (h : ∀ i, i < n → allC w (fun c => simC (g i c) (g' i c))) : rowc w n g = rowc w n g' := by
  refine rowc_ext (rowc_length _ _ _) fun i c hi hc => ?_
  rw [rowc_get hi hc, simC_sound Rho.nil (allC_at (h i hi) c hc)]
theorem weakO_sound : ∀ (n : Nat) (ob ob' : List SO), n ≤ ob.length → Ok (weakO n ob ob') → n ≤ ob'.length ∧ (∀ (i : Nat) x', ob'[i]? = some x' → x'.has = true → ∃ x, ob[i]? = some x ∧ x.below x') ∧
    (∀ i : Nat, i < n → (∀ x, ob[i]? = some x → x.has = true → live ob' i ∨ ob'[i]? = some .dead) ∧ (ob[i]? = some .dead → ob'[i]? = some .dead)) := by
  intro n ob ob'
  have tail : ∀ {n : Nat} {y y' : SO} {l l' : List SO}, n ≤ (y :: l).length → (n - 1 ≤ l.length → n - 1 ≤ l'.length ∧ (∀ (i : Nat) x', l'[i]? = some x' → x'.has = true → ∃ x, l[i]? = some x ∧ x.below x') ∧
      (∀ i : Nat, i < n - 1 → (∀ x, l[i]? = some x → x.has = true → live l' i ∨ l'[i]? = some .dead) ∧ (l[i]? = some .dead → l'[i]? = some .dead))) →
      (y'.has = true → y.below y') → ((∀ x, y = x → x.has = true → y'.has = true ∨ y' = .dead) ∧ (y = .dead → y' = .dead)) →
      n ≤ (y' :: l').length ∧ (∀ (i : Nat) x', (y' :: l')[i]? = some x' → x'.has = true → ∃ x, (y :: l)[i]? = some x ∧ x.below x') ∧
      (∀ i : Nat, i < n → (∀ x, (y :: l)[i]? = some x → x.has = true → live (y' :: l') i ∨ (y' :: l')[i]? = some .dead) ∧ ((y :: l)[i]? = some .dead → (y' :: l')[i]? = some .dead)) := by
    intro n y y' l l' hn ih hy hz
    simp only [List.length_cons] at hn
    obtain ⟨h1, h2, h3⟩ := ih (by omega)
    refine ⟨by simp only [List.length_cons]; omega, fun i x' hi hx => ?_, fun i hi => ?_⟩
    · cases i with
      | zero =>
        simp only [List.getElem?_cons_zero, Option.some.injEq] at hi
        subst hi
        exact ⟨y, rfl, hy hx⟩
      | succ i => simp only [List.getElem?_cons_succ] at hi ⊢; exact h2 i _ hi hx
    · cases i with
      | zero =>
        refine ⟨fun x h hx => ?_, fun h => ?_⟩
        · simp only [List.getElem?_cons_zero, Option.some.injEq] at h
          rcases hz.1 x h hx with k | k
          · exact .inl ⟨y', rfl, k⟩
          · exact .inr (by rw [k]; rfl)
        · simp only [List.getElem?_cons_zero, Option.some.injEq] at h
          rw [hz.2 h]; rfl
      | succ i =>
        obtain ⟨a, b⟩ := h3 i (by omega)
        refine ⟨fun x h hx => ?_, fun h => b h⟩
        rcases a x h hx with ⟨z, k1, k2⟩ | k
        · exact .inl ⟨z, k1, k2⟩
        · exact .inr k
  induction n, ob, ob' using weakO.induct with
  | case1 ob => intro _ _; exact ⟨Nat.zero_le _, fun i x' h => by simp at h, fun i hi => by omega⟩
  | case2 n => intro hn _; simp at hn
  | case3 n e ks sp l e' ks' sp' l' he ih =>
    intro hn h
    simp only [weakO, he] at h
    have he := Nat.eq_of_beq_eq_true he
    subst he
    obtain ⟨hk, hh⟩ := Ok.append.1 h
    have hsp : sp = sp' := hh.1
    have hh' : Ok (weakO (n - 1) l l') := hh.2
    subst hsp
    exact tail hn (fun h => ih h hh') (fun _ => ⟨rfl, rfl, fun ρ _ rest _ => congrArg (fun l => Obj.cells (l ++ rest).toArray e (0, 0)) (wK_sound ρ _ _ hk), fun E hx => wK_soft _ _ hk hx.1⟩) ⟨fun _ _ _ => .inl rfl, fun h => by cases h⟩
  | case4 n e ks sp l e' ks' sp' l' he =>
    intro hn h
    simp only [weakO, he] at h
    exact h.1.elim
  | case5 n e k m g sp l e' k' m' g' sp' l' he ih =>
    intro hn h
    simp only [weakO, he] at h
    simp only [Bool.and_eq_true] at he
    have he1 := Nat.eq_of_beq_eq_true he.1
    have he2 := Nat.eq_of_beq_eq_true he.2
    obtain ⟨hm, hsp, hg, hh'⟩ := h
    subst he1 he2 hm hsp
    exact tail hn (fun h => ih h hh') (fun _ => ⟨rfl, rfl, fun ρ _ rest _ => congrArg (fun l => Obj.cells (l ++ rest).toArray e (0, 0)) (rowc_congr hg), fun E hx i hi c hc => ⟨simC_bnd _ (allC_at (hg i hi) c hc) (hx i hi c hc).1, simC_fit (allC_at (hg i hi) c hc) (hx i hi c hc).2⟩⟩) ⟨fun _ _ _ => .inl rfl, fun h => by cases h⟩
  | case6 n e k m g sp l e' k' m' g' sp' l' he =>
    intro hn h
    simp only [weakO, he] at h
    exact h.1.elim
  | case7 n e k m g sp l e' k' m' g' sp' p' l' he ih =>
    intro hn h
    simp only [weakO, he] at h
    simp only [Bool.and_eq_true] at he
    have he1 := Nat.eq_of_beq_eq_true he.1
    have he2 := Nat.eq_of_beq_eq_true he.2
    obtain ⟨hm, hsp, hg, hh'⟩ := h
    subst he1 he2 hm hsp
    exact tail hn (fun h => ih h hh') (fun _ => ⟨rfl, rfl, fun ρ E rest hx => congrArg (fun l => Obj.cells (l ++ rest).toArray e (0, 0)) (rowc_pt fun i hi c hc => by
      rw [← conc_bare (hx i hi c hc).1 ρ]
      exact simC_sound ρ (allC_at (hg i hi) c hc)), fun E hx i hi c hc => ⟨simC_bnd _ (allC_at (hg i hi) c hc) (SC.bnd_mono (n := E.bare) (m := E.one p') ⟨fun _ k => False.elim k, fun _ _ _ k => k⟩ (hx i hi c hc).1), simC_fit (allC_at (hg i hi) c hc) (hx i hi c hc).2⟩⟩) ⟨fun _ _ _ => .inl rfl, fun h => by cases h⟩
  | case8 n e k m g sp l e' k' m' g' sp' p' l' he =>
    intro hn h
    simp only [weakO, he] at h
    exact h.1.elim
  | case9 n e k m g sp p l e' k' m' g' sp' p' l' he ih =>
    intro hn h
    simp only [weakO, he] at h
    simp only [Bool.and_eq_true] at he
    have he1 := Nat.eq_of_beq_eq_true he.1.1
    have he2 := Nat.eq_of_beq_eq_true he.1.2
    have he3 := Nat.eq_of_beq_eq_true he.2
    obtain ⟨hm, hsp, hg, hh'⟩ := h
    subst he1 he2 he3 hm hsp
    exact tail hn (fun h => ih h hh') (fun _ => ⟨rfl, rfl, fun ρ E rest hx => congrArg (fun l => Obj.cells (l ++ rest).toArray e (0, 0)) (rowc_pt fun i hi c hc => simC_sound ρ (allC_at (hg i hi) c hc)), fun E hx i hi c hc => ⟨simC_bnd _ (allC_at (hg i hi) c hc) (hx.2 i hi c hc).1, simC_fit (allC_at (hg i hi) c hc) (hx.2 i hi c hc).2⟩⟩) ⟨fun _ _ _ => .inl rfl, fun h => by cases h⟩
  | case10 n e k m g sp p l e' k' m' g' sp' p' l' he =>
    intro hn h
    simp only [weakO, he] at h
    exact h.1.elim
  | case11 n sc k w m key g l sc' k' w' m' key' g' l' he ih =>
    intro hn h
    simp only [weakO, he] at h
    simp only [Bool.and_eq_true, decide_eq_true_eq, beq_iff_eq] at he
    obtain ⟨⟨he1, he2⟩, he3⟩ := he
    have he3 := Nat.eq_of_beq_eq_true he3
    obtain ⟨hm, hk, hg, hs, hh'⟩ := h
    subst he1 he2 he3 hm
    refine tail hn (fun h => ih h hh') (fun _ => ⟨rfl, rfl, fun ρ E rest hx => ?_, fun E hx i hi c hc => ⟨simC_bnd _ (allC_at (hg i hi) c hc) (hx i hi c hc).1, simC_fit (allC_at (hg i hi) c hc) (hx i hi c hc).2⟩⟩) ⟨fun _ _ _ => .inl rfl, fun h => by cases h⟩
    refine congrArg (fun l => Obj.map l m) ?_
    refine congrArg List.toArray (List.map_congr_left fun i hi => ?_)
    have hi := List.mem_range.1 hi
    have e1 := hk i hi
    have e2 : mpV sc w (g i) = mpV sc w (g' i) := by
      unfold mpV
      cases sc with
      | true => exact simC_sound Rho.nil (allC_at (hg i hi) 0 (by rw [hs rfl]; exact Nat.one_pos))
      | false => exact congrArg (fun l => Value.agg (List.toArray l)) (List.map_congr_left fun c hc => simC_sound Rho.nil (allC_at (hg i hi) c (List.mem_range.1 hc)))
    rw [e1, e2]
  | case12 n sc k w m key g l sc' k' w' m' key' g' l' he =>
    intro hn h
    simp only [weakO, he] at h
    exact h.1.elim
  | case13 n sc k w m key g l l' ih | case14 n e k m g sp p l l' ih | case15 n e k m g sp l l' ih | case16 n e ks sp l l' ih | case17 n l l' ih | case18 n l l' ih =>
    intro hn h
    simp only [weakO] at h
    exact tail hn (fun k => ih k h) (fun k => by cases k) ⟨fun _ _ _ => .inr rfl, fun _ => rfl⟩
  | case19 n l l' ih =>
    intro hn h
    simp only [weakO] at h
    exact tail hn (fun k => ih k h) (fun k => by cases k) ⟨fun x h1 h2 => (by subst h1; cases h2), fun h => (by cases h)⟩
  | case20 => intro _ h; rw [weakO] at h <;> first | exact h.1.elim | assumption
theorem Holds.weaken {ρ : Rho} {tm tm' : List SV} {ob ob' : List SO} {a : Act} {w : World} (H : Holds W0 ρ tm ob a w) {kn : Nat} (hkn : W0.ob.length ≤ kn) (hkl : kn ≤ ob.length) (ht : Ok (weakT tm tm')) (ho : Ok (weakO kn ob ob')) (hc : closedB tm' ob' = true) : Holds W0 ρ tm' ob' a w ∧ kn ≤ ob'.length := by
  obtain ⟨h1, h2⟩ := weakT_sound ht
  obtain ⟨k1, k2, k3⟩ := weakO_sound _ _ _ hkl ho
  simp only [closedB, Bool.and_eq_true, List.all_eq_true] at hc
  obtain ⟨⟨c1, c2⟩, c3⟩ := hc
  have old : ∀ i, live ob' i → live ob i := by
    rintro i ⟨x', hi, hx⟩
    obtain ⟨x, h0, hb⟩ := k2 i x' hi hx
    exact ⟨x, h0, hb.1⟩
  refine ⟨⟨H.size.trans h1, fun t => weakV_sound (h2 t) _ (H.rep t), fun t => ?_, H.defers, H.below, ⟨fun i x' hi hx => ?_, fun i j hi hj hij => H.mem.injs _ _ (old i hi) (old j hj) hij, fun b o v hv => ⟨(H.mem.frz b o v hv).1, fun i hi => (H.mem.frz b o v hv).2 i (old i hi)⟩⟩, ⟨fun i hi => ?_, fun i hi => ?_, by omega⟩, H.gl, H.fzs, fun b z hz => ⟨(H.keeps b z hz).1, fun i hi => (H.keeps b z hz).2 i (old i hi)⟩⟩, k1⟩
  · have hs := weakV_soft (h2 t) (H.bnd t)
    rcases Nat.lt_or_ge t tm'.length with hlt | hge
    · have := c1 tm'[t] (List.getElem_mem hlt)
      simp only [List.getD_eq_getElem?_getD, List.getElem?_eq_getElem hlt, Option.getD_some] at hs ⊢
      exact SV.bnd_re (E := lv ρ ob) (m := lv ρ ob') (fun _ => liveB_iff) (fun _ _ _ h => h) hs this
    · simp only [List.getD_eq_getElem?_getD, List.getElem?_eq_none hge, Option.getD_none]
      trivial
  · obtain ⟨x, h0, hb1, hb3, hb4, hb5⟩ := k2 i x' hi hx
    obtain ⟨a1, ⟨rest, hr, a2⟩, a3⟩ := H.mem.objs i x h0 hb1
    rw [hb4 ρ _ rest a3] at a2
    refine ⟨a1, ⟨rest, hr.trans hb3, a2⟩, ?_⟩
    have hs := hb5 _ a3
    cases x' with
    | cells e ks sp =>
      refine ⟨fun k hk => ?_, fun k hk => ?_⟩
      · have := c2 (.cells e ks sp) (List.mem_of_getElem? hi)
        simp only [obB, List.all_eq_true] at this
        exact SK.bnd_re (E := lv ρ ob) (m := lv ρ ob') (fun _ => liveB_iff) (fun _ _ _ h => h) (hs k hk) (this k hk)
      · have := c3 (.cells e ks sp) (List.mem_of_getElem? hi)
        simp only [List.all_eq_true] at this
        exact this k hk
    | row e w n g sp => exact hs
    | mp => exact hs
    | rown e w n g sp p =>
      have := c2 (.rown e w n g sp p) (List.mem_of_getElem? hi)
      exact ⟨liveB_iff this, hs⟩
    | gone => cases hx
    | dead => cases hx
  · have hlt : i < kn := by
      obtain ⟨x, h, _⟩ := hi
      have := ob_lt h; omega
    rcases H.kept.1 i hi with ⟨⟨x, q1, qh⟩, q2⟩ | q
    · rcases (k3 i hlt).1 x q1 qh with q | q
      · exact .inl ⟨q, q2⟩
      · exact .inr q
    · exact .inr ((k3 i hlt).2 q)
  · have hlt := ob_lt hi
    exact (k3 i (by omega)).2 (H.kept.2.1 i hi)
theorem swapI_swapI (i j k : Nat) : swapI i j (swapI i j k) = k := by
  unfold swapI
  by_cases h1 : k = i
  · subst h1
    simp only [Nat.beq_refl]
    by_cases h2 : j = k
    · subst h2; rw [Nat.beq_refl]
    · have : Nat.beq j k = false := by rw [← Bool.not_eq_true]; exact fun e => h2 (Nat.eq_of_beq_eq_true e)
      rw [this]
  · have e1 : Nat.beq k i = false := by rw [← Bool.not_eq_true]; exact fun e => h1 (Nat.eq_of_beq_eq_true e)
    rw [e1]
    by_cases h2 : k = j
    · subst h2; simp
    · have e2 : Nat.beq k j = false := by rw [← Bool.not_eq_true]; exact fun e => h2 (Nat.eq_of_beq_eq_true e)
      simp only [e2, e1]
theorem swapI_low {i j k : Nat} (h1 : k < i) (h2 : k < j) : swapI i j k = k := by
  unfold swapI
  have e1 : Nat.beq k i = false := by rw [← Bool.not_eq_true]; exact fun e => by have := Nat.eq_of_beq_eq_true e; omega
  have e2 : Nat.beq k j = false := by rw [← Bool.not_eq_true]; exact fun e => by have := Nat.eq_of_beq_eq_true e; omega
  rw [e1, e2]
theorem swapI_lt {i j k n : Nat} (h1 : i < n) (h2 : j < n) (h : k < n) : swapI i j k < n := by
  unfold swapI
  split
  · exact h2
  · split <;> assumption
section
variable {f : Nat → Nat} (hf : ∀ k, f (f k) = k)
include hf
theorem PV.ren_conc (ρ : Rho) (x : PV) : (x.ren f).conc ⟨fun k => ρ.pos (f k), ρ.fz⟩ = x.conc ρ := by
  cases x with
  | v x => rfl
  | p o off => simp only [PV.ren, PV.conc, CoeFun.coe, hf]
theorem SC.ren_conc (ρ : Rho) (x : SC) : (x.ren f).conc ⟨fun k => ρ.pos (f k), ρ.fz⟩ = x.conc ρ := by
  cases x with
  | fn g caps =>
    simp only [SC.ren, SC.conc, List.map_map]
    congr 2
    exact List.map_congr_left fun c _ => PV.ren_conc hf ρ c
  | num k n => rfl
  | bit b => rfl
  | val v => rfl
  | xs a n cap w g => rfl
  | px a m h => rfl
  | _ => simp only [SC.ren, SC.conc, CoeFun.coe, hf]
theorem flat_ren (ρ : Rho) : ∀ (ks : List SK), concs ⟨fun k => ρ.pos (f k), ρ.fz⟩ (ks.map (SK.ren f)) = concs ρ ks
  | [] => rfl
  | .c s :: r => by
    simp only [List.map_cons, SK.ren]
    rw [concs_cons, concs_cons ρ (.c s), flat_ren ρ r]
    congr 1
    simp only [concs, flat, SK.cells, List.append_nil, List.map_cons, List.map_nil, SC.ren_conc hf]
  | .u n :: r => by
    simp only [List.map_cons, SK.ren]
    rw [concs_cons, concs_cons ρ (.u n), flat_ren ρ r]
    rfl
  | .f k n g :: r => by
    simp only [List.map_cons, SK.ren]
    rw [concs_cons, concs_cons ρ (.f k n g), flat_ren ρ r, concs_f, concs_f]
theorem SA.ren_conc (ρ : Rho) (x : SA) : (x.ren f).conc ⟨fun k => ρ.pos (f k), ρ.fz⟩ = x.conc ρ := by
  cases x with
  | sc c => exact SC.ren_conc hf ρ c
  | agg ks => simp only [SA.ren, SA.conc, flat_ren hf ρ ks]
theorem SV.ren_rep (ρ : Rho) (x : SV) (v : Value) : (x.ren f).rep ⟨fun k => ρ.pos (f k), ρ.fz⟩ v ↔ x.rep ρ v := by
  cases x with
  | any => exact Iff.rfl
  | one x => simp only [SV.ren, SV.rep, SA.ren_conc hf]
  | tup xs =>
    simp only [SV.ren, SV.rep, List.map_map]
    rw [show (xs.map (SA.conc ⟨fun k => ρ.pos (f k), ρ.fz⟩ ∘ SA.ren f)) = xs.map (SA.conc ρ) from List.map_congr_left fun c _ => SA.ren_conc hf ρ c]
  | gd g x => simp only [SV.ren, SV.rep, SA.ren_conc hf]
end
section
variable {f : Nat → Nat} {E E' : Env} (hl : ∀ k, E.lv k → E'.lv (f k))
include hl
theorem PV.ren_bnd {x : PV} (h : x.bnd E) : (x.ren f).bnd E' := by
  cases x with
  | v x => exact trivial
  | p o off => exact hl _ h
variable (hz : E'.fz = E.fz)
include hz
theorem SC.ren_bnd {x : SC} (h : x.bnd E) : (x.ren f).bnd E' := by
  have hb : E'.bare = E.bare := by unfold Env.bare; rw [hz]
  cases x with
  | fn g caps =>
    intro c hc
    obtain ⟨d, hd, rfl⟩ := List.mem_map.1 hc
    exact PV.ren_bnd hl (h d hd)
  | num k n => exact trivial
  | bit b => exact trivial
  | val v => exact trivial
  | xs a n cap w g =>
    have h : SC.bnd E (.xs a n cap w g) := h
    show SC.bnd E' (.xs a n cap w g)
    unfold SC.bnd at h ⊢
    rw [hb, hz]
    exact h
  | px a m g =>
    have h : SC.bnd E (.px a m g) := h
    show SC.bnd E' (.px a m g)
    unfold SC.bnd at h ⊢
    rw [hb, hz]
    exact h
  | _ => exact hl _ h
theorem SK.ren_bnd {x : SK} (h : x.bnd E) : (x.ren f).bnd E' := by
  cases x with
  | c s => exact SC.ren_bnd hl hz h
  | u _ => exact trivial
  | f _ _ _ => exact trivial
theorem SA.ren_bnd {x : SA} (h : x.bnd E) : (x.ren f).bnd E' := by
  cases x with
  | sc c => exact SC.ren_bnd hl hz h
  | agg ks =>
    intro k hk
    obtain ⟨d, hd, rfl⟩ := List.mem_map.1 hk
    exact SK.ren_bnd hl hz (h d hd)
theorem SV.ren_bnd {x : SV} (h : x.bnd E) : (x.ren f).bnd E' := by
  cases x with
  | any => exact trivial
  | one x => exact SA.ren_bnd hl hz h
  | tup xs =>
    intro k hk
    obtain ⟨d, hd, rfl⟩ := List.mem_map.1 hk
    exact SA.ren_bnd hl hz (h d hd)
  | gd g x => exact fun e => SA.ren_bnd hl hz (h e)
end
theorem SC.ren_fit (f : Nat → Nat) (x : SC) : (x.ren f).fit = x.fit := by cases x <;> rfl
theorem SK.ren_fit (f : Nat → Nat) (x : SK) : (x.ren f).fit = x.fit := by
  cases x with
  | c s => exact SC.ren_fit f s
  | u _ => rfl
  | f _ _ _ => rfl
theorem SO.ren_has (f : Nat → Nat) (x : SO) : (x.ren f).has = x.has := by cases x <;> rfl
theorem swapOb_get (i j : Nat) (ob : List SO) (hi : i < ob.length) (hj : j < ob.length) (k : Nat) : (swapOb i j ob)[k]? = (ob[swapI i j k]?).map (SO.ren (swapI i j)) := by
  unfold swapOb
  rcases Nat.lt_or_ge k ob.length with h | h
  · rw [List.getElem?_map, List.getElem?_range h, Option.map_some, List.getElem?_eq_getElem (swapI_lt hi hj h), Option.map_some, List.getD_eq_getElem?_getD, List.getElem?_eq_getElem (swapI_lt hi hj h), Option.getD_some]
  · have : ¬ swapI i j k < ob.length := fun e => by
      have := swapI_lt hi hj e
      rw [swapI_swapI] at this
      omega
    rw [List.getElem?_eq_none (by simpa using h), List.getElem?_eq_none (by omega), Option.map_none]
theorem swapOb_live {i j : Nat} {ob : List SO} (hi : i < ob.length) (hj : j < ob.length) (k : Nat) : live (swapOb i j ob) k ↔ live ob (swapI i j k) := by
  unfold live
  rw [swapOb_get i j ob hi hj]
  constructor
  · rintro ⟨x, h, hx⟩
    obtain ⟨y, hy, rfl⟩ := Option.map_eq_some_iff.1 h
    exact ⟨y, hy, by rw [← hx, SO.ren_has]⟩
  · rintro ⟨x, h, hx⟩
    exact ⟨x.ren (swapI i j), by rw [h]; rfl, by rw [SO.ren_has, hx]⟩
theorem Holds.swap {ρ : Rho} {tm : List SV} {ob : List SO} {a : Act} {w : World} (H : Holds W0 ρ tm ob a w) {i j : Nat} (hi0 : W0.ob.length ≤ i) (hj0 : W0.ob.length ≤ j) (hi : i < ob.length) (hj : j < ob.length) :
    Holds W0 ⟨fun k => ρ.pos (swapI i j k), ρ.fz⟩ (tm.map (SV.ren (swapI i j))) (swapOb i j ob) a w := by
  have hf := swapI_swapI i j
  have hl : ∀ k, (lv ρ ob).lv k → (lv ⟨fun k => ρ.pos (swapI i j k), ρ.fz⟩ (swapOb i j ob)).lv (swapI i j k) := fun k h => by
    show live (swapOb i j ob) (swapI i j k)
    rw [swapOb_live hi hj, hf]
    exact h
  have hlow : ∀ {k}, k < W0.ob.length → swapI i j k = k := fun h => swapI_low (by omega) (by omega)
  have get : ∀ t : Nat, (tm.map (SV.ren (swapI i j))).getD t .any = (tm.getD t .any).ren (swapI i j) := fun t => by
    rw [List.getD_eq_getElem?_getD, List.getD_eq_getElem?_getD, List.getElem?_map]
    cases tm[t]? <;> rfl
  refine ⟨by rw [H.size, List.length_map], fun t => ?_, fun t => ?_, H.defers, H.below, ⟨fun k x hx hh => ?_, fun k l hk hl' e => ?_, fun b o v hv => ⟨(H.mem.frz b o v hv).1, fun k hk => (H.mem.frz b o v hv).2 _ ((swapOb_live hi hj k).1 hk)⟩⟩, ⟨fun k hk => ?_, fun k hk => ?_, by unfold swapOb; simp only [List.length_map, List.length_range]; exact H.kept.2.2⟩, H.gl, ⟨H.fzs.le, H.fzs.own⟩, fun b x hx => ⟨(H.keeps b x hx).1, fun k hk => (H.keeps b x hx).2 _ ((swapOb_live hi hj k).1 hk)⟩⟩
  · rw [get]; exact (SV.ren_rep hf ρ _ _).2 (H.rep t)
  · rw [get]; exact SV.ren_bnd hl rfl (H.bnd t)
  · rw [swapOb_get i j ob hi hj] at hx
    obtain ⟨y, hy, rfl⟩ := Option.map_eq_some_iff.1 hx
    rw [SO.ren_has] at hh
    obtain ⟨a1, ⟨rest, hr, a2⟩, a3⟩ := H.mem.objs _ y hy hh
    refine ⟨a1, ?_⟩
    cases y with
    | cells e ks sp =>
      refine ⟨⟨rest, hr, ?_⟩, fun q hq => ?_, fun q hq => ?_⟩
      · show w.heap[ρ.pos (swapI i j k)]? = some (.cells (concs ⟨fun k => ρ.pos (swapI i j k), ρ.fz⟩ (ks.map (SK.ren (swapI i j))) ++ rest).toArray e (0, 0))
        rw [flat_ren hf ρ ks]; exact a2
      · obtain ⟨d, hd, rfl⟩ := List.mem_map.1 hq
        exact SK.ren_bnd hl rfl (a3.1 d hd)
      · obtain ⟨d, hd, rfl⟩ := List.mem_map.1 hq
        rw [SK.ren_fit]; exact a3.2 d hd
    | row e w n g sp => exact ⟨⟨rest, hr, a2⟩, a3⟩
    | mp => exact ⟨⟨rest, hr, a2⟩, a3⟩
    | rown e0 w0 n0 g0 sp0 p0 =>
      refine ⟨⟨rest, hr, ?_⟩, hl p0 a3.1, fun q hq c hc => ⟨?_, ?_⟩⟩
      · show w.heap[ρ.pos (swapI i j k)]? = some (.cells (rowc w0 n0 (valG ⟨fun k => ρ.pos (swapI i j k), ρ.fz⟩ fun q c => (g0 q c).ren (swapI i j)) ++ rest).toArray e0 (0, 0))
        rw [show rowc w0 n0 (valG ⟨fun k => ρ.pos (swapI i j k), ρ.fz⟩ fun q c => (g0 q c).ren (swapI i j)) = rowc w0 n0 (valG ρ g0) from rowc_pt fun q _ c _ => SC.ren_conc hf ρ (g0 q c)]
        exact a2
      · exact SC.ren_bnd (E := (lv ρ ob).one p0) (E' := (lv ⟨fun k => ρ.pos (swapI i j k), ρ.fz⟩ (swapOb i j ob)).one (swapI i j p0)) (fun k hk => by
          have hk : k = p0 := hk
          subst hk; rfl) rfl (a3.2 q hq c hc).1
      · show ((g0 q c).ren (swapI i j)).fit = true
        rw [SC.ren_fit]; exact (a3.2 q hq c hc).2
    | gone => cases hh
    | dead => cases hh
  · have := H.mem.injs _ _ ((swapOb_live hi hj k).1 hk) ((swapOb_live hi hj l).1 hl') e
    rw [← hf k, this, hf]
  · have hlt : k < W0.ob.length := by obtain ⟨x, h, _⟩ := hk; exact ob_lt h
    rcases H.kept.1 k hk with ⟨q1, q2⟩ | q
    · refine .inl ⟨(swapOb_live hi hj k).2 (by rw [hlow hlt]; exact q1), ?_⟩
      show ρ.pos (swapI i j k) = _
      rw [hlow hlt]; exact q2
    · exact .inr (by rw [swapOb_get i j ob hi hj, hlow hlt, q]; rfl)
  · have hlt := ob_lt hk
    rw [swapOb_get i j ob hi hj, hlow hlt, H.kept.2.1 k hk]; rfl
theorem Holds.weakA {kn : Nat} (hkn : W0.ob.length = kn) {T : List SV} {O : List SO} {X : Prop} (hc : closedB T O = true) : ∀ {n : Nat} {ρ : Rho} {tm : List SV} {ob : List SO} {a : Act} {w : World}, Holds W0 ρ tm ob a w → Go.Sx.weakA kn T O X n tm ob → (∃ ρ', Holds W0 ρ' T O a w) ∧ X := by
  have base : ∀ {ρ : Rho} {tm : List SV} {ob : List SO} {a : Act} {w : World}, Holds W0 ρ tm ob a w → ands (weakT tm T) (ands (weakO kn ob O) X) → (∃ ρ', Holds W0 ρ' T O a w) ∧ X := by
    intro ρ tm ob a w H h
    obtain ⟨ht, h⟩ := ands_iff.1 h
    obtain ⟨ho, hx⟩ := ands_iff.1 h
    exact ⟨⟨ρ, (H.weaken (by omega) (by have := H.kept.2.2; omega) ht ho hc).1⟩, hx⟩
  intro n
  induction n with
  | zero => intro ρ tm ob a w H h; exact base H h
  | succ n ih =>
    intro ρ tm ob a w H h
    simp only [Go.Sx.weakA] at h
    split at h
    · exact base H h
    · rename_i i j _
      split at h
      · rename_i hb
        simp only [Bool.and_eq_true] at hb
        obtain ⟨⟨⟨h1, h2⟩, h3⟩, h4⟩ := hb
        have h1 := Nat.le_of_ble_eq_true h1
        have h2 := Nat.le_of_ble_eq_true h2
        have h3 : i < ob.length := Nat.le_of_ble_eq_true h3
        have h4 : j < ob.length := Nat.le_of_ble_eq_true h4
        exact ih (H.swap (by omega) (by omega) h3 h4) h
      · exact base H h
theorem splitAll_sound {kd : IntKind} {t : Nat} {K : List SV → List SO → Prop} {tm : List SV} {ob : List SO} : ∀ {k j : Nat}, splitAll kd (j : Int) t K tm ob k → j ≤ k → K (tm.set t (.one (.sc (.num kd (j : Int))))) ob
  | 0, j, h, hj => by
    have : j = 0 := by omega
    subst this
    exact h rfl
  | k + 1, j, h, hj => by
    rcases Nat.lt_or_ge j (k + 1) with hlt | hge
    · exact splitAll_sound h.1 (by omega)
    · have : j = k + 1 := by omega
      subst this
      exact h.2 rfl
theorem Holds.retell {ρ : Rho} {tm : List SV} {ob : List SO} {a : Act} {w : World} (H : Holds W0 ρ tm ob a w) (t : Nat) {sv : SV} (hr : sv.rep ρ (a.tmps.getD t undef)) (hb : sv.bnd (lv ρ ob)) : Holds W0 ρ (tm.set t sv) ob a w := by
  refine ⟨by rw [List.length_set]; exact H.size, fun u => ?_, fun u => ?_, H.defers, H.below, H.mem, H.kept, H.gl, H.fzs, H.keeps⟩
  · have hu := H.rep u
    simp only [List.getD_eq_getElem?_getD, List.getElem?_set] at hu ⊢
    by_cases e : t = u
    · subst e
      by_cases hl : t < tm.length
      · simp only [hl, if_true, Option.getD_some]; exact hr
      · simp only [hl, if_true, if_false, Option.getD_none]; exact trivial
    · simp only [e, if_false]; exact hu
  · have hu := H.bnd u
    simp only [List.getD_eq_getElem?_getD, List.getElem?_set] at hu ⊢
    by_cases e : t = u
    · subst e
      by_cases hl : t < tm.length
      · simp only [hl, if_true, Option.getD_some]; exact hb
      · simp only [hl, if_true, if_false, Option.getD_none]; exact trivial
    · simp only [e, if_false]; exact hu
theorem thPs_at {o w n : Nat} : ∀ {ob : List SO}, Ok (thPs o w n ob) → ∀ (i : Nat) e2 w2 n2 g2 sp2, ob[i]? = some (.rown e2 w2 n2 g2 sp2 o) → ∀ j, j < n2 → ∀ c, c < w2 → thOK o w n (g2 j c)
  | [], _, i, _, _, _, _, _, hi => by simp at hi
  | x :: r, h, i, e2, w2, n2, g2, sp2, hi => by
    cases i with
    | zero =>
      simp only [List.getElem?_cons_zero, Option.some.injEq] at hi
      subst hi
      simp only [thPs, Nat.beq_refl] at h
      exact fun j hj c hc => allC_at (h.1 j hj) c hc
    | succ i =>
      simp only [List.getElem?_cons_succ] at hi
      refine thPs_at (ob := r) ?_ i e2 w2 n2 g2 sp2 hi
      cases x with
      | rown e3 w3 n3 g3 sp3 p3 =>
        simp only [thPs] at h
        split at h
        · exact h.2
        · exact h
      | cells _ _ _ => exact h
      | row _ _ _ _ _ => exact h
      | mp => exact h
      | gone => exact h
      | dead => exact h
theorem thO_has (b o w : Nat) (g : Nat → Nat → SC) (x : SO) : (thO b o w g x).has = x.has := by
  cases x with
  | rown e2 w2 n2 g2 sp2 p2 =>
    simp only [thO]
    split <;> rfl
  | cells _ _ _ => rfl
  | row _ _ _ _ _ => rfl
  | mp => rfl
  | gone => rfl
  | dead => rfl
theorem thO_other {b o w : Nat} {g : Nat → Nat → SC} {x : SO} (h : ∀ e2 w2 n2 g2 sp2, x ≠ .rown e2 w2 n2 g2 sp2 o) : thO b o w g x = x := by
  cases x with
  | rown e2 w2 n2 g2 sp2 p2 =>
    simp only [thO]
    split
    · rename_i hp
      have := Nat.eq_of_beq_eq_true hp
      subst this
      exact absurd rfl (h e2 w2 n2 g2 sp2)
    · rfl
  | cells _ _ _ => rfl
  | row _ _ _ _ _ => rfl
  | mp => rfl
  | gone => rfl
  | dead => rfl
theorem frzRow_sound {ρ : Rho} {tm : List SV} {ob : List SO} {a : Act} {w : World} (H : Holds W0 ρ tm ob a w) {t : Nat} {K : List SV → List SO → Prop} (h : frzRow t K tm ob) : ∃ ρ' tm' ob', Holds W0 ρ' tm' ob' a w ∧ K tm' ob' := by
  unfold frzRow at h
  split at h
  case h_2 => exact h.no
  rename_i o _ _ _ _ _
  split at h
  case h_2 => exact h.no
  rename_i e w1 n g sp hob
  replace h := h (ρ o)
  split at h
  case h_2 => exact h.no
  rename_i hall
  obtain ⟨hps, h⟩ := ands_iff.1 h
  obtain ⟨hB, ⟨rest, hrest, hrow⟩, hok⟩ := H.mem.rows hob
  have hlo : live ob o := live_row hob
  generalize ho2 : (ob.map (thO (ρ o) o w1 g)).set o .dead = ob2 at hall h
  have get : ∀ (i : Nat) x, ob2[i]? = some x → x.has = true → i ≠ o ∧ ∃ y, ob[i]? = some y ∧ x = thO (ρ o) o w1 g y ∧ y.has = true := by
    intro i x hi hx
    rw [← ho2] at hi
    by_cases e : i = o
    · subst e
      rw [List.getElem?_set_self (by rw [List.length_map]; exact ob_lt hob)] at hi
      simp only [Option.some.injEq] at hi
      subst hi; cases hx
    · rw [List.getElem?_set_ne (fun k => e k.symm), List.getElem?_map] at hi
      obtain ⟨y, hy, rfl⟩ := Option.map_eq_some_iff.1 hi
      exact ⟨e, y, hy, rfl, by rw [← hx, thO_has]⟩
  have hl0 : ∀ i, live ob2 i → live ob i ∧ i ≠ o := fun i ⟨x, hi, hx⟩ => by
    obtain ⟨e, y, hy, _, hh⟩ := get i x hi hx
    exact ⟨⟨y, hy, hh⟩, e⟩
  have hl1 : ∀ i, live ob i → i ≠ o → live ob2 i := fun i ⟨y, hi, hy⟩ e => by
    refine ⟨thO (ρ o) o w1 g y, ?_, by rw [thO_has]; exact hy⟩
    rw [← ho2, List.getElem?_set_ne (fun k => e k.symm), List.getElem?_map, hi]; rfl
  have hrc : ∀ i c, i < n → c < w1 → (rowc w1 n g ++ rest)[i * w1 + c]? = some ((g i c).conc Rho.nil) := fun i c hi hc => by
    have hlt : i * w1 + c < n * w1 := by
      have : (i + 1) * w1 ≤ n * w1 := Nat.mul_le_mul_right _ (by omega)
      rw [Nat.add_mul, Nat.one_mul] at this
      omega
    rw [List.getElem?_append_left (by rw [rowc_length]; exact hlt), rowc_get hi hc]
  refine ⟨⟨ρ.pos, fun bl c v => ρ.fz bl c v ∨ (bl = ρ o ∧ (rowc w1 n g ++ rest)[c]? = some v)⟩, _, _, H.onto (ρ' := ⟨ρ.pos, fun bl c v => ρ.fz bl c v ∨ (bl = ρ o ∧ (rowc w1 n g ++ rest)[c]? = some v)⟩) (fun _ _ _ => rfl) (fun _ _ _ h => .inl h) (fun bl c v hv => hv.elim (fun h => .inl ⟨_, _, h⟩) (fun h => by rw [h.1]; exact .inr hB)) H.below ⟨fun i x hi hx => ?_, fun i j hi hj hij => H.mem.injs i j (hl0 i hi).1 (hl0 j hj).1 hij, fun bl c v hv => ?_⟩ ⟨fun i hi => ?_, fun i hi => ?_, ?_⟩ (fun bl z hz => ⟨(H.keeps bl z hz).1, fun i hi => (H.keeps bl z hz).2 i (hl0 i hi).1⟩), h⟩
  · obtain ⟨hne, y, hy, rfl, hyh⟩ := get i x hi hx
    obtain ⟨a1, ⟨rs, hrs, a2⟩, a3⟩ := H.mem.objs i y hy hyh
    by_cases hcase : ∃ e2 w2 n2 g2 sp2, y = .rown e2 w2 n2 g2 sp2 o
    · obtain ⟨e2, w2, n2, g2, sp2, rfl⟩ := hcase
      have hth := thPs_at hps i e2 w2 n2 g2 sp2 hy
      have hx' : thO (ρ o) o w1 g (.rown e2 w2 n2 g2 sp2 o) = .row e2 w2 n2 (fun i c => thC (ρ o) w1 g (g2 i c)) sp2 := by simp only [thO, Nat.beq_refl]
      rw [hx']
      have key : ∀ j, j < n2 → ∀ c, c < w2 → (thC (ρ o) w1 g (g2 j c)).conc Rho.nil = (g2 j c).conc ρ ∧ (thC (ρ o) w1 g (g2 j c)).bnd (lv ⟨ρ.pos, fun bl c v => ρ.fz bl c v ∨ (bl = ρ o ∧ (rowc w1 n g ++ rest)[c]? = some v)⟩ ob2).bare ∧ (thC (ρ o) w1 g (g2 j c)).fit = true := by
        intro j hj c hc
        have ht := hth j hj c hc
        have hb := (a3.2 j hj c hc).1
        have hf := (a3.2 j hj c hc).2
        generalize g2 j c = s at ht hb hf
        have plain : bareC s = true → thC (ρ o) w1 g s = s → (thC (ρ o) w1 g s).conc Rho.nil = s.conc ρ ∧ (thC (ρ o) w1 g s).bnd (lv ⟨ρ.pos, fun bl c v => ρ.fz bl c v ∨ (bl = ρ o ∧ (rowc w1 n g ++ rest)[c]? = some v)⟩ ob2).bare ∧ (thC (ρ o) w1 g s).fit = true := fun hs hq => by
          rw [hq]
          obtain ⟨r1, r2⟩ := bareC_ok hs hb
          exact ⟨(conc_bare r1 ρ).symm, SC.bnd_mono (n := ((lv ρ ob).one o).bare) (m := (lv ⟨ρ.pos, fun bl c v => ρ.fz bl c v ∨ (bl = ρ o ∧ (rowc w1 n g ++ rest)[c]? = some v)⟩ ob2).bare) ⟨fun _ k => k, fun _ _ _ k => .inl k⟩ r1, r2⟩
        cases s with
        | slw o' w' off len cap =>
          obtain ⟨rfl, rfl, hol, hlc⟩ := ht
          refine ⟨rfl, ⟨fun e => (by cases e), hlc, fun bb hbb => ?_⟩, rfl⟩
          simp only [Option.some.injEq] at hbb
          subst hbb
          refine ⟨fun _ => rfl, fun i hi c hc => ?_⟩
          obtain ⟨q1, q2⟩ := hok (off + i) (by omega) c hc
          refine ⟨SC.bnd_mono (n := (lv ρ ob).bare) (m := (lv ⟨ρ.pos, fun bl c v => ρ.fz bl c v ∨ (bl = ρ o' ∧ (rowc w' n g ++ rest)[c]? = some v)⟩ ob2).bare.bare) ⟨fun _ x => x, fun _ _ _ x => .inl x⟩ q1, q2, .inr ⟨rfl, ?_⟩⟩
          show (rowc w' n g ++ rest)[off * w' + (i * w' + c)]? = _
          rw [show off * w' + (i * w' + c) = (off + i) * w' + c by rw [Nat.add_mul]; omega]
          exact hrc (off + i) c (by omega) hc
        | _ => exact plain ht rfl
      refine ⟨a1, ⟨rs, hrs, ?_⟩, fun j hj c hc => ⟨(key j hj c hc).2.1, (key j hj c hc).2.2⟩⟩
      show w.heap[ρ i]? = some (.cells (rowc w2 n2 (fun i c => thC (ρ o) w1 g (g2 i c)) ++ rs).toArray e2 (0, 0))
      rw [show rowc w2 n2 (fun i c => thC (ρ o) w1 g (g2 i c)) = rowc w2 n2 (valG ρ g2) from rowc_pt fun j hj c hc => (key j hj c hc).1]
      exact a2
    · have hx' : thO (ρ o) o w1 g y = y := thO_other fun e2 w2 n2 g2 sp2 e => hcase ⟨e2, w2, n2, g2, sp2, e⟩
      rw [hx'] at hi hx ⊢
      have e := lies_agree (ρ := ρ) (ρ' := ⟨ρ.pos, fun bl c v => ρ.fz bl c v ∨ (bl = ρ o ∧ (rowc w1 n g ++ rest)[c]? = some v)⟩) (E := lv ρ ob) (fun _ _ => rfl) a3 rs
      exact ⟨a1, ⟨rs, hrs, by rw [e]; exact a2⟩, SO.ok_re (E := lv ρ ob) (m := lv ⟨ρ.pos, fun bl c v => ρ.fz bl c v ∨ (bl = ρ o ∧ (rowc w1 n g ++ rest)[c]? = some v)⟩ ob2) (fun _ h => liveB_iff h) (fun _ _ _ h => .inl h) a3 (List.all_eq_true.1 hall y (List.mem_of_getElem? hi))⟩
  · rcases hv with hv | ⟨rfl, hv⟩
    · exact ⟨(H.mem.frz bl c v hv).1, fun i hi => (H.mem.frz bl c v hv).2 i (hl0 i hi).1⟩
    · refine ⟨by simp only [World.cell?, hrow]; simpa using hv, fun i hi e => (hl0 i hi).2 (H.mem.injs i o (hl0 i hi).1 hlo e)⟩
  · rcases H.kept.1 i hi with ⟨k1, k2⟩ | k
    · by_cases e : i = o
      · subst e; exact .inr (by rw [← ho2]; exact List.getElem?_set_self (by rw [List.length_map]; exact ob_lt hob))
      · exact .inl ⟨hl1 i k1 e, k2⟩
    · refine .inr ?_
      have : i ≠ o := by rintro rfl; rw [hob] at k; cases k
      rw [← ho2, List.getElem?_set_ne (fun e => this e.symm), List.getElem?_map, k]; rfl
  · have k := H.kept.2.1 i hi
    have : i ≠ o := by rintro rfl; rw [hob] at k; cases k
    rw [← ho2, List.getElem?_set_ne (fun e => this e.symm), List.getElem?_map, k]; rfl
  · rw [← ho2, List.length_set, List.length_map]; exact H.kept.2.2
theorem splitK_sound {ρ : Rho} {tm : List SV} {ob : List SO} {a : Act} {w : World} (H : Holds W0 ρ tm ob a w) {sp : Option (Nat × Nat)} {K : List SV → List SO → Prop} (h : splitK sp K tm ob) : ∃ ρ' tm' ob', Holds W0 ρ' tm' ob' a w ∧ K tm' ob' := by
  unfold splitK at h
  split at h
  · exact ⟨ρ, tm, ob, H, h⟩
  · rename_i t k
    split at h
    · rename_i kd n hn
      obtain ⟨⟨h0, h1⟩, h⟩ := h
      obtain ⟨j, rfl⟩ := Int.eq_ofNat_of_zero_le h0
      have hr := H.rep t
      rw [hn] at hr
      exact ⟨ρ, tm.set t (.one (.sc (.num kd (j : Int)))), ob, H.retell t hr trivial, splitAll_sound h (by omega)⟩
    · rename_i o hn
      split at h
      case h_2 => exact h.no
      rename_i e ks sp' hob
      split at h
      case h_2 => exact h.no
      rename_i hkb
      simp only [Bool.and_eq_true] at hkb
      have hr := H.rep t
      rw [hn] at hr
      have hr : a.tmps.getD t undef = .pointer (some ⟨ρ o, 0, none⟩) := hr
      obtain ⟨hB, ⟨rest, _, hrow⟩, hok, hft⟩ := H.mem.obj o e ks sp' hob
      have hgb : w.grownBy w (some (ρ o)) := ⟨rfl, rfl, rfl, Nat.le_refl _, fun _ _ _ => rfl⟩
      have H1 := (H.killed hob rfl hgb hkb.2).frozen (fun bl c v => bl = ρ o ∧ (concs ρ ks ++ rest)[c]? = some v) (fun bl c v hF => by
        obtain ⟨rfl, hv⟩ := hF
        refine ⟨by simp only [World.cell?, hrow]; simpa using hv, fun i hi => ?_⟩
        obtain ⟨q1, q2⟩ := live_dead.1 hi
        exact fun e => q2 (H.mem.injs _ _ q1 (live_cells hob) e)) (fun bl c v hF => by rw [hF.1]; exact .inr hB)
      refine ⟨_, _, _, H1.retell t (sv := .one (.sc (.px ⟨ρ o, 0, none⟩ (flat ks).length (fun c => (flat ks).getD c (.bit false))))) hr ⟨rfl, fun c hc => ?_⟩, h ⟨ρ o, 0, none⟩⟩
      have hget : (flat ks)[c]? = some ((flat ks).getD c (.bit false)) := by
        rw [List.getD_eq_getElem?_getD, List.getElem?_eq_getElem hc]; rfl
      have hmem := List.mem_of_getElem? hget
      have hbb := List.all_eq_true.1 hkb.1 _ hmem
      obtain ⟨q1, q2⟩ := bareC_ok hbb (flat_bnd hok _ hmem)
      have hle : Env.le (lv ρ ob).bare (Env.bare (lv ⟨ρ.pos, fun bl c v => ρ.fz bl c v ∨ (bl = ρ o ∧ (concs ρ ks ++ rest)[c]? = some v)⟩ (ob.set o .dead))) := ⟨fun _ x => x, fun _ _ _ x => .inl x⟩
      refine ⟨SC.bnd_mono hle q1, q2, .inr ⟨rfl, ?_⟩⟩
      have hk : (concs ρ ks)[c]? = some (((flat ks).getD c (.bit false)).conc Rho.nil) := by
        unfold concs
        rw [List.getElem?_map, hget, ← conc_bare q1 ρ]; rfl
      show (concs ρ ks ++ rest)[0 + c]? = _
      rw [Nat.zero_add, List.getElem?_append_left (List.getElem?_eq_some_iff.1 hk).1]
      exact hk
    · split at h
      · exact frzRow_sound H h
      · obtain ⟨ρ', tm', ob', H', h'⟩ := frzRow_sound H h
        exact frzRow_sound H' h'
    · exact ⟨ρ, tm, ob, H, h⟩
theorem sxLoop_sound {c : Code} {body : List SV → List SO → (Exit → List SV → List SO → Prop) → Prop} 
    (hbody : ∀ {ρ : Rho} {tm : List SV} {ob : List SO} {a : Act} {w : World} {K : Exit → List SV → List SO → Prop} {Q : Exit → Act → World → Prop}, Holds W0 ρ tm ob a w → body tm ob K → (∀ e ρ tm ob a w, Holds W0 ρ tm ob a w → K e tm ob → Q e a w) → c.wp P Q a w)
    {K : Exit → List SV → List SO → Prop} {Q : Exit → Act → World → Prop} (hK : ∀ e ρ tm ob a w, Holds W0 ρ tm ob a w → K e tm ob → Q e a w) :
    ∀ (n : Nat) {ρ : Rho} {tm : List SV} {ob : List SO} {a : Act} {w : World}, Holds W0 ρ tm ob a w → sxLoop body K n tm ob → Code.rounds P c Q n a w
  | 0, _, _, _, _, _, _, h => h.no
  | n + 1, ρ, tm, ob, a, w, H, h => by
    rw [rounds_succ]
    refine hbody H h fun e ρ' tm' ob' a' w' H' h' => ?_
    cases e <;> first
      | exact sxLoop_sound hbody hK n H' h'
      | exact hK _ ρ' tm' ob' a' w' H' h'
theorem allOf_mem : ∀ {l : List Nat} {f : Nat → Prop}, allOf l f → ∀ i ∈ l, f i
  | [], _, _, i, hi => by simp at hi
  | [j], f, h, i, hi => by simp only [List.mem_singleton] at hi; subst hi; exact h
  | j :: k :: r, f, h, i, hi => by
    rcases List.mem_cons.1 hi with rfl | hi
    · exact h.1
    · exact allOf_mem h.2 i hi
def YieldsI (P : Program) (I : World → Prop) (ops : Array Oper) (o : Oper) (v : Value) (a : Act) : Prop :=
  (Region.wanted o (yielded ops a.tmps) = true ∧ ∀ w, I w → (execOp a.eval o).run P w = .ok (.value v) w) ∨ (Region.wanted o (yielded ops a.tmps) = false ∧ v = undef)
theorem YieldsI.of_same {I : World → Prop} {ops : Array Oper} {o : Oper} {v : Value} {a a' : Act} (hy : YieldsI P I ops o v a) (he : execOp a'.eval o = execOp a.eval o)
    (hw : Region.wanted o (yielded ops a'.tmps) = Region.wanted o (yielded ops a.tmps)) : YieldsI P I ops o v a' := by
  unfold YieldsI at *
  rw [he, hw]
  exact hy
theorem YieldsI.wpOp {I : World → Prop} {ops : Array Oper} {Q : Exit → Act → World → Prop} {i : Nat} {o : Oper} {v : Value} {a : Act} (hi : ops[i]? = some o) (hy : YieldsI P I ops o v a)
    {K : Act → World → Prop} {w : World} (hI : I w) (h : K (a.put o.dst v) w) : wpOp P ops Q i K a w := by
  unfold Go.wpOp
  rcases hy with hy | ⟨hy, rfl⟩
  · simp only [hi, hy.1, if_true, Oper.wp, hy.2 w hI, Oper.upon]
    exact .inl h
  · simp only [hi, hy, Bool.false_eq_true, if_false]
    exact h
theorem wpOp_putI {I : World → Prop} {ops : Array Oper} {Q : Exit → Act → World → Prop} {j : Nat} {oi oj : Oper} {v : Value} (hj : ops[j]? = some oj) (hap : oi.apart ops oj = true)
    (hsi : ∀ cs b, oi.op ≠ .select cs b) (hsj : ∀ cs b, oj.op ≠ .select cs b)
    (hQ : ∀ c a w, Q (.panic c) (a.put oi.dst v) w → Q (.panic c) a w) {K : Act → World → Prop} {a : Act} {w : World}
    (hy : YieldsI P I ops oi v a) (h : wpOp P ops Q j K (a.put oi.dst v) w) :
    wpOp P ops Q j (fun a' w' => YieldsI P I ops oi v a' ∧ K (a'.put oi.dst v) w') a w := by
  obtain ⟨h1, h2, h3⟩ := Oper.apart_spec hap
  have keep : ∀ (a : Act), YieldsI P I ops oi v a → ∀ u, YieldsI P I ops oi v (a.put oj.dst u) := fun a hy u =>
    hy.of_same (execOp_put oi hsi a oj.dst u h3) (wanted_put oi a oj.dst u h3)
  have keepD : ∀ d, YieldsI P I ops oi v { a with defers := d :: a.defers } := fun d => hy.of_same rfl rfl
  unfold wpOp at *
  simp only [hj] at *
  rw [wanted_put oj a oi.dst v h1] at h
  split
  · rename_i hw
    simp only [hw, if_true] at h
    rcases h with h | ⟨hasks, hlets⟩
    case inr => exact .inr ⟨by unfold Oper.asks at *; rw [execOp_put oj hsj a oi.dst v h1] at hasks; exact hasks, hlets⟩
    refine .inl ?_
    unfold Oper.wp at *
    rw [execOp_put oj hsj a oi.dst v h1] at h
    generalize (execOp a.eval oj).run P w = r at *
    cases r with
    | ok n w' =>
      cases n <;> simp only [Oper.upon] at h ⊢
      case value u => exact ⟨keep a hy u, by rw [← Act.put_comm a v u h2]; exact h⟩
      case skip => exact ⟨keep a hy _, by rw [← Act.put_comm a v undef h2]; exact h⟩
      case defer d =>
        refine ⟨keep _ (keepD d) _, ?_⟩
        rw [← Act.put_comm _ v undef h2, ← Act.put_defers]
        exact h
      case enter f args =>
        refine Calls.mono h fun e w'' he => ?_
        cases e with
        | returned u => exact ⟨keep a hy u, by rw [← Act.put_comm a v u h2]; exact he⟩
        | panicked c => exact hQ _ _ _ he
        | outgrown => exact he
      case row row args => exact Rows.mono h fun u w'' he => ⟨keep a hy u, by rw [← Act.put_comm a v u h2]; exact he⟩
    | halt x w' =>
      cases x <;> simp only [Oper.upon] at h ⊢
      case panic u => exact hQ _ _ _ h
  · rename_i hw
    simp only [hw] at h
    exact ⟨keep a hy _, by rw [← Act.put_comm a v undef h2]; exact h⟩
def wpAnyI (P : Program) (I : World → Prop) (ops : Array Oper) (Q : Exit → Act → World → Prop) : Nat → Array Bool → Act → World → Prop
  | 0, listed, a, w => Region.ready .any ops listed = [] ∧ Q .normal a w
  | fuel + 1, listed, a, w =>
    (Region.ready .any ops listed = [] → Q .normal a w) ∧
    ∀ i ∈ Region.ready .any ops listed, wpOp P ops Q i (fun a' w' => I w' ∧ wpAnyI P I ops Q fuel (listed.setIfInBounds i true) a' w') a w
theorem wpAnyI_mono {I J : World → Prop} (hIJ : ∀ w, I w → J w) {ops : Array Oper} {Q : Exit → Act → World → Prop} : ∀ {fuel : Nat} {listed : Array Bool} {a : Act} {w : World}, wpAnyI P I ops Q fuel listed a w → wpAnyI P J ops Q fuel listed a w
  | 0, _, _, _, h => h
  | _ + 1, _, _, _, h => ⟨h.1, fun i hi => wpOp_mono (fun _ _ k => ⟨hIJ _ k.1, wpAnyI_mono hIJ k.2⟩) (h.2 i hi)⟩
theorem wpAnyI_any {I : World → Prop} {ops : Array Oper} {Q : Exit → Act → World → Prop} : ∀ {fuel : Nat} {listed : Array Bool} {a : Act} {w : World}, wpAnyI P I ops Q fuel listed a w → wpAny P .any ops Q fuel listed a w
  | 0, _, _, _, h => h
  | _ + 1, _, _, _, h => ⟨h.1, fun i hi => wpOp_mono (fun _ _ k => wpAnyI_any k.2) (h.2 i hi)⟩
theorem wpAnyI_first {I : World → Prop} {ops : Array Oper} {Q : Exit → Act → World → Prop} {i : Nat} {oi : Oper} {v : Value} (hi : ops[i]? = some oi) (hsel : ∀ (j : Nat) (o : Oper) cs b, ops[j]? = some o → o.op ≠ .select cs b)
    (hQ : ∀ c a w, Q (.panic c) (a.put oi.dst v) w → Q (.panic c) a w) :
    ∀ (fuel : Nat) (listed : Array Bool) (a : Act) (w : World),
      (∀ j oj, ops[j]? = some oj → j ≠ i → listed.getD j true = false → (∀ e ∈ oj.after, Region.binds .any e = true → e.on ≠ i) → oi.apart ops oj = true) →
      i ∈ Region.ready .any ops listed → YieldsI P I ops oi v a → I w →
      wpAnyI P I ops Q fuel (listed.setIfInBounds i true) (a.put oi.dst v) w → wpAnyI P I ops Q (fuel + 1) listed a w := by
  intro fuel
  induction fuel with
  | zero =>
    intro listed a w _ hr hy hI H
    refine ⟨fun h => (by rw [h] at hr; cases hr), fun j hj => ?_⟩
    by_cases hji : j = i
    · subst hji; exact hy.wpOp hi hI ⟨hI, H⟩
    · have := ready_mono hj hji
      rw [H.1] at this
      cases this
  | succ fuel ih =>
    intro listed a w hfree hr hy hI H
    refine ⟨fun h => (by rw [h] at hr; cases hr), fun j hj => ?_⟩
    by_cases hji : j = i
    · subst hji; exact hy.wpOp hi hI ⟨hI, H⟩
    · have h1 := H.2 j (ready_mono hj hji)
      obtain ⟨hjun, oj, hoj, hall⟩ := mem_ready.1 hj
      have hnot : ∀ e ∈ oj.after, Region.binds .any e = true → e.on ≠ i := fun e he hb heq => by
        have h1 := hall e he hb
        have h0 := (mem_ready.1 hr).1
        rw [heq] at h1
        rcases Nat.lt_or_ge i listed.size with h' | h'
        · simp [h'] at h0 h1; rw [h0] at h1; cases h1
        · simp [Array.getElem?_eq_none h'] at h1
      have h2 := wpOp_putI hoj (hfree j oj hoj hji hjun hnot) (fun cs b => hsel i oi cs b hi) (fun cs b => hsel j oj cs b hoj) hQ hy h1
      have hfree' : ∀ k ok, ops[k]? = some ok → k ≠ i → (listed.setIfInBounds j true).getD k true = false →
          (∀ e ∈ ok.after, Region.binds .any e = true → e.on ≠ i) → oi.apart ops ok = true := fun k ok hk hki hun hno => by
        refine hfree k ok hk hki ?_ hno
        by_cases hjk : j = k
        · subst hjk; exact hjun
        · rw [getD_set_ne true hjk] at hun; exact hun
      refine wpOp_mono (fun a' w' h3 => ⟨h3.2.1, ih (listed.setIfInBounds j true) a' w' hfree' (ready_mono hr (Ne.symm hji)) h3.1 h3.2.1 ?_⟩) h2
      rw [Array.setIfInBounds_comm _ _ hji]
      exact h3.2.2
def Base.at (Z : Base) (ρ : Rho) : Base := ⟨Z.w, Z.ob, ⟨Z.ρ.pos, ρ.fz⟩, Z.gl, Z.keep⟩
theorem Holds.rebase {W0 : Base} {ρ : Rho} {tm : List SV} {ob : List SO} {a : Act} {w : World} (H : Holds W0 ρ tm ob a w) : Holds (W0.at ρ) ρ tm ob a w :=
  ⟨H.size, H.rep, H.bnd, H.defers, H.below, H.mem, H.kept, H.gl, ⟨fun _ _ _ h => h, fun _ _ _ h => .inl ⟨_, _, h⟩⟩, H.keeps⟩
theorem Holds.unbase {W0 : Base} {ρ ρ' : Rho} (hz : FzLe W0 ρ) {tm : List SV} {ob : List SO} {a : Act} {w : World} (H : Holds (W0.at ρ) ρ' tm ob a w) : Holds W0 ρ' tm ob a w :=
  ⟨H.size, H.rep, H.bnd, H.defers, H.below, H.mem, H.kept, H.gl, ⟨fun b o v h => H.fzs.le b o v (hz.le b o v h), fun b o v h => (H.fzs.own b o v h).elim (fun ⟨_, _, k⟩ => hz.own b _ _ k) .inr⟩, H.keeps⟩
theorem eagerV_sound {I : World → Prop} {W0 : Base} {ρ : Rho} {tm : List SV} {ob : List SO} {a : Act} {w : World} (H : Holds W0 ρ tm ob a w) {ops : Array Oper} {m : Bool} {o : Oper} {sv : SV} (h : eagerV P m tm o = some sv) :
    ∃ v, YieldsI P (FzOK ρ.fz) ops o v a ∧ sv.rep ρ v ∧ sv.bnd (lv ρ ob) := by
  unfold eagerV at h
  split at h
  · rename_i x hg ho
    simp only [Option.some.injEq] at h
    subst h
    exact ⟨a.eval x, .inl ⟨by unfold Region.wanted; rw [hg], fun w _ => by unfold execOp; simp [ho]⟩, (H.ev x).1, (H.ev x).2⟩
  · rename_i x hg ho
    simp only [Option.some.injEq] at h
    subst h
    exact ⟨a.eval x, .inl ⟨by unfold Region.wanted; rw [hg], fun w _ => by unfold execOp; simp [ho]⟩, (H.ev x).1, (H.ev x).2⟩
  · rename_i t x hg ho
    split at h
    case h_2 => cases h
    rename_i ad m g hx
    obtain ⟨z, hz, rfl⟩ := Option.map_eq_some_iff.1 h
    have hr := (H.ev x).1
    have hb := (H.ev x).2
    rw [hx] at hr hb
    have hr : a.eval x = .pointer (some ad) := hr
    obtain ⟨hs, hc⟩ := hb
    refine ⟨z.conc ρ, .inl ⟨by unfold Region.wanted; rw [hg], fun w hI => ?_⟩, rfl, ?_⟩
    · have := pieceG_sound hz (E := lv ρ ob) (fun d hd => bare_lv (hc d hd).1) (ρ := ρ) (w := w) (a := ad) (fun d hd => by
        rw [conc_bare (hc d hd).1 ρ]
        have := hI _ _ _ (hc d hd).2.2
        rw [show ad.add d = ⟨ad.block, ad.off + d, none⟩ from ?_]
        · exact this
        · rw [← add_block ad d, ← add_off ad d, ← add_spot hs d])
      unfold execOp
      simp [ho, hr, this.1, Instr.loadAt, Instr.sureAddr]
    · exact (pieceG_sound hz (E := lv ρ ob) (fun d hd => bare_lv (hc d hd).1) (ρ := ρ) (w := w) (a := ad) (fun d hd => by
        rw [conc_bare (hc d hd).1 ρ]
        have := (H.mem.frz _ _ _ (hc d hd).2.2).1
        rw [show ad.add d = ⟨ad.block, ad.off + d, none⟩ from ?_]
        · exact this
        · rw [← add_block ad d, ← add_off ad d, ← add_spot hs d])).2
  · rename_i t x f hg ho
    split at h
    case h_2 => cases h
    rename_i y hx
    split at h
    case h_2 => cases h
    rename_i z hz
    simp only [Option.some.injEq] at h
    subst h
    have hr := (H.ev x).1
    have hb := (H.ev x).2
    rw [hx] at hr hb
    have hr : a.eval x = y.conc ρ := hr
    exact ⟨z.conc ρ, .inl ⟨by unfold Region.wanted; rw [hg], fun w _ => by
      unfold execOp
      simp only [ho, hr, Sem.run_bind, (semFldAddr_sound hz ρ (lv ρ ob) hb w).1, Result.andThen_ok, Sem.run_pure]⟩, rfl, (semFldAddr_sound hz ρ (lv ρ ob) hb w).2⟩
  · cases h
theorem eagerIn_spec {m : Bool} {ops : Array Oper} {listed : Array Bool} {tm : List SV} : ∀ {l : List Nat} {i : Nat} {dst : Option Tmp} {sv : SV}, eagerIn P m ops listed tm l = some (i, dst, sv) → i ∈ l ∧ ∃ o, ops[i]? = some o ∧ o.dst = dst ∧ freeB ops listed i o = true ∧ eagerV P m tm o = some sv
  | [], _, _, _, h => by simp [eagerIn] at h
  | k :: r, i, dst, sv, h => by
    simp only [eagerIn] at h
    split at h
    · rename_i o ho
      split at h
      · rename_i s hf hv
        simp only [Option.some.injEq, Prod.mk.injEq] at h
        obtain ⟨rfl, rfl, rfl⟩ := h
        exact ⟨by simp, o, ho, rfl, hf, hv⟩
      · obtain ⟨h1, h2⟩ := eagerIn_spec h
        exact ⟨by simp [h1], h2⟩
    · obtain ⟨h1, h2⟩ := eagerIn_spec h
      exact ⟨by simp [h1], h2⟩
theorem pureE_sound {W0 : Base} {ρ : Rho} {tm : List SV} {ob : List SO} {a : Act} {w : World} (H : Holds W0 ρ tm ob a w) {cx : Cx} {o : Oper} {ps : List Prop} {z : SA} (h : pureE P cx tm o = some (ps, z)) (hp : Ok ps) :
    (∀ w, FzOK ρ.fz w → (execOp a.eval o).run P w = .ok (.value (z.conc ρ)) w) ∧ z.bnd (lv ρ ob) := by
  unfold pureE at h
  split at h
  · rename_i x ho
    obtain ⟨e, b⟩ := rd_sound h hp H
    exact ⟨fun w _ => by unfold execOp; simp [ho, e], b⟩
  · rename_i x ho
    obtain ⟨e, b⟩ := rd_sound h hp H
    exact ⟨fun w _ => by unfold execOp; simp [ho, e], b⟩
  · rename_i t x ho
    split at h
    case h_2 => cases h
    rename_i ad m g hx
    obtain ⟨z', hz, e⟩ := Option.map_eq_some_iff.1 h
    simp only [Prod.mk.injEq] at e
    obtain ⟨rfl, rfl⟩ := e
    have hr := (H.ev x).1
    have hb := (H.ev x).2
    rw [hx] at hr hb
    have hr : a.eval x = .pointer (some ad) := hr
    obtain ⟨hs, hc⟩ := hb
    have key := fun (w : World) (hI : FzOK ρ.fz w) => pieceG_sound hz (E := lv ρ ob) (fun d hd => bare_lv (hc d hd).1) (ρ := ρ) (w := w) (a := ad) (fun d hd => by
        rw [conc_bare (hc d hd).1 ρ]
        have := hI _ _ _ (hc d hd).2.2
        rw [show ad.add d = ⟨ad.block, ad.off + d, none⟩ from ?_]
        · exact this
        · rw [← add_block ad d, ← add_off ad d, ← add_spot hs d])
    refine ⟨fun w hI => ?_, (key w fun b o v hv => (H.mem.frz b o v hv).1).2⟩
    unfold execOp
    simp [ho, hr, (key w hI).1, Instr.loadAt, Instr.sureAddr]
  · rename_i t x f ho
    obtain ⟨p1, xv, p2, h1, h2, o1, o2⟩ := rd1_sound h hp
    obtain ⟨ex, bx⟩ := rd_sound h1 o1 H
    exact ⟨fun w _ => by
      unfold execOp
      simp only [ho, ex, Sem.run_bind, (semFldAddr_sound h2 ρ (lv ρ ob) bx w).1, Result.andThen_ok, Sem.run_pure], (semFldAddr_sound h2 ρ (lv ρ ob) bx w).2⟩
  · rename_i t x i ho
    split at h
    case h_2 => cases h
    obtain ⟨p1, xv, p2, h1, h2, o1, o2⟩ := rd1_sound h hp
    obtain ⟨q1, yv, q2, g1, g2, r1, r2⟩ := rd1_sound h2 o2
    obtain ⟨ex, bx⟩ := rd_sound h1 o1 H
    obtain ⟨ey, _⟩ := rd_sound g1 r1 H
    exact ⟨fun w _ => by
      unfold execOp
      simp only [ho, ex, ey, Sem.run_bind, (semIdxAddr_sound g2 r2 ρ (lv ρ ob) bx w).1, Result.andThen_ok, Sem.run_pure], (semIdxAddr_sound g2 r2 ρ (lv ρ ob) bx w).2⟩
  · rename_i s d x ho
    split at h
    · rename_i hb
      obtain ⟨p1, xv, p2, h1, h2, o1, o2⟩ := rd1_sound h hp
      obtain ⟨ex, bx⟩ := rd_sound h1 o1 H
      obtain ⟨e, b⟩ := semStrX_sound (P := P) (ρ := ρ) hb bx h2 o2
      exact ⟨fun w hz => by
        unfold execOp
        simp only [ho, ex, Sem.run_bind, e w hz, Result.andThen_ok, Sem.run_pure], b⟩
    · split at h
      · exact ⟨fun w' _ => (semVal_all H h hp w').1, (semVal_all H h hp w).2⟩
      · cases h
  · split at h
    · exact ⟨fun w' _ => (semVal_all H h hp w').1, (semVal_all H h hp w).2⟩
    · cases h
theorem eagerP_sound {W0 : Base} {ρ : Rho} {tm : List SV} {ob : List SO} {a : Act} {w : World} (H : Holds W0 ρ tm ob a w) {cx : Cx} {ops : Array Oper} {o : Oper} {ps : List Prop} {sv : SV} (h : eagerP P cx ops tm o = some (ps, sv)) (hp : Ok ps) :
    ∃ v, YieldsI P (FzOK ρ.fz) ops o v a ∧ sv.rep ρ v ∧ sv.bnd (lv ρ ob) := by
  unfold eagerP at h
  split at h
  · rename_i hg
    split at h
    · cases h
    split at h
    · obtain ⟨⟨qs, z⟩, hz, e⟩ := Option.map_eq_some_iff.1 h
      simp only [Prod.mk.injEq] at e
      obtain ⟨rfl, rfl⟩ := e
      exact ⟨z.conc ρ, .inl ⟨by unfold Region.wanted; rw [hg], fun w' _ => (semVal_all H hz hp w').1⟩, rfl, (semVal_all H hz hp w).2⟩
    · split at h
      · cases h
      · obtain ⟨⟨qs, z⟩, hz, e⟩ := Option.map_eq_some_iff.1 h
        simp only [Prod.mk.injEq] at e
        obtain ⟨rfl, rfl⟩ := e
        obtain ⟨h1, h2⟩ := pureE_sound H hz hp
        exact ⟨z.conc ρ, .inl ⟨by unfold Region.wanted; rw [hg], h1⟩, rfl, h2⟩
  · split at h
    · cases h
    unfold eagerH at h
    split at h
    · rename_i hw
      have hw := whenOf_sound H hw
      simp only [Option.some.injEq, Prod.mk.injEq] at h
      obtain ⟨rfl, rfl⟩ := h
      exact ⟨undef, .inr ⟨hw, rfl⟩, rfl, trivial⟩
    · rename_i hw
      have hw := whenOf_sound H hw
      obtain ⟨⟨qs, z⟩, hz, e⟩ := Option.map_eq_some_iff.1 h
      simp only [Prod.mk.injEq] at e
      obtain ⟨rfl, rfl⟩ := e
      obtain ⟨h1, h2⟩ := pureE_sound H hz hp
      exact ⟨z.conc ρ, .inl ⟨hw, h1⟩, rfl, h2⟩
    · rename_i g hw
      have hw := whenOf_sound H hw
      obtain ⟨⟨qs, z⟩, hz, e⟩ := Option.map_eq_some_iff.1 h
      simp only [Prod.mk.injEq] at e
      obtain ⟨rfl, rfl⟩ := e
      cases g with
      | true =>
        obtain ⟨h1, h2⟩ := pureE_sound H hz (Ok_map hp rfl)
        exact ⟨z.conc ρ, .inl ⟨hw, h1⟩, rfl, fun _ => h2⟩
      | false => exact ⟨undef, .inr ⟨hw, rfl⟩, rfl, fun e => by cases e⟩
    · cases h
theorem eagerQ_spec {cx : Cx} {ops : Array Oper} {listed : Array Bool} {tm : List SV} : ∀ {l : List Nat} {i : Nat} {dst : Option Tmp} {ps : List Prop} {z : SV}, eagerQ P cx ops listed tm l = some (i, dst, ps, z) → i ∈ l ∧ ∃ o, ops[i]? = some o ∧ o.dst = dst ∧ freeB ops listed i o = true ∧ eagerP P cx ops tm o = some (ps, z)
  | [], _, _, _, _, h => by simp [eagerQ] at h
  | k :: r, i, dst, ps, z, h => by
    simp only [eagerQ] at h
    split at h
    · rename_i o ho
      split at h
      · rename_i s1 s2 hf hv
        simp only [Option.some.injEq, Prod.mk.injEq] at h
        obtain ⟨rfl, rfl, rfl, rfl⟩ := h
        exact ⟨by simp, o, ho, rfl, hf, hv⟩
      · obtain ⟨h1, h2⟩ := eagerQ_spec h
        exact ⟨by simp [h1], h2⟩
    · obtain ⟨h1, h2⟩ := eagerQ_spec h
      exact ⟨by simp [h1], h2⟩
theorem oneRun_step {cx : Cx} (hcx : CxOK P cx) (hat : CxAt cx W0) {inl : Inl} (hin : InlOK P cx.gl inl) {ops : Array Oper} {b : Nat} {Q : Exit → Act → World → Prop} {K : List SV → List SO → Prop} {o : Oper} {i : Nat} {ρ : Rho} {tm : List SV} {ob : List SO} {a : Act} {w : World} {Z : Act → World → Prop}
    (H : Holds W0 ρ tm ob a w) (h : oneRun P cx inl ops b i o tm ob K) (hZ : ∀ ρ tm ob a w, Holds W0 ρ tm ob a w → K tm ob → Z a w) :
    if Region.wanted o (yielded ops a.tmps) then o.wp P a w Z Q ∨ (o.asks P a w ∧ LetsOut Q) else Z (a.put o.dst undef) w := by
  unfold oneRun at h
  split at h
  · split at h
    · rename_i ps sv ob' hs
      obtain ⟨hp, h⟩ := ands_iff.1 h
      have := semG_sound hcx hat.1 H hs hp (Q := Q) (K := Z) fun ρ' a' w' H' => hZ _ _ _ _ _ H' h
      split
      · rename_i hw; rw [if_pos hw] at this; exact .inl this
      · rename_i hw; rw [if_neg hw] at this; exact this
    · exact h.no
  · exact runs_step hcx hat hin H h fun ρ tm ob a w H h => hZ ρ tm ob a w H h
theorem anyRuns_soundI {cx : Cx} (hcx : CxOK P cx) {inl : Inl} (hin : InlOK P cx.gl inl) {ops : Array Oper} {b : Nat} {Q : Exit → Act → World → Prop} (hQ : ∀ c a w, ¬ Q (.panic c) a w) {K : List SV → List SO → Prop} :
    ∀ (fuel : Nat) (listed : Array Bool) (W0 : Base) (ρ : Rho) (tm : List SV) (ob : List SO) (a : Act) (w : World), CxAt cx W0 → (∀ ρ tm ob a w, Holds W0 ρ tm ob a w → K tm ob → Q .normal a w) → Holds W0 ρ tm ob a w → anyRuns P cx inl ops b K fuel listed tm ob → wpAnyI P (FzOK W0.ρ.fz) ops Q fuel listed a w
  | 0, listed, W0, ρ, tm, ob, a, w, hat, hK, H, h => by
    simp only [anyRuns] at h
    split at h
    · rename_i hr
      exact ⟨hr, hK ρ tm ob a w H h⟩
    · exact h.no
  | fuel + 1, listed, W0, ρ, tm, ob, a, w, hat, hK, H, h => by
    have fz : ∀ {ρ' : Rho} {tm : List SV} {ob : List SO} {a : Act} {w : World}, Holds W0 ρ' tm ob a w → FzOK W0.ρ.fz w := fun H b o v hv => (H.mem.frz b o v (H.fzs.le b o v hv)).1
    simp only [anyRuns] at h
    split at h
    · rename_i hr
      exact ⟨fun _ => hK ρ tm ob a w H h, fun i hi => by rw [hr] at hi; simp at hi⟩
    · rename_i r hr
      split at h
      · rename_i i dst sv he
        obtain ⟨hi, o, ho, rfl, hf, hv⟩ := eagerIn_spec he
        obtain ⟨v, hy, hrep, hbd⟩ := eagerV_sound (I := fun _ => True) H (ops := ops) hv
        have ih := anyRuns_soundI hcx hin hQ fuel (listed.setIfInBounds i true) (W0.at ρ) ρ (put tm o.dst sv) ob (a.put o.dst v) w hat (fun ρ' tm ob a w H' hk => hK ρ' tm ob a w (H'.unbase H.fzs) hk) (H.rebase.put o.dst hrep hbd) h
        unfold freeB at hf
        rw [Bool.and_eq_true, List.all_eq_true] at hf
        obtain ⟨hsel, hfree⟩ := hf
        refine wpAnyI_mono (fun w hw b o v hv => hw b o v (H.fzs.le b o v hv)) (wpAnyI_first ho (Region.noSelect_spec hsel) (fun c a w hq => absurd hq (hQ c _ w)) fuel listed a w (fun j oj hj hji hun hno => ?_) hi hy (fun b o v hv => (H.mem.frz b o v hv).1) ih)
        have := hfree j (List.mem_range.2 (Array.getElem?_eq_some_iff.1 hj).1)
        rw [hj] at this
        simp only [Bool.or_eq_true, hun, Bool.false_eq_true, or_false] at this
        rcases this with (e | e) | e
        · exact absurd (Nat.eq_of_beq_eq_true e) hji
        · obtain ⟨x, hx, hxe⟩ := List.any_eq_true.1 e
          rw [Bool.and_eq_true] at hxe
          exact absurd (Nat.eq_of_beq_eq_true hxe.2) (hno x (Array.mem_toList_iff.1 hx) hxe.1)
        · exact e
      · split at h
        · rename_i i dst ps z he
          obtain ⟨hi, o, ho, rfl, hf, hv⟩ := eagerQ_spec he
          obtain ⟨hps, h⟩ := ands_iff.1 h
          obtain ⟨v, hy, hrep, hbd⟩ := eagerP_sound H (ops := ops) hv hps
          have ih := anyRuns_soundI hcx hin hQ fuel (listed.setIfInBounds i true) (W0.at ρ) ρ (put tm o.dst z) ob (a.put o.dst v) w hat (fun ρ' tm ob a w H' hk => hK ρ' tm ob a w (H'.unbase H.fzs) hk) (H.rebase.put o.dst hrep hbd) h
          unfold freeB at hf
          rw [Bool.and_eq_true, List.all_eq_true] at hf
          obtain ⟨hsel, hfree⟩ := hf
          refine wpAnyI_mono (fun w hw b o v hv => hw b o v (H.fzs.le b o v hv)) (wpAnyI_first ho (Region.noSelect_spec hsel) (fun c a w hq => absurd hq (hQ c _ w)) fuel listed a w (fun j oj hj hji hun hno => ?_) hi hy (fun b o v hv => (H.mem.frz b o v hv).1) ih)
          have := hfree j (List.mem_range.2 (Array.getElem?_eq_some_iff.1 hj).1)
          rw [hj] at this
          simp only [Bool.or_eq_true, hun, Bool.false_eq_true, or_false] at this
          rcases this with (e | e) | e
          · exact absurd (Nat.eq_of_beq_eq_true e) hji
          · obtain ⟨x, hx, hxe⟩ := List.any_eq_true.1 e
            rw [Bool.and_eq_true] at hxe
            exact absurd (Nat.eq_of_beq_eq_true hxe.2) (hno x (Array.mem_toList_iff.1 hx) hxe.1)
          · exact e
        · refine ⟨fun hr' => absurd hr' (by simpa using hr), fun i hi => ?_⟩
          have hi' := allOf_mem h i hi
          unfold wpOp
          cases ho : ops[i]? with
          | none =>
            rw [ho] at hi'
            exact hi'.no
          | some o =>
            rw [ho] at hi'
            exact oneRun_step hcx hat hin H hi' fun ρ' tm' ob' a' w' H' h' => ⟨fz H', anyRuns_soundI hcx hin hQ fuel _ W0 ρ' tm' ob' a' w' hat hK H' h'⟩
theorem anyRuns_sound {cx : Cx} (hcx : CxOK P cx) (hat : CxAt cx W0) {inl : Inl} (hin : InlOK P cx.gl inl) {ops : Array Oper} {b : Nat} {Q : Exit → Act → World → Prop} {K : List SV → List SO → Prop} (hK : ∀ ρ tm ob a w, Holds W0 ρ tm ob a w → K tm ob → Q .normal a w)
    (fuel : Nat) (listed : Array Bool) (ρ : Rho) (tm : List SV) (ob : List SO) (a : Act) (w : World) (H : Holds W0 ρ tm ob a w) (h : anyRuns P cx inl ops b K fuel listed tm ob) : wpAny P .any ops (fun e a w => e = .normal ∧ Q e a w) fuel listed a w :=
  wpAnyI_any (anyRuns_soundI hcx hin (fun c a w k => by obtain ⟨e, _⟩ := k; cases e) fuel listed W0 ρ tm ob a w hat (fun ρ tm ob a w H k => ⟨rfl, hK ρ tm ob a w H k⟩) H h)
theorem Holds.drawnOne {ρ : Rho} {tm : List SV} {ob : List SO} {a : Act} {w : World} (H : Holds W0 ρ tm ob a w) : Holds W0 ρ tm ob a { w with drawn := w.drawn + 1 } :=
  ⟨H.size, H.rep, H.bnd, H.defers, Below.drew H.below, ⟨H.mem.objs, H.mem.injs, H.mem.frz⟩, H.kept, H.gl, H.fzs, H.keeps⟩
theorem gones_get : ∀ (n i : Nat) (x : SO), (gones n)[i]? = some x → x = .gone
  | 0, i, x, h => by simp [gones] at h
  | n + 1, 0, x, h => by simpa [gones] using h.symm
  | n + 1, i + 1, x, h => by simp only [gones, List.getElem?_cons_succ] at h; exact gones_get n i x h
theorem gones_length : ∀ n, (gones n).length = n
  | 0 => rfl
  | n + 1 => by simp [gones, gones_length n]
theorem Holds.withGones {W0 : Base} {ρ : Rho} {tm : List SV} {ob : List SO} {a : Act} {w : World} (H : Holds W0 ρ tm ob a w) (ops : Array Oper) : Holds W0 ρ tm (Sx.kept ops ob) a w := by
  unfold Sx.kept
  split
  case isFalse => exact H
  have same : ∀ (i : Nat) x, (ob ++ gones ops.size)[i]? = some x → x.has = true → ob[i]? = some x := by
    intro i x hi hx
    rcases Nat.lt_or_ge i ob.length with k | k
    · rwa [List.getElem?_append_left k] at hi
    · rw [List.getElem?_append_right k] at hi
      rw [gones_get _ _ _ hi] at hx; cases hx
  have sl : ∀ i, live (ob ++ gones ops.size) i → live ob i := fun i ⟨x, hi, hx⟩ => ⟨x, same i x hi hx, hx⟩
  have hl : ∀ i, live ob i → live (ob ++ gones ops.size) i := by
    rintro i ⟨x, hi, hx⟩
    exact ⟨x, by rw [List.getElem?_append_left (ob_lt hi)]; exact hi, hx⟩
  have hle : Env.le (lv ρ ob) (lv ρ (ob ++ gones ops.size)) := ⟨hl, fun _ _ _ h => h⟩
  have hd : ∀ i : Nat, ob[i]? = some .dead → (ob ++ gones ops.size)[i]? = some .dead := fun i h => by
    rw [List.getElem?_append_left (ob_lt h)]; exact h
  exact ⟨H.size, H.rep, fun t => SV.bnd_mono hle (H.bnd t), H.defers, H.below,
    ⟨fun i x hi hx => by
      obtain ⟨a1, a2, a3⟩ := H.mem.objs i x (same i x hi hx) hx
      exact ⟨a1, a2, SO.ok_mono hle a3⟩, fun i j hi hj hij => H.mem.injs i j (sl i hi) (sl j hj) hij, fun b o v hv => ⟨(H.mem.frz b o v hv).1, fun i hi => (H.mem.frz b o v hv).2 i (sl i hi)⟩⟩,
    ⟨fun i hi => (H.kept.1 i hi).imp (fun h => ⟨hl i h.1, h.2⟩) (fun h => hd i h), fun i hi => hd i (H.kept.2.1 i hi), by have := H.kept.2.2; simp; omega⟩, H.gl, H.fzs, fun b z hz => ⟨(H.keeps b z hz).1, fun i hi => (H.keeps b z hz).2 i (sl i hi)⟩⟩
theorem Holds.keptM {ρ : Rho} {tm : List SV} {ob : List SO} {a : Act} {w : World} (H : Holds W0 ρ tm ob a w) (cx : Cx) (ops : Array Oper) : Holds W0 ρ tm (Sx.keptM cx ops ob) a w := by
  unfold Sx.keptM
  split
  · exact H.withGones ops
  · exact H
theorem plainR_runs {cx : Cx} {inl : Inl} {ops : Array Oper} {K : List SV → List SO → Prop} : ∀ {l : List Oper} {i : Nat} {tm : List SV} {ob : List SO} {ps : List Prop} {t : List SV} {o : List SO}, plainR P cx ops i l tm ob = some (ps, t, o) → Ok ps → K t o → runs P cx inl ops false i l tm ob K
  | [], i, tm, ob, ps, t, o, h, _, hK => by
    simp only [plainR, Option.some.injEq, Prod.mk.injEq] at h
    obtain ⟨_, rfl, rfl⟩ := h
    exact hK
  | op :: r, i, tm, ob, ps, t, o, h, hp, hK => by
    simp only [plainR] at h
    split at h
    · cases h
    · rename_i hsp
      split at h
      · rename_i p1 sv ob' hs
        split at h
        · rename_i q1 t' o' hr
          simp only [Option.some.injEq, Prod.mk.injEq] at h
          obtain ⟨rfl, rfl, rfl⟩ := h
          obtain ⟨h1, h2⟩ := Ok.append.1 hp
          simp only [runs, hsp, hs]
          exact ands_iff.2 ⟨h1, plainR_runs hr h2 hK⟩
        · cases h
      · cases h
theorem plainC_sx {cx : Cx} {inl : Inl} {dr : Drawn} {iv : List (Nat × Hint)} {N kf kn : Nat} : ∀ (c : Code) {tm : List SV} {ob : List SO} {ps : List Prop} {t : List SV} {o : List SO} {K : Exit → List SV → List SO → Prop}, plainC P cx iv kf c tm ob = some (ps, t, o) → Ok ps → K .normal t o → sx P cx inl dr iv N kf kn c tm ob K
  | .skip, tm, ob, ps, t, o, K, h, _, hK => by
    simp only [plainC, Option.some.injEq, Prod.mk.injEq] at h
    obtain ⟨_, rfl, rfl⟩ := h
    exact hK
  | .region id ops false, tm, ob, ps, t, o, K, h, hp, hK => by
    simp only [plainC] at h
    split at h
    · rename_i hsp hcu hiv
      simp only [sx, hsp, hcu, hiv, regionS]
      exact plainR_runs h hp hK
    · cases h
  | .seq x y, tm, ob, ps, t, o, K, h, hp, hK => by
    simp only [plainC] at h
    split at h
    · rename_i p1 t1 o1 hx
      split at h
      · rename_i q1 t2 o2 hy
        simp only [Option.some.injEq, Prod.mk.injEq] at h
        obtain ⟨rfl, rfl, rfl⟩ := h
        obtain ⟨h1, h2⟩ := Ok.append.1 hp
        simp only [sx]
        exact plainC_sx x hx h1 (plainC_sx y hy h2 hK)
      · cases h
    · cases h
  | .region _ _ true, _, _, _, _, _, _, h, _, _ | .label _, _, _, _, _, _, _, h, _, _ | .exit _, _, _, _, _, _, _, h, _, _ | .ret, _, _, _, _, _, _, h, _, _ | .cond _ _ _, _, _, _, _, _, _, h, _, _ | .block _ _, _, _, _, _, _, _, h, _, _ | .loop _, _, _, _, _, _, _, h, _, _ | .rangeFunc .., _, _, _, _, _, _, h, _, _ | .scope _, _, _, _, _, _, _, h, _, _ | .goto _, _, _, _, _, _, _, h, _, _ | .refuse _, _, _, _, _, _, _, h, _, _ => by simp [plainC] at h
theorem regionS_sound {cx : Cx} (hcx : CxOK P cx) (hat : CxAt cx W0) {inl : Inl} (hin : InlOK P cx.gl inl) {dr : Drawn} (hdr : DrawnOK P cx dr) {id : Nat} {ops : Array Oper} {draw : Bool} {ρ : Rho} {tm : List SV} {ob : List SO} {a : Act} {w : World} {K : List SV → List SO → Prop} {Q : Exit → Act → World → Prop}
    (H : Holds W0 ρ tm ob a w) (h : regionS P cx inl dr ops draw tm ob K) (hK' : ∀ ρ tm ob a w, Holds W0 ρ tm ob a w → K tm ob → Q .normal a w) : (Code.region id ops draw).wp P Q a w := by
  unfold regionS at h
  split at h
  · exact wp_region_list (runs_sound hcx hat hin hK' H h)
  · split at h
    · rename_i hd
      exact hdr cx.kn _ _ _ _ hd hin hat H h hK'
    · split at h
      · rename_i hm
        exact Code.wp_mono (fun _ _ _ k => k.2) (wp_region_any hm (anyRuns_sound hcx hat hin hK' _ _ ρ tm _ a _ (H.drawnOne.keptM cx ops) h))
      · exact h.no
def LoopFrom (P : Program) (c : Code) (Q : Exit → Act → World → Prop) (a : Act) (w : World) : Prop :=
  ∀ b k cs, ∃ e a' w', Q e a' w' ∧ Arrives P (lone (b.at a (.code c :: .inLoop c :: k)) cs w) b k cs e a' w'
theorem loopFrom_ghost {c : Code} {Q : Exit → Act → World → Prop} {P : Program} (I : Nat → Act → World → Prop)
    (round : ∀ n a w, I n a w → c.wp P (Exit.then (fun a' w' => ∃ n', n' < n ∧ I n' a' w') Q) a w) : ∀ n a w, I n a w → LoopFrom P c Q a w := by
  intro n
  induction n using Nat.strongRecOn with
  | _ n ih =>
    intro a w hI b k cs
    obtain ⟨e, a₁, w₁, hq, harr⟩ := round n a w hI b (.inLoop c :: k) cs
    cases e with
    | normal =>
      obtain ⟨n', hlt, hI₁⟩ := hq
      obtain ⟨e₂, a₂, w₂, hq₂, harr₂⟩ := ih n' hlt a₁ w₁ hI₁ b k cs
      exact ⟨e₂, a₂, w₂, hq₂, .of_steps (Steps.trans harr (.one step_inLoop)) harr₂⟩
    | exit id => exact ⟨_, a₁, w₁, hq, .pass (x := .inLoop c) rfl (fun _ _ => .inl (by simp)) harr⟩
    | goto l => exact ⟨_, a₁, w₁, hq, .pass (x := .inLoop c) rfl (fun _ _ => .inl (by simp)) harr⟩
    | ret => exact ⟨_, a₁, w₁, hq, .pass (x := .inLoop c) rfl (fun _ _ => .inl (by simp)) harr⟩
    | panic ch => exact ⟨_, a₁, w₁, hq, .pass (x := .inLoop c) rfl (fun _ _ => .inl (by simp)) harr⟩
    | outgrown => exact ⟨_, a₁, w₁, hq, .pass (x := .inLoop c) rfl (fun _ _ => .inl (by simp)) harr⟩
theorem wp_loop_first {c : Code} {Q : Exit → Act → World → Prop} {P : Program} {a : Act} {w : World} (h : c.wp P (Exit.then (LoopFrom P c Q) Q) a w) : (Code.loop c).wp P Q a w := by
  intro b k cs
  obtain ⟨e, a₁, w₁, hq, harr⟩ := h b (.inLoop c :: k) cs
  cases e with
  | normal =>
    obtain ⟨e₂, a₂, w₂, hq₂, harr₂⟩ := hq b k cs
    exact ⟨e₂, a₂, w₂, hq₂, .of_steps (.one step_loop) (.of_steps (Steps.trans harr (.one step_inLoop)) harr₂)⟩
  | exit id => exact ⟨_, a₁, w₁, hq, .of_steps (.one step_loop) (.pass (x := .inLoop c) rfl (fun _ _ => .inl (by simp)) harr)⟩
  | goto l => exact ⟨_, a₁, w₁, hq, .of_steps (.one step_loop) (.pass (x := .inLoop c) rfl (fun _ _ => .inl (by simp)) harr)⟩
  | ret => exact ⟨_, a₁, w₁, hq, .of_steps (.one step_loop) (.pass (x := .inLoop c) rfl (fun _ _ => .inl (by simp)) harr)⟩
  | panic ch => exact ⟨_, a₁, w₁, hq, .of_steps (.one step_loop) (.pass (x := .inLoop c) rfl (fun _ _ => .inl (by simp)) harr)⟩
  | outgrown => exact ⟨_, a₁, w₁, hq, .of_steps (.one step_loop) (.pass (x := .inLoop c) rfl (fun _ _ => .inl (by simp)) harr)⟩
theorem sx_sound {cx : Cx} (hcx : CxOK P cx) (hat : CxAt cx W0) {inl : Inl} (hin : InlOK P cx.gl inl) {dr : Drawn} (hdr : DrawnOK P cx dr) {iv : List (Nat × Hint)} {N kf kn : Nat} (hkn : W0.ob.length = kn) : ∀ (c : Code) {ρ : Rho} {tm : List SV} {ob : List SO} {a : Act} {w : World} {K : Exit → List SV → List SO → Prop} {Q : Exit → Act → World → Prop},
    Holds W0 ρ tm ob a w → sx P cx inl dr iv N kf kn c tm ob K → (∀ e ρ tm ob a w, Holds W0 ρ tm ob a w → K e tm ob → Q e a w) → c.wp P Q a w
  | .skip, ρ, tm, ob, a, w, K, Q, H, h, hK => wp_skip (hK _ ρ tm ob a w H h)
  | .label _, ρ, tm, ob, a, w, K, Q, H, h, hK => wp_label (hK _ ρ tm ob a w H h)
  | .exit id, ρ, tm, ob, a, w, K, Q, H, h, hK => wp_exit (hK _ ρ tm ob a w H h)
  | .ret, ρ, tm, ob, a, w, K, Q, H, h, hK => wp_ret (hK _ ρ tm ob a w H h)
  | .region id ops draw, ρ, tm, ob, a, w, K, Q, H, h, hK => by
    simp only [sx] at h
    split at h
    · split at h
      · have hK' : ∀ ρ tm ob a w, Holds W0 ρ tm ob a w → splitK (getSplit iv (kf + id)) (K .normal) tm ob → Q .normal a w := by
          intro ρ tm ob a w H h
          obtain ⟨ρ', tm', ob', H', h'⟩ := splitK_sound H h
          exact hK _ ρ' tm' ob' a w H' h'
        exact regionS_sound hcx hat hin hdr H h hK'
      · rename_i Lf p _
        generalize Lf tm ob = Ls at h
        obtain ⟨hnext, h⟩ := h
        refine regionS_sound hcx hat hin hdr H h fun ρ tm ob a w H h => ?_
        obtain ⟨L, hL, y, hy, h⟩ := nthI_ex h
        obtain ⟨hcl, hnext⟩ := allI_mem hnext L hL
        obtain ⟨⟨ρ', H'⟩, _⟩ := H.weakA hkn (hcl y) h
        exact hK _ ρ' _ _ a w H' (hnext y hy)
    · rename_i L R _
      obtain ⟨hcl, y0, hnext, h⟩ := h
      have hle : ∀ {ρ : Rho} {tm : List SV} {ob : List SO} {a : Act} {w : World}, Holds W0 ρ tm ob a w → kn ≤ ob.length := fun H => by have := H.kept.2.2; omega
      refine regionS_sound hcx hat hin hdr H h fun ρ tm ob a w H h => ?_
      obtain ⟨y, hy, h⟩ := h
      obtain ⟨⟨ρ', H'⟩, _⟩ := H.weakA hkn (hcl y) h
      exact hK _ ρ' _ _ a w H' (hnext y hy.1 hy.2)
  | .seq x y, ρ, tm, ob, a, w, K, Q, H, h, hK => by
    simp only [sx] at h
    refine wp_seq (sx_sound hcx hat hin hdr hkn x H h fun e ρ' tm' ob' a' w' H' h' => ?_)
    cases e <;> first
      | exact sx_sound hcx hat hin hdr hkn y H' h' hK
      | exact hK _ ρ' tm' ob' a' w' H' h'
  | .cond c x y, ρ, tm, ob, a, w, K, Q, H, h, hK => by
    simp only [sx] at h
    split at h
    · rename_i ps hc
      obtain ⟨hp, h⟩ := ands_iff.1 h
      exact wp_cond_true (rd_sound hc hp H).1 (sx_sound hcx hat hin hdr hkn x H h hK)
    · rename_i ps hc
      obtain ⟨hp, h⟩ := ands_iff.1 h
      exact wp_cond_false (rd_sound hc hp H).1 (sx_sound hcx hat hin hdr hkn y H h hK)
    · rename_i ps b hc
      split at h
      · rename_i p1 p2 tm' ob' hm
        obtain ⟨hp, hx, hy, hk⟩ := ands_iff.1 h
        unfold mergeOf at hm
        split at hm
        case h_2 => cases hm
        split at hm
        case h_2 => cases hm
        rename_i ps1 t1 o1 qs1 t2 o2 e1 e2
        split at hm
        case h_2 => cases hm
        rename_i hcl
        simp only [Option.some.injEq, Prod.mk.injEq] at hm
        obtain ⟨rfl, rfl, rfl, rfl⟩ := hm
        have hle : ∀ {ρ : Rho} {tm : List SV} {ob : List SO} {a : Act} {w : World}, Holds W0 ρ tm ob a w → kn ≤ ob.length := fun H => by have := H.kept.2.2; omega
        refine wp_cond_split (rd_sound hc hp H).1 (fun e => ?_) (fun e => ?_)
        · obtain ⟨k1, k23⟩ := Ok.append.1 (okAll_iff (hx e))
          obtain ⟨k2, k3⟩ := Ok.append.1 k23
          refine sx_sound hcx hat hin hdr hkn x H (plainC_sx (inl := inl) (dr := dr) (iv := iv) (N := N) (kf := kf) (kn := kn) (K := fun e t o => e = .normal ∧ t = t1 ∧ o = o1) x e1 k1 ⟨rfl, rfl, rfl⟩) fun e ρ' t o a' w' H' h' => ?_
          obtain ⟨rfl, rfl, rfl⟩ := h'
          exact hK _ _ _ _ _ _ (H'.weaken (by omega) (hle H') k2 k3 hcl).1 hk
        · obtain ⟨k1, k23⟩ := Ok.append.1 (okAll_iff (hy e))
          obtain ⟨k2, k3⟩ := Ok.append.1 k23
          refine sx_sound hcx hat hin hdr hkn y H (plainC_sx (inl := inl) (dr := dr) (iv := iv) (N := N) (kf := kf) (kn := kn) (K := fun e t o => e = .normal ∧ t = t2 ∧ o = o2) y e2 k1 ⟨rfl, rfl, rfl⟩) fun e ρ' t o a' w' H' h' => ?_
          obtain ⟨rfl, rfl, rfl⟩ := h'
          exact hK _ _ _ _ _ _ (H'.weaken (by omega) (hle H') k2 k3 hcl).1 hk
      · obtain ⟨hp, h⟩ := ands_iff.1 h
        exact wp_cond_split (rd_sound hc hp H).1 (fun e => sx_sound hcx hat hin hdr hkn x H (h.1 e) hK) (fun e => sx_sound hcx hat hin hdr hkn y H (h.2 e) hK)
    · exact h.no
  | .block id x, ρ, tm, ob, a, w, K, Q, H, h, hK => by
    simp only [sx] at h
    refine wp_block (sx_sound hcx hat hin hdr hkn x H h fun e ρ' tm' ob' a' w' H' h' => ?_)
    cases e with
    | exit i =>
      simp only at h'
      simp only [Exit.inBlock]
      split at h'
      · rename_i e; rw [if_pos (Nat.eq_of_beq_eq_true e)]; exact hK _ ρ' tm' ob' a' w' H' h'
      · rename_i e; rw [if_neg (Nat.ne_of_beq_eq_false e)]; exact hK _ ρ' tm' ob' a' w' H' h'
    | _ => exact hK _ ρ' tm' ob' a' w' H' h'
  | .scope x, ρ, tm, ob, a, w, K, Q, H, h, hK => by
    simp only [sx] at h
    refine wp_scope_straight (sx_sound hcx hat hin hdr hkn x H h fun e ρ' tm' ob' a' w' H' h' => ?_)
    cases e with
    | goto l => exact h'.no
    | _ => exact hK _ ρ' tm' ob' a' w' H' h'
  | .loop x, ρ, tm, ob, a, w, K, Q, H, h, hK => by
    simp only [sx] at h
    split at h
    · split at h
      · split at h
        · split at h
          · split at h
            · exact wp_loop_rounds N (sxLoop_sound (fun H h hK => sx_sound hcx hat hin hdr hkn x H h hK) hK N H h)
            · rename_i Lf p _
              generalize Lf tm ob = Ls at h
              obtain ⟨hcl, hst, hround⟩ := h
              obtain ⟨L, hL, y, hy, hst⟩ := nthI_ex hst
              obtain ⟨⟨ρ0, H0⟩, _⟩ := H.weakA hkn (allI_mem hcl L hL y) hst
              refine wp_loop_ghost (fun n a w => ∃ L, L ∈ Ls ∧ ∃ y ρ, L.less y = n ∧ L.holds y ∧ Holds W0 ρ (L.tm y) (L.ob y) a w) (L.less y) ⟨L, hL, y, ρ0, rfl, hy, H0⟩ ?_
              rintro n a w ⟨L, hL, y, ρ, rfl, hy, H⟩
              refine sx_sound hcx hat hin hdr hkn x H (allI_mem hround L hL y hy) fun e ρ' tm' ob' a' w' H' h' => ?_
              cases e <;> first
                | (obtain ⟨L', hL', y', hy', h'⟩ := nthI_ex h'
                   obtain ⟨⟨ρ1, H1⟩, hlt⟩ := H'.weakA hkn (allI_mem hcl L' hL' y') h'
                   exact ⟨_, hlt, L', hL', y', ρ1, rfl, hy', H1⟩)
                | exact hK _ ρ' tm' ob' a' w' H' h'
          · rename_i L M p _
            obtain ⟨hcl, hcm, hM, y, hy, h⟩ := h
            obtain ⟨⟨ρ0, H0⟩, hL⟩ := H.weakA hkn (hcl y) h
            have hle : ∀ {ρ : Rho} {tm : List SV} {ob : List SO} {a : Act} {w : World}, Holds W0 ρ tm ob a w → kn ≤ ob.length := fun H => by have := H.kept.2.2; omega
            have hend : ∀ {b : Nat} {ρ : Rho} {tm : List SV} {ob : List SO} {a : Act} {w : World}, Holds W0 ρ tm ob a w → inv2End kn L M p b tm ob → ∃ m, m < b ∧ ((∃ y ρ, L.less y = m ∧ L.holds y ∧ Holds W0 ρ (L.tm y) (L.ob y) a w) ∨ ∃ y ρ, M.less y = m ∧ M.holds y ∧ Holds W0 ρ (M.tm y) (M.ob y) a w) := by
              intro b ρ tm ob a w H h
              unfold inv2End at h
              split at h
              · obtain ⟨y', hy', h⟩ := h
                obtain ⟨⟨ρ1, H1⟩, hlt⟩ := H.weakA hkn (hcl y') h
                exact ⟨_, hlt, .inl ⟨y', ρ1, rfl, hy', H1⟩⟩
              · obtain ⟨y', hy', h⟩ := h
                obtain ⟨⟨ρ1, H1⟩, hlt⟩ := H.weakA hkn (hcm y') h
                exact ⟨_, hlt, .inr ⟨y', ρ1, rfl, hy', H1⟩⟩
            refine wp_loop_ghost (fun n a w => (∃ y ρ, L.less y = n ∧ L.holds y ∧ Holds W0 ρ (L.tm y) (L.ob y) a w) ∨ ∃ y ρ, M.less y = n ∧ M.holds y ∧ Holds W0 ρ (M.tm y) (M.ob y) a w) (L.less y) (.inl ⟨y, ρ0, rfl, hy, H0⟩) ?_
            rintro n a w (⟨y, ρ, rfl, hy, H⟩ | ⟨y, ρ, rfl, hy, H⟩)
            · refine sx_sound hcx hat hin hdr hkn x H (hL y hy) fun e ρ' tm' ob' a' w' H' h' => ?_
              cases e <;> first
                | exact hend H' h'
                | exact hK _ ρ' tm' ob' a' w' H' h'
            · refine sx_sound hcx hat hin hdr hkn x H (hM y hy) fun e ρ' tm' ob' a' w' H' h' => ?_
              cases e <;> first
                | exact hend H' h'
                | exact hK _ ρ' tm' ob' a' w' H' h'
        · rename_i L R _
          obtain ⟨hcl, y0, hy0, h⟩ := h
          obtain ⟨⟨ρ0, H0⟩, hround⟩ := H.weakA hkn (hcl y0) h
          have hle : ∀ {ρ : Rho} {tm : List SV} {ob : List SO} {a : Act} {w : World}, Holds W0 ρ tm ob a w → kn ≤ ob.length := fun H => by have := H.kept.2.2; omega
          refine wp_loop_ghost (fun n a w => ∃ y ρ, L.less y = n ∧ (L.holds y ∧ R y0 y) ∧ Holds W0 ρ (L.tm y) (L.ob y) a w) (L.less y0) ⟨y0, ρ0, rfl, hy0, H0⟩ ?_
          rintro n a w ⟨y, ρ, rfl, hy, H⟩
          refine sx_sound hcx hat hin hdr hkn x H (hround y hy.1 hy.2) fun e ρ' tm' ob' a' w' H' h' => ?_
          cases e <;> first
            | (obtain ⟨y', hy', h'⟩ := h'
               obtain ⟨⟨ρ1, H1⟩, hlt⟩ := H'.weakA hkn (hcl y') h'
               exact ⟨_, hlt, y', ρ1, rfl, hy', H1⟩)
            | exact hK _ ρ' tm' ob' a' w' H' h'
      · rename_i L _
        obtain ⟨hcl, hround, h⟩ := h
        have hle : ∀ {ρ : Rho} {tm : List SV} {ob : List SO} {a : Act} {w : World}, Holds W0 ρ tm ob a w → kn ≤ ob.length := fun H => by have := H.kept.2.2; omega
        refine wp_loop_first (sx_sound hcx hat hin hdr hkn x H h fun e ρ' tm' ob' a' w' H' h' => ?_)
        cases e <;> first
          | (obtain ⟨y, hy, h'⟩ := h'
             obtain ⟨⟨ρ1, H1⟩, _⟩ := H'.weakA hkn (hcl y) h'
             refine loopFrom_ghost (fun n a w => ∃ y ρ, L.less y = n ∧ L.holds y ∧ Holds W0 ρ (L.tm y) (L.ob y) a w) ?_ (L.less y) _ _ ⟨y, ρ1, rfl, hy, H1⟩
             rintro n a w ⟨y, ρ, rfl, hy, H⟩
             refine sx_sound hcx hat hin hdr hkn x H (hround y hy) fun e ρ' tm' ob' a' w' H' h' => ?_
             cases e <;> first
               | (obtain ⟨y', hy', h'⟩ := h'
                  obtain ⟨⟨ρ2, H2⟩, hlt⟩ := H'.weakA hkn (hcl y') h'
                  exact ⟨_, hlt, y', ρ2, rfl, hy', H2⟩)
               | exact hK _ ρ' tm' ob' a' w' H' h')
          | exact hK _ ρ' tm' ob' a' w' H' h'
    · rename_i L _
      obtain ⟨hcl, y, hy, h⟩ := h
      obtain ⟨⟨ρ0, H0⟩, hround⟩ := H.weakA hkn (hcl y) h
      have hle : ∀ {ρ : Rho} {tm : List SV} {ob : List SO} {a : Act} {w : World}, Holds W0 ρ tm ob a w → kn ≤ ob.length := fun H => by have := H.kept.2.2; omega
      refine wp_loop_ghost (fun n a w => ∃ y ρ, L.less y = n ∧ L.holds y ∧ Holds W0 ρ (L.tm y) (L.ob y) a w) (L.less y) ⟨y, ρ0, rfl, hy, H0⟩ ?_
      rintro n a w ⟨y, ρ, rfl, hy, H⟩
      refine sx_sound hcx hat hin hdr hkn x H (hround y hy) fun e ρ' tm' ob' a' w' H' h' => ?_
      cases e <;> first
        | (obtain ⟨y', hy', h'⟩ := h'
           obtain ⟨⟨ρ1, H1⟩, hlt⟩ := H'.weakA hkn (hcl y') h'
           exact ⟨_, hlt, y', ρ1, rfl, hy', H1⟩)
        | exact hK _ ρ' tm' ob' a' w' H' h'
  | .rangeFunc .., _, _, _, _, _, _, _, _, h, _ | .goto _, _, _, _, _, _, _, _, _, h, _ | .refuse _, _, _, _, _, _, _, _, _, h, _ => by simp only [sx] at h; exact h.no
def resL (P : Program) (tm : List SV) (ob : List SO) : List ResultVar → Option (List SA)
  | [] => some []
  | .tmp t :: r =>
    match ev tm (.tmp t), resL P tm ob r with
    | .one x, some xs => some (x :: xs)
    | _, _ => none
  | .cell t ty :: r =>
    match ev tm (.tmp t), resL P tm ob r with
    | .one x, some xs => match semLoad P [] ob ty x with
      | some ([], z) => some (z :: xs)
      | _ => none
    | _, _ => none
def resV : List SA → SV
  | [x] => .one x
  | xs => .tup xs
def ret (P : Program) (rs : List ResultVar) (post : SV → List SO → Prop) : Exit → List SV → List SO → Prop
  | .ret, tm, ob | .normal, tm, ob =>
    match resL P tm ob rs with
    | some xs => post (resV xs) ob
    | none => StuckAt "results"
  | _, _, _ => StuckAt "exit"
theorem resL_sound {ρ : Rho} {tm : List SV} {ob : List SO} {a : Act} {w : World} (H : Holds W0 ρ tm ob a w) : ∀ {rs : List ResultVar} {xs : List SA}, resL P tm ob rs = some xs →
    (rs.mapM (fun
      | .tmp t => pure (a.tmps.getD t undef)
      | .cell c t => do loadVar t (← asAddr (a.tmps.getD c undef))) : Sem (List Value)).run P w = .ok (xs.map (SA.conc ρ)) w ∧ ∀ x ∈ xs, x.bnd (lv ρ ob)
  | [], xs, h => by simp only [resL, Option.some.injEq] at h; subst h; simp
  | .tmp t :: r, xs, h => by
    simp only [resL] at h
    split at h
    · rename_i x xs' h1 h2
      simp only [Option.some.injEq] at h; subst h
      have hr := (H.ev (.tmp t)).1
      have hb := (H.ev (.tmp t)).2
      rw [h1] at hr hb
      simp only [SV.rep, Act.eval] at hr
      obtain ⟨ih, ihb⟩ := resL_sound H h2
      refine ⟨by simp only [List.mapM_cons, Sem.run_bind, Sem.run_pure, Result.andThen_ok, hr, ih, List.map_cons], fun y hy => ?_⟩
      rcases List.mem_cons.1 hy with rfl | hy
      · exact hb
      · exact ihb y hy
    · cases h
  | .cell t ty :: r, xs, h => by
    simp only [resL] at h
    split at h
    · rename_i x xs' h1 h2
      split at h
      · rename_i z hz
        simp only [Option.some.injEq] at h; subst h
        have hr := (H.ev (.tmp t)).1
        rw [h1] at hr
        simp only [SV.rep, Act.eval] at hr
        obtain ⟨e, hb⟩ := semLoad_sound (P := P) H (x := x) (by have := (H.ev (.tmp t)).2; rw [h1] at this; exact this) hz (.inl rfl) trivial
        obtain ⟨ad, hx⟩ : ∃ ad, x.conc ρ = .pointer (some ad) := by
          unfold semLoad at hz
          split at hz
          · exact ⟨_, rfl⟩
          · exact ⟨_, rfl⟩
          · exact ⟨_, rfl⟩
          · exact ⟨_, rfl⟩
          · exact ⟨_, rfl⟩
          · cases hz
        rw [hx] at e hr
        simp only [Instr.loadAt, Instr.sureAddr, Sem.run_bind, Sem.run_pure, Result.andThen_ok] at e
        obtain ⟨ih, ihb⟩ := resL_sound H h2
        have hp : asAddr (a.tmps.getD t undef) = pure ad := by rw [hr]; rfl
        refine ⟨by simp only [List.mapM_cons, Sem.run_bind, Sem.run_pure, Result.andThen_ok, hp, ih, List.map_cons, e], fun y hy => ?_⟩
        rcases List.mem_cons.1 hy with rfl | hy
        · exact hb
        · exact ihb y hy
      · cases h
    · cases h
theorem results_sound {ρ : Rho} {tm : List SV} {ob : List SO} {a : Act} {w : World} (H : Holds W0 ρ tm ob a w) {fn : Func} {xs : List SA} (h : resL P tm ob fn.results.toList = some xs) :
    ∃ v, (results fn a.tmps).run P w = .ok v w ∧ (resV xs).rep ρ v ∧ (resV xs).bnd (lv ρ ob) := by
  obtain ⟨this, hb⟩ := resL_sound H h
  have e : (results fn a.tmps).run P w = .ok (if h : (xs.map (SA.conc ρ)).toArray.size = 1 then (xs.map (SA.conc ρ)).toArray[0] else .tuple (xs.map (SA.conc ρ)).toArray) w := by
    unfold results
    rw [Sem.run_bind, Array.mapM_eq_mapM_toList, Sem.run_map]
    erw [this]
    rfl
  rw [e]
  refine ⟨_, rfl, ?_, ?_⟩
  · match xs with
    | [] => simp [resV, SV.rep]
    | [x] => simp [resV, SV.rep]
    | x :: y :: r => simp [resV, SV.rep]
  · match xs, hb with
    | [], hb => exact hb
    | [x], hb => exact hb x (by simp)
    | x :: y :: r, hb => exact hb
def slots0 (args : List SA) (n : Nat) : List SV := args.map .one ++ List.replicate (n - args.length) .any
theorem calls_of_sx {cx : Cx} (hcx : CxOK P cx) {inl : Inl} (hin : InlOK P cx.gl inl) {dr : Drawn} (hdr : DrawnOK P cx dr) (iv : List (Nat × Hint)) (N kf : Nat) {f : FuncId} {fn : Func} {c : Code} (hf : P.funcs[f]? = some fn) (hb : fn.body = some c) {Z : World} {ob : List SO} (args : List SA) (ρ : Rho) (hargs : ∀ x ∈ args, x.bnd (lv ρ ob)) (w : World)
    (hB : Below Z.heap.size Z w) (hm : Mem Z.heap.size ρ ob w) (hg : GlobsOK cx.gl ρ.fz) (hkn : ob.length ≤ cx.kn) {keep : Nat → Obj → Prop} (hkeep : Keeps keep ρ ob w)
    (post : SV → List SO → Prop) {R : Ending → World → Prop} (hR : ∀ sv ob' ρ' v w', post sv ob' → sv.rep ρ' v → sv.bnd (lv ρ' ob') → Below Z.heap.size Z w' → Mem Z.heap.size ρ' ob' w' → Kept ⟨Z, ob, ρ, cx.gl, keep⟩ ρ' ob' → FzLe ⟨Z, ob, ρ, cx.gl, keep⟩ ρ' → Keeps keep ρ' ob' w' → R (.returned v) w')
    (h : sx P cx inl dr iv N kf ob.length c (slots0 args fn.ntmps) ob (ret P fn.results.toList post)) : Calls P f (args.map (SA.conc ρ)).toArray w R := by
  refine calls_of_wp hf hb ?_
  have H : Holds ⟨Z, ob, ρ, cx.gl, keep⟩ ρ (slots0 args fn.ntmps) ob { tmps := (args.map (SA.conc ρ)).toArray ++ Array.replicate (fn.ntmps - (args.map (SA.conc ρ)).toArray.size) undef, defers := [] } w := by
    have get : ∀ t : Nat, (slots0 args fn.ntmps).getD t .any = match args[t]? with | some x => .one x | none => .any := by
      intro t
      simp only [slots0, List.getD_eq_getElem?_getD, List.getElem?_append, List.length_map, List.getElem?_map]
      by_cases ht : t < args.length
      · simp [ht]
      · simp only [ht, if_false, List.getElem?_replicate, List.getElem?_eq_none (Nat.le_of_not_lt ht)]
        split <;> rfl
    refine ⟨by simp [slots0], fun t => ?_, fun t => ?_, rfl, hB, hm, ⟨fun i hi => .inl ⟨hi, rfl⟩, fun i hi => hi, Nat.le_refl _⟩, hg, ⟨fun _ _ _ h => h, fun _ _ _ h => .inl ⟨_, _, h⟩⟩, hkeep⟩
    · rw [get t]
      cases ht : args[t]? with
      | none => trivial
      | some x =>
        obtain ⟨hlt, rfl⟩ := List.getElem?_eq_some_iff.1 ht
        simp [SV.rep, Array.getElem?_append, hlt]
    · rw [get t]
      cases ht : args[t]? with
      | none => trivial
      | some x => exact hargs x (List.mem_of_getElem? ht)
  refine sx_sound hcx ⟨rfl, hkn⟩ hin hdr rfl c H h fun e ρ' tm ob' a w' H' h' => ?_
  have fin : (match resL P tm ob' fn.results.toList with
      | some xs => post (resV xs) ob'
      | none => StuckAt "results") → a.defers = [] ∧ ∃ v, (results fn a.tmps).run P w' = .ok v w' ∧ R (.returned v) w' := by
    intro h'
    split at h'
    · rename_i xs hx
      obtain ⟨v, hv, hr, hbd⟩ := results_sound H' hx
      exact ⟨H'.defers, v, hv, hR _ ob' ρ' v w' h' hr hbd H'.below H'.mem H'.kept H'.fzs H'.keeps⟩
    · exact h'.no
  cases e with
  | ret => exact fin h'
  | normal => exact fin h'
  | _ => exact h'.no
def inlD (P : Program) (cx : Cx) (dr : Drawn) (iv : List (Nat × Hint)) (N : Nat) : Nat → Inl
  | 0 => noInl
  | d + 1 => fun f args ob k =>
    match P.funcs[f]? with
    | some fn =>
      match fn.body, fn.name == "runtime.NumGoroutine" with
      | some c, false => sx P { cx with kn := ob.length } (inlD P cx dr iv N d) dr iv N ((f + 1) * 100000) ob.length c (slots0 args fn.ntmps) ob (ret P fn.results.toList k)
      | _, _ => StuckAt "no text"
    | none => StuckAt "no function"
theorem run_callFunc_enter {P : Program} {f : Nat} {fn : Func} (hf : P.funcs[f]? = some fn) (hb : fn.body.isSome = true) (hn : (fn.name == "runtime.NumGoroutine") = false) (args : Array Value) (w : World) : (callFunc f args).run P w = .ok (.enter f args) w := by
  have hb' : fn.body.isNone = false := by cases h : fn.body <;> simp [h] at hb ⊢
  unfold callFunc
  rw [Sem.run_bind, run_program, Result.andThen_ok]
  simp only [hf, hn, hb', Bool.false_eq_true, if_false, Sem.run_pure]
theorem inlD_ok {cx : Cx} (hcx : CxOK P cx) {dr : Drawn} (hdr : DrawnOK P cx dr) (iv : List (Nat × Hint)) (N : Nat) : ∀ d, InlOK P cx.gl (inlD P cx dr iv N d)
  | 0 => noInl_ok P cx.gl
  | d + 1 => by
    intro f args ob k h Z ρ tm a w hz H hargs
    simp only [inlD] at h
    split at h
    case h_2 => exact h.no
    rename_i fn hf
    split at h
    case h_2 => exact h.no
    rename_i c hb hn
    refine ⟨run_callFunc_enter hf (by rw [hb]; rfl) hn _ w, ?_⟩
    refine calls_of_sx (cx := { cx with kn := ob.length }) hcx (inlD_ok hcx hdr iv N d) hdr iv N _ hf hb args ρ hargs w H.below H.mem (by rw [← hz]; exact H.gl) (Nat.le_refl _) H.keeps k (fun sv ob' ρ' v w' hk hr hbd hB hm hkp hfz hkk => ?_) h
    refine ⟨v, rfl, ρ', sv, ob', hk, hr, hbd, H.onto (fun i hi hi' => ?_) hfz.le hfz.own hB hm ⟨fun i hi => ?_, fun i hi => hkp.2.1 i (H.kept.2.1 i hi), Nat.le_trans H.kept.2.2 hkp.2.2⟩ hkk⟩
    · rcases hkp.1 i hi with ⟨_, e⟩ | e
      · exact e
      · obtain ⟨_, h', hh⟩ := hi'; rw [e] at h'; cases h'; cases hh
    · rcases H.kept.1 i hi with ⟨k1, k2⟩ | k1
      · rcases hkp.1 i k1 with ⟨q1, q2⟩ | q
        · exact .inl ⟨q1, Eq.trans q2 k2⟩
        · exact .inr q
      · exact .inr (hkp.2.1 i k1)
end
end Go.Sx
end
