/-
  A calculus of symbolic states for walks over translated Go code, part 10: code, and a call.
-/
import Derived.Test.YtdcnlghfgkkcoabSx9
import Derived.Deep.LoopGhost
namespace Go.Sx
open Go.RowKit

/-- Rounds of a loop that come to an end by themselves. -/
def sxLoop (body : List SV → List SO → (Exit → List SV → List SO → Prop) → Prop) (K : Exit → List SV → List SO → Prop) : Nat → List SV → List SO → Prop
  | 0, _, _ => StuckAt "rounds"
  | n + 1, tm, ob => body tm ob fun e tm ob => match e with
    | .normal => sxLoop body K n tm ob
    | e => K e tm ob

/-- A loop that is met by what holds at each round's head. -/
structure Inv where
  X : Type
  tm : X → List SV
  ob : X → List SO
  holds : X → Prop
  less : X → Nat
def firstId : Code → Nat
  | .region id _ _ => id
  | .seq a _ => firstId a
  | .block _ a => firstId a
  | .loop a => firstId a
  | _ => 0

/-- Said of a slot with less: what stood there stands for what is said now. -/
def weakV : SV → SV → Prop
  | _, .any => True
  | .one (.sc (.ptr o off)), .one (.sc (.ptr o' off')) => o = o' ∧ off = off'
  | .one (.sc x), .one (.sc (.val v)) => asV (.sc x) = some v
  | s, s' => s = s'
def weakT : List SV → List SV → Prop
  | [], [] => True
  | s :: l, s' :: l' => weakV s s' ∧ weakT l l'
  | _, _ => False
def weakO : List SO → List SO → Prop
  | _, [] => True
  | .cells e ks :: l, .cells e' ks' :: l' => (e = e' ∧ ks = ks') ∧ weakO l l'
  | _ :: l, .gone :: l' => weakO l l'
  | _, _ => False

def liveB (ob : List SO) (i : Nat) : Bool :=
  match ob[i]? with
  | some (.cells _ _) => true
  | _ => false
def SC.bndB (n : Nat → Bool) : SC → Bool
  | .ptr o _ => n o
  | _ => true
def SK.bndB (n : Nat → Bool) : SK → Bool
  | .c s => s.bndB n
  | .u _ => true
def SA.bndB (n : Nat → Bool) : SA → Bool
  | .sc c => c.bndB n
  | .agg ks => ks.all (SK.bndB n)
def SV.bndB (n : Nat → Bool) : SV → Bool
  | .any => true
  | .one x => x.bndB n
  | .tup xs => xs.all (SA.bndB n)
  | .gd _ x => x.bndB n
def obB (n : Nat → Bool) : SO → Bool
  | .gone => true
  | .cells _ ks => ks.all (SK.bndB n)
/-- What is said of a loop's head names no blocks but those that it has. -/
def closedB (tm : List SV) (ob : List SO) : Bool := tm.all (SV.bndB (liveB ob)) && ob.all (obB (liveB ob))

/-- Places kept for a region's new blocks. -/
def isNew : Op → Bool
  | .alloc _ | .box .. => true
  | _ => false
def gones : Nat → List SO
  | 0 => []
  | n + 1 => .gone :: gones n
def kept (ops : Array Oper) (ob : List SO) : List SO := if ops.toList.any (fun o => isNew o.op) then ob ++ gones ops.size else ob
/-- May a region draw its order, and the text's order serve for all? (Part 11.) -/
abbrev Drawn := Program → Cx → Array Oper → List SV → List SO → Bool

def sx (P : Program) (cx : Cx) (dr : Drawn) (iv : List (Nat × Inv)) (N : Nat) : Code → List SV → List SO → (Exit → List SV → List SO → Prop) → Prop
  | .skip, tm, ob, K => K .normal tm ob
  | .label _, tm, ob, K => K .normal tm ob
  | .exit id, tm, ob, K => K (.exit id) tm ob
  | .ret, tm, ob, K => K .ret tm ob
  | .region _ ops draw, tm, ob, K =>
    match draw with
    | false => runs P cx ops false 0 ops.toList tm ob (K .normal)
    | true => match dr P cx ops tm ob with
      | true => runs P cx ops true ob.length ops.toList tm (kept ops ob) (K .normal)
      | false => StuckAt "order"
  | .seq x y, tm, ob, K => sx P cx dr iv N x tm ob fun e tm ob => match e with
    | .normal => sx P cx dr iv N y tm ob K
    | e => K e tm ob
  | .cond c x y, tm, ob, K =>
    match rd tm c with
    | some (ps, .sc (.bit true)) => ands ps (sx P cx dr iv N x tm ob K)
    | some (ps, .sc (.bit false)) => ands ps (sx P cx dr iv N y tm ob K)
    | some (ps, .sc (.val (.bool b))) => ands ps ((b = true → sx P cx dr iv N x tm ob K) ∧ (b = false → sx P cx dr iv N y tm ob K))
    | _ => StuckAt "test"
  | .block id x, tm, ob, K => sx P cx dr iv N x tm ob fun e tm ob => match e with
    | .exit i => match Nat.beq i id with
      | true => K .normal tm ob
      | false => K (.exit i) tm ob
    | e => K e tm ob
  | .loop x, tm, ob, K =>
    match iv.lookup (firstId x) with
    | none => sxLoop (sx P cx dr iv N x) K N tm ob
    | some L => (∀ y, closedB (L.tm y) (L.ob y) = true) ∧ ∃ y, L.holds y ∧ weakT tm (L.tm y) ∧ weakO ob (L.ob y) ∧ ∀ y, L.holds y → sx P cx dr iv N x (L.tm y) (L.ob y) fun e tm ob => match e with
      | .normal => ∃ y', L.holds y' ∧ weakT tm (L.tm y') ∧ weakO ob (L.ob y') ∧ L.less y' < L.less y
      | e => K e tm ob
  | _, _, _, _ => StuckAt "code"

/-- The order that a region draws is of no account. -/
def DrawnOK (P : Program) (cx : Cx) (dr : Drawn) : Prop :=
  ∀ ops tm ob, dr P cx ops tm ob = true → ∀ {W0 : World} {ρ : Nat → Nat} {a : Act} {w : World} {Q : Exit → Act → World → Prop} {K : List SV → List SO → Prop} {id : Nat},
    Holds W0 ρ tm ob a w → runs P cx ops true ob.length ops.toList tm (kept ops ob) K → (∀ ρ tm ob a w, Holds W0 ρ tm ob a w → K tm ob → Q .normal a w) → (Code.region id ops true).wp P Q a w
def noDraw : Drawn := fun _ _ _ _ _ => false
theorem noDraw_ok (P : Program) (cx : Cx) : DrawnOK P cx noDraw := fun _ _ _ h => by simp [noDraw] at h

section
variable {P : Program} {W0 : World}

theorem weakV_sound {ρ : Nat → Nat} {s s' : SV} (h : weakV s s') : (∀ v, s.rep ρ v → s'.rep ρ v) ∧ ∀ n, s.bnd n → s'.bnd n := by
  unfold weakV at h
  split at h
  · exact ⟨fun _ _ => trivial, fun _ _ => trivial⟩
  · obtain ⟨rfl, rfl⟩ := h; exact ⟨fun _ k => k, fun _ k => k⟩
  · rename_i x v _ 
    refine ⟨fun u k => ?_, fun n _ => trivial⟩
    simp only [SV.rep] at k ⊢
    rw [k, asV_sound h ρ]; rfl
  · subst h; exact ⟨fun _ k => k, fun _ k => k⟩
theorem weakT_sound : ∀ {tm tm' : List SV}, weakT tm tm' → tm.length = tm'.length ∧ ∀ t : Nat, weakV (tm.getD t .any) (tm'.getD t .any)
  | [], [], _ => ⟨rfl, fun t => by simp [weakV]⟩
  | s :: l, s' :: l', h => by
    obtain ⟨h1, h2⟩ := weakT_sound h.2
    refine ⟨by simp [h1], fun t => ?_⟩
    cases t with
    | zero => exact h.1
    | succ t => simpa using h2 t
  | [], _ :: _, h => h.elim
  | _ :: _, [], h => h.elim
theorem weakO_sound : ∀ {ob ob' : List SO}, weakO ob ob' → ∀ (i : Nat) e ks, ob'[i]? = some (.cells e ks) → ob[i]? = some (.cells e ks)
  | ob, [], _, i, e, ks, hi => by simp at hi
  | .cells e ks :: l, .cells e' ks' :: l', h, i, f, js, hi => by
    simp only [weakO] at h
    obtain ⟨⟨rfl, rfl⟩, h⟩ := h
    cases i with
    | zero => exact hi
    | succ i => simp only [List.getElem?_cons_succ] at hi ⊢; exact weakO_sound h i f js hi
  | x :: l, .gone :: l', h, i, f, js, hi => by
    have h' : weakO l l' := by cases x <;> simpa [weakO] using h
    cases i with
    | zero => simp at hi
    | succ i => simp only [List.getElem?_cons_succ] at hi ⊢; exact weakO_sound h' i f js hi
  | [], .cells _ _ :: _, h, _, _, _, _ => by simp [weakO] at h
  | [], .gone :: _, h, _, _, _, _ => by simp [weakO] at h
  | .gone :: _, .cells _ _ :: _, h, _, _, _, _ => by simp [weakO] at h

theorem liveB_iff {ob : List SO} {i : Nat} (h : liveB ob i = true) : live ob i := by
  unfold liveB at h
  split at h
  · exact ⟨_, _, by assumption⟩
  · cases h
theorem SC.bndB_iff {ob : List SO} : ∀ {c : SC}, c.bndB (liveB ob) = true → c.bnd (live ob)
  | .ptr _ _, h => liveB_iff h
  | .num _ _, _ | .bit _, _ | .val _, _ => trivial
theorem SK.bndB_iff {ob : List SO} : ∀ {c : SK}, c.bndB (liveB ob) = true → c.bnd (live ob)
  | .c _, h => SC.bndB_iff h
  | .u _, _ => trivial
theorem SA.bndB_iff {ob : List SO} : ∀ {c : SA}, c.bndB (liveB ob) = true → c.bnd (live ob)
  | .sc _, h => SC.bndB_iff h
  | .agg _, h => fun k hk => SK.bndB_iff (List.all_eq_true.1 h k hk)
theorem SV.bndB_iff {ob : List SO} : ∀ {c : SV}, c.bndB (liveB ob) = true → c.bnd (live ob)
  | .any, _ => trivial
  | .one _, h => SA.bndB_iff h
  | .tup _, h => fun k hk => SA.bndB_iff (List.all_eq_true.1 h k hk)
  | .gd _ _, h => fun _ => SA.bndB_iff h

theorem Holds.weaken {ρ : Nat → Nat} {tm tm' : List SV} {ob ob' : List SO} {a : Act} {w : World} (H : Holds W0 ρ tm ob a w) (ht : weakT tm tm') (ho : weakO ob ob') (hc : closedB tm' ob' = true) : Holds W0 ρ tm' ob' a w := by
  obtain ⟨h1, h2⟩ := weakT_sound ht
  have ho := weakO_sound ho
  simp only [closedB, Bool.and_eq_true, List.all_eq_true] at hc
  obtain ⟨c1, c2⟩ := hc
  refine ⟨H.size.trans h1, fun t => (weakV_sound (h2 t)).1 _ (H.rep t), fun t => ?_, H.defers, H.below, ⟨fun i e ks hi => ?_, fun i j e ks e' ks' hi hj hij => H.mem.inj i j e ks e' ks' (ho _ _ _ hi) (ho _ _ _ hj) hij⟩⟩
  · rcases Nat.lt_or_ge t tm'.length with hlt | hge
    · have := c1 tm'[t] (List.getElem_mem hlt)
      simp only [List.getD_eq_getElem?_getD, List.getElem?_eq_getElem hlt, Option.getD_some]
      exact SV.bndB_iff this
    · simp only [List.getD_eq_getElem?_getD, List.getElem?_eq_none hge, Option.getD_none]
      trivial
  · obtain ⟨a1, a2, a3, a4⟩ := H.mem.obj i e ks (ho _ _ _ hi)
    refine ⟨a1, a2, fun k hk => ?_, a4⟩
    have := c2 (.cells e ks) (List.mem_of_getElem? hi)
    simp only [obB, List.all_eq_true] at this
    exact SK.bndB_iff (this k hk)

theorem sxLoop_sound {c : Code} {body : List SV → List SO → (Exit → List SV → List SO → Prop) → Prop}
    (hbody : ∀ {ρ : Nat → Nat} {tm : List SV} {ob : List SO} {a : Act} {w : World} {K : Exit → List SV → List SO → Prop} {Q : Exit → Act → World → Prop}, Holds W0 ρ tm ob a w → body tm ob K → (∀ e ρ tm ob a w, Holds W0 ρ tm ob a w → K e tm ob → Q e a w) → c.wp P Q a w)
    {K : Exit → List SV → List SO → Prop} {Q : Exit → Act → World → Prop} (hK : ∀ e ρ tm ob a w, Holds W0 ρ tm ob a w → K e tm ob → Q e a w) :
    ∀ (n : Nat) {ρ : Nat → Nat} {tm : List SV} {ob : List SO} {a : Act} {w : World}, Holds W0 ρ tm ob a w → sxLoop body K n tm ob → Code.rounds P c Q n a w
  | 0, _, _, _, _, _, _, h => h.no
  | n + 1, ρ, tm, ob, a, w, H, h => by
    rw [rounds_succ]
    refine hbody H h fun e ρ' tm' ob' a' w' H' h' => ?_
    cases e <;> first
      | exact sxLoop_sound hbody hK n H' h'
      | exact hK _ ρ' tm' ob' a' w' H' h'

theorem sx_sound {cx : Cx} (hcx : CxOK P cx) {dr : Drawn} (hdr : DrawnOK P cx dr) {iv : List (Nat × Inv)} {N : Nat} : ∀ (c : Code) {ρ : Nat → Nat} {tm : List SV} {ob : List SO} {a : Act} {w : World} {K : Exit → List SV → List SO → Prop} {Q : Exit → Act → World → Prop},
    Holds W0 ρ tm ob a w → sx P cx dr iv N c tm ob K → (∀ e ρ tm ob a w, Holds W0 ρ tm ob a w → K e tm ob → Q e a w) → c.wp P Q a w
  | .skip, ρ, tm, ob, a, w, K, Q, H, h, hK => wp_skip (hK _ ρ tm ob a w H h)
  | .label _, ρ, tm, ob, a, w, K, Q, H, h, hK => wp_label (hK _ ρ tm ob a w H h)
  | .exit id, ρ, tm, ob, a, w, K, Q, H, h, hK => wp_exit (hK _ ρ tm ob a w H h)
  | .ret, ρ, tm, ob, a, w, K, Q, H, h, hK => wp_ret (hK _ ρ tm ob a w H h)
  | .region id ops draw, ρ, tm, ob, a, w, K, Q, H, h, hK => by
    simp only [sx] at h
    split at h
    · exact wp_region_list (runs_sound hcx (fun ρ tm ob a w H k => hK _ ρ tm ob a w H k) H h)
    · split at h
      · rename_i hd
        exact hdr _ _ _ hd H h (fun ρ tm ob a w H k => hK _ ρ tm ob a w H k)
      · exact h.no
  | .seq x y, ρ, tm, ob, a, w, K, Q, H, h, hK => by
    simp only [sx] at h
    refine wp_seq (sx_sound hcx hdr x H h fun e ρ' tm' ob' a' w' H' h' => ?_)
    cases e <;> first
      | exact sx_sound hcx hdr y H' h' hK
      | exact hK _ ρ' tm' ob' a' w' H' h'
  | .cond c x y, ρ, tm, ob, a, w, K, Q, H, h, hK => by
    simp only [sx] at h
    split at h
    · rename_i ps hc
      obtain ⟨hp, h⟩ := ands_iff.1 h
      exact wp_cond_true (rd_sound hc hp H).1 (sx_sound hcx hdr x H h hK)
    · rename_i ps hc
      obtain ⟨hp, h⟩ := ands_iff.1 h
      exact wp_cond_false (rd_sound hc hp H).1 (sx_sound hcx hdr y H h hK)
    · rename_i ps b hc
      obtain ⟨hp, h⟩ := ands_iff.1 h
      exact wp_cond_split (rd_sound hc hp H).1 (fun e => sx_sound hcx hdr x H (h.1 e) hK) (fun e => sx_sound hcx hdr y H (h.2 e) hK)
    · exact h.no
  | .block id x, ρ, tm, ob, a, w, K, Q, H, h, hK => by
    simp only [sx] at h
    refine wp_block (sx_sound hcx hdr x H h fun e ρ' tm' ob' a' w' H' h' => ?_)
    cases e with
    | exit i =>
      simp only at h'
      simp only [Exit.inBlock]
      split at h'
      · rename_i e; rw [if_pos (Nat.eq_of_beq_eq_true e)]; exact hK _ ρ' tm' ob' a' w' H' h'
      · rename_i e; rw [if_neg (Nat.ne_of_beq_eq_false e)]; exact hK _ ρ' tm' ob' a' w' H' h'
    | _ => exact hK _ ρ' tm' ob' a' w' H' h'
  | .loop x, ρ, tm, ob, a, w, K, Q, H, h, hK => by
    simp only [sx] at h
    split at h
    · exact wp_loop_rounds N (sxLoop_sound (fun H h hK => sx_sound hcx hdr x H h hK) hK N H h)
    · rename_i L _
      obtain ⟨hcl, y, hy, ht, ho, hround⟩ := h
      refine wp_loop_ghost (fun n a w => ∃ y ρ, L.less y = n ∧ L.holds y ∧ Holds W0 ρ (L.tm y) (L.ob y) a w) (L.less y) ⟨y, ρ, rfl, hy, H.weaken ht ho (hcl y)⟩ ?_
      rintro n a w ⟨y, ρ, rfl, hy, H⟩
      refine sx_sound hcx hdr x H (hround y hy) fun e ρ' tm' ob' a' w' H' h' => ?_
      cases e <;> first
        | (obtain ⟨y', hy', ht', ho', hlt⟩ := h'
           exact ⟨_, hlt, y', ρ', rfl, hy', H'.weaken ht' ho' (hcl y')⟩)
        | exact hK _ ρ' tm' ob' a' w' H' h'
  | .rangeFunc .., _, _, _, _, _, _, _, _, h, _ | .scope _, _, _, _, _, _, _, _, _, h, _ | .goto _, _, _, _, _, _, _, _, _, h, _ | .refuse _, _, _, _, _, _, _, _, _, h, _ => by simp only [sx] at h; exact h.no
/-! ## A call -/

def resL (P : Program) (tm : List SV) (ob : List SO) : List ResultVar → Option (List SA)
  | [] => some []
  | .tmp t :: r =>
    match ev tm (.tmp t), resL P tm ob r with
    | .one x, some xs => some (x :: xs)
    | _, _ => none
  | .cell t ty :: r =>
    match ev tm (.tmp t), resL P tm ob r with
    | .one x, some xs => match semLoad P ob ty x with
      | some z => some (z :: xs)
      | none => none
    | _, _ => none
def resV : List SA → SV
  | [x] => .one x
  | xs => .tup xs
/-- What a call comes to at its end. -/
def ret (P : Program) (rs : List ResultVar) (post : SV → Prop) : Exit → List SV → List SO → Prop
  | .ret, tm, ob | .normal, tm, ob =>
    match resL P tm ob rs with
    | some xs => post (resV xs)
    | none => StuckAt "results"
  | _, _, _ => StuckAt "exit"

theorem ptr_of_rep {x : SA} {ob : List SO} {t : TypeId} {z : SA} (h : semLoad P ob t x = some z) : ∃ o off, x = .sc (.ptr o off) := by
  unfold semLoad at h
  split at h
  · exact ⟨_, _, rfl⟩
  · cases h
theorem resL_sound {ρ : Nat → Nat} {tm : List SV} {ob : List SO} {a : Act} {w : World} (H : Holds W0 ρ tm ob a w) : ∀ {rs : List ResultVar} {xs : List SA}, resL P tm ob rs = some xs →
    (rs.mapM (fun
      | .tmp t => pure (a.tmps.getD t undef)
      | .cell c t => do loadVar t (← asAddr (a.tmps.getD c undef))) : Sem (List Value)).run P w = .ok (xs.map (SA.conc ρ)) w
  | [], xs, h => by simp only [resL, Option.some.injEq] at h; subst h; simp
  | .tmp t :: r, xs, h => by
    simp only [resL] at h
    split at h
    · rename_i x xs' h1 h2
      simp only [Option.some.injEq] at h; subst h
      have hr := (H.ev (.tmp t)).1
      rw [h1] at hr
      simp only [SV.rep, Act.eval] at hr
      have ih := resL_sound H h2
      simp only [List.mapM_cons, Sem.run_bind, Sem.run_pure, Result.andThen_ok, hr, ih, List.map_cons]
    · cases h
  | .cell t ty :: r, xs, h => by
    simp only [resL] at h
    split at h
    · rename_i x xs' h1 h2
      split at h
      · rename_i z hz
        simp only [Option.some.injEq] at h; subst h
        have hr := (H.ev (.tmp t)).1
        rw [h1] at hr
        simp only [SV.rep, Act.eval] at hr
        obtain ⟨e, _⟩ := semLoad_sound (P := P) H hz
        obtain ⟨o, off, rfl⟩ := ptr_of_rep hz
        rw [show SA.conc ρ (.sc (.ptr o off)) = .pointer (some ⟨ρ o, off, none⟩) from rfl] at e hr
        simp only [Instr.loadAt, Instr.sureAddr, Sem.run_bind, Sem.run_pure, Result.andThen_ok] at e
        have ih := resL_sound H h2
        have hp : asAddr (a.tmps.getD t undef) = pure ⟨ρ o, off, none⟩ := by rw [hr]; rfl
        simp only [List.mapM_cons, Sem.run_bind, Sem.run_pure, Result.andThen_ok, hp, ih, List.map_cons, e]
      · cases h
    · cases h
theorem results_sound {ρ : Nat → Nat} {tm : List SV} {ob : List SO} {a : Act} {w : World} (H : Holds W0 ρ tm ob a w) {fn : Func} {xs : List SA} (h : resL P tm ob fn.results.toList = some xs) :
    ∃ v, (results fn a.tmps).run P w = .ok v w ∧ (resV xs).rep ρ v := by
  have := resL_sound H h
  have e : (results fn a.tmps).run P w = .ok (if h : (xs.map (SA.conc ρ)).toArray.size = 1 then (xs.map (SA.conc ρ)).toArray[0] else .tuple (xs.map (SA.conc ρ)).toArray) w := by
    unfold results
    rw [Sem.run_bind, Array.mapM_eq_mapM_toList, Sem.run_map]
    erw [this]
    rfl
  rw [e]
  refine ⟨_, rfl, ?_⟩
  match xs with
  | [] => simp [resV, SV.rep]
  | [x] => simp [resV, SV.rep]
  | x :: y :: r => simp [resV, SV.rep]

/-- The slots as a call begins. -/
def slots0 (args : List SA) (n : Nat) : List SV := args.map .one ++ List.replicate (n - args.length) .any

theorem calls_of_sx {cx : Cx} (hcx : CxOK P cx) {dr : Drawn} (hdr : DrawnOK P cx dr) (iv : List (Nat × Inv)) (N : Nat) {f : FuncId} {fn : Func} {c : Code} (hf : P.funcs[f]? = some fn) (hb : fn.body = some c) (args : List SA) (hargs : ∀ x ∈ args, x.bnd none0) (ρ : Nat → Nat) (w : World)
    (post : SV → Prop) {R : Ending → World → Prop} (hR : ∀ sv ρ' v w', post sv → sv.rep ρ' v → Below w.heap.size w w' → R (.returned v) w')
    (h : sx P cx dr iv N c (slots0 args fn.ntmps) [] (ret P fn.results.toList post)) : Calls P f (args.map (SA.conc ρ)).toArray w R := by
  refine calls_of_wp hf hb ?_
  have H : Holds w ρ (slots0 args fn.ntmps) [] { tmps := (args.map (SA.conc ρ)).toArray ++ Array.replicate (fn.ntmps - (args.map (SA.conc ρ)).toArray.size) undef, defers := [] } w := by
    have get : ∀ t : Nat, (slots0 args fn.ntmps).getD t .any = match args[t]? with | some x => .one x | none => .any := by
      intro t
      simp only [slots0, List.getD_eq_getElem?_getD, List.getElem?_append, List.length_map, List.getElem?_map]
      by_cases ht : t < args.length
      · simp [ht]
      · simp only [ht, if_false, List.getElem?_replicate, List.getElem?_eq_none (Nat.le_of_not_lt ht)]
        split <;> rfl
    refine ⟨by simp [slots0], fun t => ?_, fun t => ?_, rfl, Below.refl _ _, ⟨fun i e ks hi => by simp at hi, fun i j e ks e' ks' hi => by simp at hi⟩⟩
    · rw [get t]
      cases ht : args[t]? with
      | none => trivial
      | some x =>
        obtain ⟨hlt, rfl⟩ := List.getElem?_eq_some_iff.1 ht
        simp [SV.rep, Array.getElem?_append, hlt]
    · rw [get t]
      cases ht : args[t]? with
      | none => trivial
      | some x => exact SA.bnd_mono none0_le (hargs x (List.mem_of_getElem? ht))
  refine sx_sound hcx hdr c H h fun e ρ' tm ob a w' H' h' => ?_
  have fin : (match resL P tm ob fn.results.toList with
      | some xs => post (resV xs)
      | none => StuckAt "results") → a.defers = [] ∧ ∃ v, (results fn a.tmps).run P w' = .ok v w' ∧ R (.returned v) w' := by
    intro h'
    split at h'
    · rename_i xs hx
      obtain ⟨v, hv, hr⟩ := results_sound H' hx
      exact ⟨H'.defers, v, hv, hR _ ρ' v w' h' hr H'.below⟩
    · exact h'.no
  cases e with
  | ret => exact fin h'
  | normal => exact fin h'
  | _ => exact h'.no
end

end Go.Sx
