/-
  Texts: P389, V282, P393.
-/
import Derived.Test.YtanlbhkppagfdaaM1
import Derived.Test.YtanlbhkppagfdaaM2
import Derived.Test.YtanlbhkppagfdaaM3
import Derived.Test.YtanlbhkppagfdaaM4
import Derived.Test.YtanlbhkppagfdaaM5
import Derived.Test.YtanlbhkppagfdaaM6
import Derived.Test.YtanlbhkppagfdaaM7
import Derived.Test.YtanlbhkppagfdaaM8
import Derived.Test.YtanlbhkppagfdaaM9
import Derived.Test.YtanlbhkppagfdaaM10
section
namespace Go.Proofs.Ytanlbhkppagfdaa
open Go.Sx
set_option maxRecDepth 100000
theorem al_it {now : Int} {W : Nat → Nat → Int} : ∀ {d : Nat}, alB now W d = true → ∀ j, j < d → itB now W j = true
  | 0, _, _, hj => absurd hj (Nat.not_lt_zero _)
  | d + 1, h, j, hj => by
    have h : (alB now W d && (itB now W d && !haB d W (W d 0))) = true := h
    simp only [Bool.and_eq_true] at h
    by_cases e : j = d
    · subst e; exact h.2.1
    · exact al_it h.1 j (by omega)
theorem li_P {L : Nat → Int} (h : liB L = true) : lP L := ⟨fun c hc => by
  unfold liB woB at h
  simp only [Bool.and_eq_true, decide_eq_true_eq] at h
  rcases (by omega : c = 0 ∨ c = 1 ∨ c = 2) with rfl | rfl | rfl
  · exact h.1.1
  · exact h.1.2
  · exact h.2⟩
structure gOK (L B : Nat → Int) (now : Int) (n : Nat) (W : Nat → Nat → Int) (n' : Nat) (W' : Nat → Nat → Int) : Prop where
  g1 : rP now n W
  g2 : rP now n' W'
  g3 : lP L
  g4 : lP B
  g5 : alB now (caW n W W') (n + n') = true
theorem gt_ok {L B : Nat → Int} {now : Int} {n : Nat} {W : Nat → Nat → Int} {n' : Nat} {W' : Nat → Nat → Int} (h : gtE L B now n W n' W' = 0) : gOK L B now n W n' W' := by
  unfold gtE at h
  by_cases hb : 40 < n ∨ 40 < n'
  · rw [if_pos hb] at h; cases h
  rw [if_neg hb] at h
  by_cases ho : (upB now 1099511627776 && liB L && liB B && alB now (caW n W W') (n + n')) = true
  · simp only [Bool.and_eq_true] at ho
    obtain ⟨⟨⟨h1, h2⟩, h3⟩, h4⟩ := ho
    have hup : 0 ≤ now ∧ now ≤ 1099511627776 := by
      unfold upB at h1
      simpa only [Bool.and_eq_true, decide_eq_true_eq] using h1
    have it : ∀ j, j < n + n' → (0 ≤ caW n W W' j 1 ∧ caW n W W' j 1 ≤ 1073741824) ∧ (0 ≤ caW n W W' j 2 ∧ caW n W W' j 2 < 3) ∧ (0 ≤ caW n W W' j 3 ∧ caW n W W' j 3 ≤ now) := fun j hj => by
      have := al_it h4 j hj
      unfold itB woB chB upB at this
      simp only [Bool.and_eq_true, decide_eq_true_eq] at this
      exact ⟨this.1.1, this.1.2, this.2⟩
    have i1 : ∀ j, j < n → ∀ c, caW n W W' j c = W j c := fun j hj c => by unfold caW; rw [if_pos hj]
    have i2 : ∀ j, j < n' → ∀ c, caW n W W' (n + j) c = W' j c := fun j hj c => by unfold caW; rw [if_neg (by omega), Nat.add_sub_cancel_left]
    refine ⟨⟨by omega, hup.1, hup.2, fun j hj => ?_, fun j hj => ?_, fun j hj => ?_⟩, ⟨by omega, hup.1, hup.2, fun j hj => ?_, fun j hj => ?_, fun j hj => ?_⟩, li_P h2, li_P h3, h4⟩
    · rw [← i1 j hj]; exact (it j (by omega)).1
    · rw [← i1 j hj]; exact (it j (by omega)).2.1
    · rw [← i1 j hj]; exact (it j (by omega)).2.2
    · rw [← i2 j hj]; exact (it (n + j) (by omega)).1
    · rw [← i2 j hj]; exact (it (n + j) (by omega)).2.1
    · rw [← i2 j hj]; exact (it (n + j) (by omega)).2.2
  · rw [if_neg ho] at h; cases h
theorem bad_leaf {e : Int} (h : e ≠ 0) (L B : Nat → Int) (now : Int) (n n' : Nat) (f : Bool) : ((0 = zer e (L 0) ∧ 0 = zer e (L 1) ∧ 0 = zer e (L 2)) ∧ (0 = zer e (B 0) ∧ 0 = zer e (B 1) ∧ 0 = zer e (B 2)) ∧ 0 = zer e now ∧ (if e = 0 then if f = true then n + 1 else n else 0) = 0 ∧ (if e = 0 then if f = true then n' else n' + 1 else 0) = 0) ∧ false = (decide (e = 0) && f) := by
  have hz : ∀ x, zer e x = 0 := fun x => if_neg h
  simp only [hz, if_neg h, decide_eq_false h, Bool.false_and, and_self]
section
variable {n : Nat} {W : Nat → Nat → Int} {id v c now : Int}
theorem leafA (hn : n = 0) {i : Nat} (hi : i < 1) : allC 4 fun d => simC (fixAt (flat [SK.c (.val (.int .i64 id)), SK.c (.val (.int .i64 v)), SK.c (.val (.int .i64 c)), SK.c (.val (.int .i64 now))]) 4 1 0 i d) (qW (apW n W (kQ id v c now)) i d) := by
  subst hn
  obtain rfl : i = 0 := by omega
  exact ⟨rfl, rfl, rfl, rfl⟩
theorem ap_low {x : Nat → Int} {i : Nat} (hi : i < n) (d : Nat) : W i d = apW n W x i d := by unfold apW; rw [if_pos hi]
theorem leafB {o cap : Nat} {a : Option Addr} {x : Nat → Int} {i : Nat} (hi : i < n) : allC 4 fun d => simC (newH (SA.sc (SC.sl o 0 0 0)) (SA.sc (SC.xs a n cap 4 (qW W))) 0 (fixAt (flat []) 4 0 0) (qW W) i d) (qW (apW n W x) i d) :=
  allq fun d => congrArg (fun z => SC.val (.int .i64 z)) (ap_low hi d)
theorem leafC {o o' o2 cap c1 : Nat} {a : Option Addr} {i : Nat} (hi : i < n + 1) : allC 4 fun d => simC (newH (SA.sc (SC.slw o 4 0 n c1)) (SA.sc (SC.sl o' 0 1 1)) n (newH (SA.sc (SC.sl o2 0 0 0)) (SA.sc (SC.xs a n cap 4 (qW W))) 0 (fixAt (flat []) 4 0 0) (qW W)) (fixAt (flat [SK.c (.val (.int .i64 id)), SK.c (.val (.int .i64 v)), SK.c (.val (.int .i64 c)), SK.c (.val (.int .i64 now))]) 4 1 0) i d) (qW (apW n W (kQ id v c now)) i d) := by
  by_cases hl : i < n
  · show allC 4 fun d => simC (selC (decide (i < n)) (qW W i d) (fixAt (flat [SK.c (.val (.int .i64 id)), SK.c (.val (.int .i64 v)), SK.c (.val (.int .i64 c)), SK.c (.val (.int .i64 now))]) 4 1 0 (i - n) d)) (qW (apW n W (kQ id v c now)) i d)
    have e : ∀ d, apW n W (kQ id v c now) i d = W i d := fun d => (ap_low hl d).symm
    rw [decide_eq_true hl]
    simp only [qW, e]
    exact ⟨rfl, rfl, rfl, rfl⟩
  · obtain rfl : i = n := by omega
    show allC 4 fun d => simC (selC (decide (i < i)) (qW W i d) (fixAt (flat [SK.c (.val (.int .i64 id)), SK.c (.val (.int .i64 v)), SK.c (.val (.int .i64 c)), SK.c (.val (.int .i64 now))]) 4 1 0 (i - i) d)) (qW (apW i W (kQ id v c now)) i d)
    have e : ∀ d, apW i W (kQ id v c now) i d = kQ id v c now d := fun d => by unfold apW; rw [if_neg hl]
    rw [decide_eq_false hl, Nat.sub_self]
    simp only [qW, e]
    exact ⟨rfl, rfl, rfl, rfl⟩
end
theorem ok_gof (L B : Nat → Int) (now : Int) (a : Option Addr) (n cap : Nat) (W : Nat → Nat → Int) (a' : Option Addr) (n' cap' : Nat) (W' : Nat → Nat → Int) (id v c e : Int) (f : Bool) (hn : n ≤ maxLen) (hn' : n' ≤ maxLen) (ha : a = none → n = 0) (ha' : a' = none → n' = 0)
    (he : e = ofE L B now n W n' W' id v c) (hf : e = 0 → f = ofB L B now n W v c) :
    OwesR Try.prog cxOf slOf [] 10 Try.f10 [sG L B now a n cap W a' n' cap' W', sI .i64 id, sI .i64 v, sI .i64 c] false (ofR L B now n W n' W' id v c e f) := by
  rw [vc_gof]
  simp only [q_simT, eq_self, implies_true, imp_self, and_true, true_and, Int.toNat_natCast, Bool.not_eq_true', Bool.not_eq_false', Bool.not_not, Nat.zero_add, Nat.le_refl]
  have hML : maxLen = 9223372036854775807 := rfl
  have hG : jAt (qW W) = W := rfl
  have hG' : jAt (qW W') = W' := rfl
  rw [hG, hG']
  unfold ofE at he
  refine ⟨qP_W hn, qP_W hn', fun h => ?_, fun h => ?_⟩
  · have h : gtE L B now n W n' W' ≠ 0 := bne_iff_ne.1 h
    rw [if_pos h] at he
    subst he
    obtain ⟨q1, q2⟩ := bad_leaf h L B now n n' f
    exact ⟨q1, q2, rfl⟩
  have h0 : gtE L B now n W n' W' = 0 := by simpa using h
  have ok := gt_ok h0
  rw [if_neg (by rw [h0]; decide)] at he
  have hwc : (!woB v || !chB c) = !(woB v && chB c) := by cases woB v <;> cases chB c <;> rfl
  rw [hwc]
  refine ⟨fun h2 => ?_, fun h2 => ?_⟩
  · rw [Bool.not_eq_true'] at h2
    rw [if_pos h2] at he
    subst he
    obtain ⟨q1, q2⟩ := bad_leaf (by decide : (6 : Int) ≠ 0) L B now n n' f
    exact ⟨q1, q2, rfl⟩
  rw [Bool.not_eq_false'] at h2
  rw [if_neg (by rw [h2]; decide)] at he
  refine ⟨qP_W hn, fun _ => qP_W hn', fun h3 => ?_, fun h3 => ?_⟩
  · rw [if_pos h3] at he
    subst he
    obtain ⟨q1, q2⟩ := bad_leaf (by decide : (8 : Int) ≠ 0) L B now n n' f
    exact ⟨q1, q2, rfl⟩
  rw [if_neg (by rw [h3]; decide)] at he
  have hvc : (0 ≤ v ∧ v ≤ 1073741824) ∧ (0 ≤ c ∧ c < 3) := by
    unfold woB chB at h2
    simpa only [Bool.and_eq_true, decide_eq_true_eq] using h2
  refine ⟨qP_W hn, qP_W hn', ok.g1, ok.g3, hvc.1, hvc.2, fun h4 => ?_, fun h4 => ?_⟩
  · have h4 : ofB L B now n W v c = false ∧ n' = 40 := by
      rw [Bool.and_eq_true, Bool.not_eq_true', beq_iff_eq] at h4
      exact ⟨h4.1, by omega⟩
    rw [if_pos h4] at he
    subst he
    obtain ⟨q1, q2⟩ := bad_leaf (by decide : (9 : Int) ≠ 0) L B now n n' f
    exact ⟨q1, q2, rfl⟩
  have h4 : ¬ (ofB L B now n W v c = false ∧ n' = 40) := fun q => by
    have h4 : (!ofB L B now n W v c && ((n' : Int) == 40)) = false := h4
    rw [q.1, q.2] at h4; cases h4
  rw [if_neg h4] at he
  subst he
  have hf := hf rfl
  have hn40 := ok.g1.rn
  have hn40' := ok.g2.rn
  change f = paB L B now n W v c at hf
  rw [← hf]
  have z0 : ∀ x, zer 0 x = x := fun _ => rfl
  simp only [z0, if_true, eq_self, implies_true, true_and, and_true, decide_true, Bool.true_and]
  clear h h0 h2 h3 h4 ok hwc hvc
  have na : a.isNone = true → n = 0 := fun h => ha (Option.isNone_iff_eq_none.1 h)
  have na' : a'.isNone = true → n' = 0 := fun h => ha' (Option.isNone_iff_eq_none.1 h)
  clear ha ha' hf z0 hG hG' hn hn'
  cases f <;> simp only [reduceCtorEq, if_true, if_false, Bool.false_eq_true, false_imp_iff, true_imp_iff, true_and, and_true]
  all_goals repeat' (first | exact leafA (na (by assumption)) (by have := na (by assumption); omega) | exact leafA (na' (by assumption)) (by have := na' (by assumption); omega) | exact leafB (by assumption) | exact leafC (by assumption) | apply And.intro | intro _)
  all_goals first
    | omega
    | (have := na (by assumption); omega)
    | (have := na' (by assumption); omega)
structure naP (a : Option Addr) (n : Nat) : Prop where
  na : a = none → n = 0
def ofC : List (List FD) → List Prop
  | [[.y _, .y _, .i _, .x a n _ f, .x a' n' _ f'], [.i _], [.i _], [.i _]] => [qP n f, qP n' f', naP a n, naP a' n']
  | _ => [False]
def ofG : List (List FD) → List RS
  | [[.y L, .y B, .i now, .x _ n _ f, .x _ n' _ f'], [.i id], [.i v], [.i c]] => ofR L B now n (jAt f) n' (jAt f') id v c (ofE L B now n (jAt f) n' (jAt f') id v c) (ofB L B now n (jAt f) v c)
  | _ => []
def cOf (sh : Bool) : SSpec := specQ0 sh [pqG, .one (.i .i64), .one (.i .i64), .one (.i .i64)] ofC ofG
theorem okx_Of : CxOK Try.prog cxOf := okx_cons card_gwo (okx_cons card_gch (okx_cons card_haF (okx_mark (okx_mark (okx_mark (okx_mark (okx_mark okx_nil)))))))
theorem of_closed {L B : Nat → Int} {now : Int} {n : Nat} {W : Nat → Nat → Int} {n' : Nat} {W' : Nat → Nat → Int} {id v c e : Int} {f : Bool} : ∀ r ∈ ofR L B now n W n' W' id v c e f, r.closed := by
  intro r hr
  unfold ofR at hr
  simp only [List.mem_cons, List.not_mem_nil, or_false] at hr
  rcases hr with rfl | rfl | rfl
  · intro k hk
    simp only [List.mem_cons, List.not_mem_nil, or_false] at hk
    rcases hk with rfl | rfl | rfl | rfl | rfl
    · exact trivial
    · exact trivial
    · exact trivial
    · exact fun _ _ _ _ => ⟨trivial, rfl⟩
    · exact fun _ _ _ _ => ⟨trivial, rfl⟩
  · exact trivial
  · exact trivial
theorem card_gof {gl : Globs} : FnOKs Try.prog gl 10 (cOf false) := by
  refine FnOKs.up0 (FnOKs_R0 (cx := cxOf) okx_Of (sl := slOf) (oks_cons card_gck (oks_cons card_pa oks_nil)) Try.func10 (by kernel_rfl) (by kernel_rfl) fun ls hc => ?_) gl
  unfold ofC at hc
  split at hc
  · rename_i L B now a n cap f a' n' cap' f' id v c
    obtain ⟨p, p', q, q', _⟩ := hc
    refine ⟨_, _, [sG L B now a n cap (jAt f) a' n' cap' (jAt f'), sI .i64 id, sI .i64 v, sI .i64 c], fun ρ => rfl, fun E hE y hy => ?_, of_closed, ok_gof L B now a n cap (jAt f) a' n' cap' (jAt f') id v c _ _ p.tn p'.tn q.na q'.na rfl (fun _ => rfl)⟩
    rcases List.mem_cons.1 hy with rfl | hy
    · exact g_told p p' (hE _ (List.mem_cons_self ..))
    · exact hE y (List.mem_cons_of_mem _ hy)
  · exact hc.1.elim
end Go.Proofs.Ytanlbhkppagfdaa
end

section
namespace Go.Proofs.Ytanlbhkppagfdaa
open Go.Sx
set_option maxRecDepth 100000
def fiD (now : Int) (W : Nat → Nat → Int) : Nat → Nat × (Nat → Nat → Int)
  | 0 => (0, fun _ _ => 0)
  | d + 1 => if wiB now (W d 3) = true then ((fiD now W d).1 + 1, apW (fiD now W d).1 (fiD now W d).2 (W d)) else fiD now W d
structure Tk where
  p : Nat
  PW : Nat → Nat → Int
  q : Nat
  QW : Nat → Nat → Int
  m : Nat
  F : Nat → Int
def apI (m : Nat) (F : Nat → Int) (x : Int) (i : Nat) : Int := if i < m then F i else x
def tkS (L B : Nat → Int) (now : Int) (x : Nat → Int) (s : Tk) : Tk :=
  if wiB now (x 3) = false then ⟨s.p, s.PW, s.q, s.QW, s.m + 1, apI s.m s.F (x 0)⟩
  else if paB L B now s.p s.PW (x 1) (x 2) = true then ⟨s.p + 1, apW s.p s.PW (kQ (x 0) (x 1) (x 2) now), s.q, s.QW, s.m + 1, apI s.m s.F (x 0)⟩
  else ⟨s.p, s.PW, s.q + 1, apW s.q s.QW x, s.m, s.F⟩
def tkD (L B : Nat → Int) (now : Int) (W' : Nat → Nat → Int) (s : Tk) : Nat → Tk
  | 0 => s
  | d + 1 => tkS L B now (W' d) (tkD L B now W' s d)
def tk0 (now : Int) (n : Nat) (W : Nat → Nat → Int) : Tk := ⟨(fiD now W n).1, (fiD now W n).2, 0, fun _ _ => 0, 0, fun _ => 0⟩
def tiE (L B : Nat → Int) (now : Int) (n : Nat) (W : Nat → Nat → Int) (n' : Nat) (W' : Nat → Nat → Int) (h : Int) : Int :=
  if gtE L B now n W n' W' ≠ 0 then gtE L B now n W n' W' else if h < 1 ∨ 1000 < h ∨ 1099511627776 < now + h then 6 else 0
def tiT (L B : Nat → Int) (now : Int) (n : Nat) (W : Nat → Nat → Int) (n' : Nat) (W' : Nat → Nat → Int) (h : Int) : Tk := tkD L B (now + h) W' (tk0 (now + h) n W) n'
def zeN (e : Int) (n : Nat) : Nat := if e = 0 then n else 0
def tiR (L B : Nat → Int) (now e : Int) (T : Tk) : List RS :=
  [.st [.k (.f .i64 3 fun j => zer e (L j)), .k (.f .i64 3 fun j => zer e (B j)), .k (.c (.val (.int .i64 (zer e now)))), .s (zeN e T.p) 4 (qW T.PW), .s (zeN e T.q) 4 (qW T.QW)], .s (zeN e T.m) .i64 T.F, .v (sI .i64 e)]
end Go.Proofs.Ytanlbhkppagfdaa
end

section
namespace Go.Proofs.Ytanlbhkppagfdaa
open Go.Sx
set_option maxRecDepth 100000
structure xOK (now : Int) (x : Nat → Int) : Prop where
  xv : 0 ≤ x 1 ∧ x 1 ≤ 1073741824
  xc : 0 ≤ x 2 ∧ x 2 < 3
  xt : 0 ≤ x 3 ∧ x 3 ≤ now
theorem rP_x {now : Int} {n : Nat} {W : Nat → Nat → Int} (h : rP now n W) {j : Nat} (hj : j < n) : xOK now (W j) := ⟨h.rv j hj, h.rc j hj, h.rt j hj⟩
theorem x_later {now nw : Int} {x : Nat → Int} (h : xOK now x) (hl : now ≤ nw) : xOK nw x := ⟨h.xv, h.xc, by have := h.xt; omega⟩
theorem rP_ap {now : Int} {n : Nat} {W : Nat → Nat → Int} {x : Nat → Int} (h : rP now n W) (hn : n < 40) (hx : xOK now x) : rP now (n + 1) (apW n W x) := by
  have key : ∀ j, j < n + 1 → xOK now (apW n W x j) := fun j hj => by
    unfold apW
    by_cases e : j < n
    · simp only [if_pos e]; exact rP_x h e
    · simp only [if_neg e]; exact hx
  exact ⟨hn, h.r0, h.r1, fun j hj => (key j hj).xv, fun j hj => (key j hj).xc, fun j hj => (key j hj).xt⟩
theorem fi_ok {now nw : Int} {n : Nat} {W : Nat → Nat → Int} (h : rP now n W) (hl : now ≤ nw) (hm : nw ≤ 1099511627776) : ∀ d, d ≤ n → (fiD nw W d).1 ≤ d ∧ rP nw (fiD nw W d).1 (fiD nw W d).2
  | 0, _ => ⟨Nat.le_refl _, ⟨by show 0 ≤ 40; omega, by have := h.r0; omega, hm, fun j hj => absurd hj (Nat.not_lt_zero j), fun j hj => absurd hj (Nat.not_lt_zero j), fun j hj => absurd hj (Nat.not_lt_zero j)⟩⟩
  | d + 1, hd => by
    obtain ⟨i1, i2⟩ := fi_ok h hl hm d (by omega)
    have hn := h.rn
    unfold fiD
    split
    · exact ⟨by show (fiD nw W d).1 + 1 ≤ d + 1; omega, rP_ap i2 (by omega) (x_later (rP_x h (by omega)) hl)⟩
    · exact ⟨by omega, i2⟩
structure tkOK (nw : Int) (d : Nat) (s : Tk) : Prop where
  t1 : rP nw s.p s.PW
  t2 : s.q ≤ d
  t3 : s.m ≤ d
theorem tk_ok {L B : Nat → Int} {now nw : Int} {n : Nat} {W : Nat → Nat → Int} {n' : Nat} {W' : Nat → Nat → Int} (g : gOK L B now n W n' W') (hl : now ≤ nw) (hm : nw ≤ 1099511627776) : ∀ d, d ≤ n' → tkOK nw d (tkD L B nw W' (tk0 nw n W) d)
  | 0, _ => ⟨(fi_ok g.g1 hl hm n (Nat.le_refl _)).2, Nat.le_refl _, Nat.le_refl _⟩
  | d + 1, hd => by
    have ih := tk_ok g hl hm d (by omega)
    have hx := x_later (rP_x g.g2 (j := d) (by omega)) hl
    have h0 := ih.t1.r0
    show tkOK nw (d + 1) (tkS L B nw (W' d) (tkD L B nw W' (tk0 nw n W) d))
    unfold tkS
    split
    · exact ⟨ih.t1, Nat.le_succ_of_le ih.t2, Nat.succ_le_succ ih.t3⟩
    · split
      · rename_i hp
        unfold paB at hp
        simp only [Bool.and_eq_true, decide_eq_true_eq] at hp
        refine ⟨rP_ap ih.t1 hp.2 ⟨hx.xv, hx.xc, ?_⟩, Nat.le_succ_of_le ih.t2, Nat.succ_le_succ ih.t3⟩
        show 0 ≤ nw ∧ nw ≤ nw
        omega
      · exact ⟨ih.t1, Nat.succ_le_succ ih.t2, Nat.le_succ_of_le ih.t3⟩
end Go.Proofs.Ytanlbhkppagfdaa
end
