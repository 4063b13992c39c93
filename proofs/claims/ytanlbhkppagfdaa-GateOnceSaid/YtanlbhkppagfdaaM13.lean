/-
  Texts: P394, V287, P400, P401.
-/
import Derived.Test.YtanlbhkppagfdaaM1
import Derived.Test.YtanlbhkppagfdaaM2
import Derived.Test.YtanlbhkppagfdaaM3
import Derived.Test.YtanlbhkppagfdaaM4
import Derived.Test.YtanlbhkppagfdaaM5
import Derived.Test.YtanlbhkppagfdaaM6
import Derived.Test.YtanlbhkppagfdaaM7
import Derived.Test.YtanlbhkppagfdaaM8
import Derived.Test.YtanlbhkppagfdaaM9
import Derived.Test.YtanlbhkppagfdaaM10
import Derived.Test.YtanlbhkppagfdaaM11
import Derived.Test.YtanlbhkppagfdaaM12
section
namespace Go.Proofs.Ytanlbhkppagfdaa
open Go.Sx
set_option maxRecDepth 100000
section
variable {n : Nat} {W : Nat → Nat → Int}
theorem rowX (x : Nat → Int) (hn : n = 0) {i : Nat} (hi : i < 1) : allC 4 fun d => simC (fixAt (flat [SK.c (.val (.int .i64 (x 0))), SK.c (.val (.int .i64 (x 1))), SK.c (.val (.int .i64 (x 2))), SK.c (.val (.int .i64 (x 3)))]) 4 1 0 i d) (qW (apW n W x) i d) := by
  subst hn
  obtain rfl : i = 0 := by omega
  exact ⟨rfl, rfl, rfl, rfl⟩
theorem rowY (x : Nat → Int) {o o' c1 : Nat} {i : Nat} (hi : i < n + 1) : allC 4 fun d => simC (newH (SA.sc (SC.slw o 4 0 n c1)) (SA.sc (SC.sl o' 0 1 1)) n (qW W) (fixAt (flat [SK.c (.val (.int .i64 (x 0))), SK.c (.val (.int .i64 (x 1))), SK.c (.val (.int .i64 (x 2))), SK.c (.val (.int .i64 (x 3)))]) 4 1 0) i d) (qW (apW n W x) i d) := by
  by_cases hl : i < n
  · show allC 4 fun d => simC (selC (decide (i < n)) (qW W i d) (fixAt (flat [SK.c (.val (.int .i64 (x 0))), SK.c (.val (.int .i64 (x 1))), SK.c (.val (.int .i64 (x 2))), SK.c (.val (.int .i64 (x 3)))]) 4 1 0 (i - n) d)) (qW (apW n W x) i d)
    have e : ∀ d, apW n W x i d = W i d := fun d => (ap_low hl d).symm
    rw [decide_eq_true hl]
    simp only [qW, e]
    exact ⟨rfl, rfl, rfl, rfl⟩
  · obtain rfl : i = n := by omega
    show allC 4 fun d => simC (selC (decide (i < i)) (qW W i d) (fixAt (flat [SK.c (.val (.int .i64 (x 0))), SK.c (.val (.int .i64 (x 1))), SK.c (.val (.int .i64 (x 2))), SK.c (.val (.int .i64 (x 3)))]) 4 1 0 (i - i) d)) (qW (apW i W x) i d)
    have e : ∀ d, apW i W x i d = x d := fun d => by unfold apW; rw [if_neg hl]
    rw [decide_eq_false hl, Nat.sub_self]
    simp only [qW, e]
    exact ⟨rfl, rfl, rfl, rfl⟩
theorem rowI {V : Nat → Nat → Int} {i : Nat} : allC 4 fun d => simC (qW V i d) (qW V i d) := ⟨rfl, rfl, rfl, rfl⟩
variable {m : Nat} {F : Nat → Int} {x : Int}
theorem frX (hm : m = 0) {i : Nat} (hi : i < 1) : allC 1 fun d => simC (fixAt (flat [SK.c (.val (.int .i64 x))]) 1 1 0 i d) (.val (.int .i64 (apI m F x i))) := by
  subst hm
  obtain rfl : i = 0 := by omega
  rfl
theorem frY {o o' c1 : Nat} {i : Nat} (hi : i < m + 1) : allC 1 fun d => simC (newH (SA.sc (SC.slw o 1 0 m c1)) (SA.sc (SC.sl o' 0 1 1)) m (fun i _ => .val (.int .i64 (F i))) (fixAt (flat [SK.c (.val (.int .i64 x))]) 1 1 0) i d) (.val (.int .i64 (apI m F x i))) := by
  by_cases hl : i < m
  · show simC (selC (decide (i < m)) (.val (.int .i64 (F i))) (fixAt (flat [SK.c (.val (.int .i64 x))]) 1 1 0 (i - m) 0)) (.val (.int .i64 (apI m F x i)))
    have e : apI m F x i = F i := if_pos hl
    rw [decide_eq_true hl, e]
    rfl
  · obtain rfl : i = m := by omega
    show simC (selC (decide (i < i)) (.val (.int .i64 (F i))) (fixAt (flat [SK.c (.val (.int .i64 x))]) 1 1 0 (i - i) 0)) (.val (.int .i64 (apI i F x i)))
    have e : apI i F x i = x := if_neg hl
    rw [decide_eq_false hl, e, Nat.sub_self]
    rfl
theorem frI {G : Nat → Int} {i : Nat} : allC 1 fun _ => simC (.val (.int .i64 (G i))) (.val (.int .i64 (G i))) := rfl
end
section
variable {L B : Nat → Int} {nw : Int} {W' : Nat → Nat → Int} {s : Tk} {d p q m : Nat} {PW QW : Nat → Nat → Int} {F : Nat → Int}
theorem tk_ripe (h : tkD L B nw W' s d = ⟨p, PW, q, QW, m, F⟩) (hw : wiB nw (W' d 3) = false) : tkD L B nw W' s (d + 1) = ⟨p, PW, q, QW, m + 1, apI m F (W' d 0)⟩ := by
  show tkS L B nw (W' d) (tkD L B nw W' s d) = _
  rw [h]
  unfold tkS
  rw [if_pos hw]
theorem tk_pass (h : tkD L B nw W' s d = ⟨p, PW, q, QW, m, F⟩) (hw : wiB nw (W' d 3) = true) (hp : paB L B nw p PW (W' d 1) (W' d 2) = true) : tkD L B nw W' s (d + 1) = ⟨p + 1, apW p PW (kQ (W' d 0) (W' d 1) (W' d 2) nw), q, QW, m + 1, apI m F (W' d 0)⟩ := by
  show tkS L B nw (W' d) (tkD L B nw W' s d) = _
  rw [h]
  unfold tkS
  rw [if_neg (by rw [hw]; decide)]
  simp only [hp, if_true]
theorem tk_wait (h : tkD L B nw W' s d = ⟨p, PW, q, QW, m, F⟩) (hw : wiB nw (W' d 3) = true) (hp : paB L B nw p PW (W' d 1) (W' d 2) = false) : tkD L B nw W' s (d + 1) = ⟨p, PW, q + 1, apW q QW (W' d), m, F⟩ := by
  show tkS L B nw (W' d) (tkD L B nw W' s d) = _
  rw [h]
  unfold tkS
  rw [if_neg (by rw [hw]; decide)]
  simp only [hp, Bool.false_eq_true, if_false]
end
theorem wi_eq {nw : Int} {x : Nat → Int} (hx : xOK nw x) (hm : nw ≤ 1099511627776) : decide (IntKind.i64.wrap (nw - x 3) < 24) = wiB nw (x 3) := by
  have := hx.xt
  unfold wiB
  rw [show IntKind.i64.wrap (nw - x 3) = nw - x 3 by rw [IntKind.wrap_i64]; omega]
theorem fi_in {nw : Int} {W : Nat → Nat → Int} {d p : Nat} {PW : Nat → Nat → Int} (h : fiD nw W d = (p, PW)) (hw : wiB nw (W d 3) = true) : fiD nw W (d + 1) = (p + 1, apW p PW (W d)) := by
  show (if wiB nw (W d 3) = true then ((fiD nw W d).1 + 1, apW (fiD nw W d).1 (fiD nw W d).2 (W d)) else fiD nw W d) = _
  rw [if_pos hw, h]
theorem fi_out {nw : Int} {W : Nat → Nat → Int} {d p : Nat} {PW : Nat → Nat → Int} (h : fiD nw W d = (p, PW)) (hw : wiB nw (W d 3) = false) : fiD nw W (d + 1) = (p, PW) := by
  show (if wiB nw (W d 3) = true then ((fiD nw W d).1 + 1, apW (fiD nw W d).1 (fiD nw W d).2 (W d)) else fiD nw W d) = _
  rw [if_neg (by rw [hw]; decide), h]
theorem tk_begin {L B : Nat → Int} {nw : Int} {n : Nat} {W W' : Nat → Nat → Int} {p : Nat} {PW : Nat → Nat → Int} (h : fiD nw W n = (p, PW)) : tkD L B nw W' (tk0 nw n W) 0 = ⟨p, PW, 0, fun _ _ => 0, 0, fun _ => 0⟩ := by
  show tk0 nw n W = _
  unfold tk0
  rw [h]
theorem rP_nil {now : Int} {n : Nat} {W V : Nat → Nat → Int} (h : rP now n W) : rP now 0 V := ⟨Nat.zero_le _, h.r0, h.r1, fun j hj => absurd hj (Nat.not_lt_zero j), fun j hj => absurd hj (Nat.not_lt_zero j), fun j hj => absurd hj (Nat.not_lt_zero j)⟩
theorem qP_nil {f : Nat → Nat → SC} : qP 0 f := ⟨Nat.zero_le _, fun i hi => absurd hi (Nat.not_lt_zero i)⟩
theorem bad_tick {e : Int} (h : e ≠ 0) (L B : Nat → Int) (nw : Int) (T : Tk) : ((0 = zer e (L 0) ∧ 0 = zer e (L 1) ∧ 0 = zer e (L 2)) ∧ (0 = zer e (B 0) ∧ 0 = zer e (B 1) ∧ 0 = zer e (B 2)) ∧ 0 = zer e nw ∧ zeN e T.p = 0 ∧ zeN e T.q = 0) ∧ zeN e T.m = 0 := by
  have hz : ∀ x, zer e x = 0 := fun x => if_neg h
  have hN : ∀ x, zeN e x = 0 := fun x => if_neg h
  simp only [hz, hN, and_self]
set_option maxHeartbeats 0 in
theorem ok_gti (L B : Nat → Int) (now nw : Int) (a : Option Addr) (n cap : Nat) (W : Nat → Nat → Int) (a' : Option Addr) (n' cap' : Nat) (W' : Nat → Nat → Int) (h e : Int) (T : Tk) (hn : n ≤ maxLen) (hn' : n' ≤ maxLen)
    (hnw : nw = now + h) (he : e = tiE L B now n W n' W' h) (hT : e = 0 → T = tiT L B now n W n' W' h) :
    OwesR Try.prog cxTi slTi [((21 + 1) * 100000 + 3, .invs (fun _ _ => [invRe false L B nw a n cap W a' n' cap' W', invRe true L B nw a n cap W a' n' cap' W']) pkRe), ((22 + 1) * 100000 + 5, .invs (lsAg L B nw a n cap W a' n' cap' W') pkAg)] 10 Try.f12 [sG L B now a n cap W a' n' cap' W', sI .i64 h] false (tiR L B nw e T) := by
  rw [vc_gti]
  have hML : maxLen = 9223372036854775807 := rfl
  have hG : jAt (qW W) = W := rfl
  have hG' : jAt (qW W') = W' := rfl
  simp only [q_simT, eq_self, implies_true, imp_self, and_true, true_and, Int.toNat_natCast, Bool.not_eq_true', Bool.not_eq_false', Bool.not_not, Nat.zero_add, Nat.le_refl, and_self, hG, hG', false_imp_iff, true_imp_iff, reduceCtorEq]
  unfold tiE at he
  refine ⟨qP_W hn, qP_W hn', fun h1 => ?_, fun h1 => ?_⟩
  · have h1 : gtE L B now n W n' W' ≠ 0 := bne_iff_ne.1 h1
    rw [if_pos h1] at he
    subst he
    obtain ⟨q1, q2⟩ := bad_tick h1 L B nw T
    exact ⟨q1, q2, rfl⟩
  have h0 : gtE L B now n W n' W' = 0 := by simpa using h1
  have ok := gt_ok h0
  rw [if_neg (by rw [h0]; decide)] at he
  have hr0 := ok.g1.r0
  have hr1 := ok.g1.r1
  have hcond : (decide (h < 1) || decide (h > 1000) || decide (IntKind.i64.wrap (now + h) > 1099511627776)) = decide (h < 1 ∨ 1000 < h ∨ 1099511627776 < now + h) := by
    by_cases c1 : h < 1
    · rw [decide_eq_true c1, decide_eq_true (Or.inl c1)]; rfl
    by_cases c2 : h > 1000
    · rw [decide_eq_true c2, decide_eq_true (Or.inr (Or.inl c2)), Bool.or_true]; rfl
    rw [show IntKind.i64.wrap (now + h) = now + h by rw [IntKind.wrap_i64]; omega, decide_eq_false c1, decide_eq_false c2, Bool.or_self, Bool.false_or]
    exact decide_eq_decide.2 (by omega)
  rw [hcond]
  refine ⟨fun h2 => ?_, fun h2 => ?_⟩
  · rw [if_pos (of_decide_eq_true h2)] at he
    subst he
    obtain ⟨q1, q2⟩ := bad_tick (by decide : (6 : Int) ≠ 0) L B nw T
    exact ⟨q1, q2, rfl⟩
  have h2 := of_decide_eq_false h2
  rw [if_neg h2] at he
  subst he
  have hT := hT rfl
  unfold tiT at hT
  rw [← hnw] at hT
  have hn40 := ok.g1.rn
  have hn40' := ok.g2.rn
  have hw : IntKind.i64.wrap (now + h) = nw := by rw [IntKind.wrap_i64]; omega
  have hl : now ≤ nw := by omega
  have hm : nw ≤ 1099511627776 := by omega
  have hfi := fi_ok (W := W) ok.g1 hl hm
  have htk := tk_ok ok hl hm
  have z0 : ∀ x, zer 0 x = x := fun _ => rfl
  have z1 : ∀ x, zeN 0 x = x := fun _ => rfl
  simp only [hw, z0, z1, eq_self, implies_true, true_and, and_true]
  clear h0 h1 h2 hcond hw hnw
  refine ⟨⟨fun _ => rfl, fun _ => rfl⟩, ⟨⟨0, 0, fun _ _ => 0, 0⟩, ⟨Nat.zero_le _, rfl, rfl, by show 0 + 0 ≤ maxLen; omega⟩, rfl⟩, fun y hy => ?_, fun y hy => ?_⟩
  all_goals
    obtain ⟨d, p, PW, c0⟩ := y
    dsimp only at hy ⊢
    have hd : d ≤ n := hy.1
    have hF0 : fiD nw W d = (p, PW) := hy.2.1
    have hbp : p + c0 ≤ maxLen := by first | exact hy.2.2 | exact hy.2.2.2
    have hpd : p ≤ d := by have := (hfi d hd).1; rw [hF0] at this; exact this
    refine ⟨fun hlt => ?_, fun hlt => ?_⟩
  · have hlt' : d < n := by have := of_decide_eq_true hlt; omega
    have hx := x_later (rP_x ok.g1 hlt') hl
    have hless : (n - (d + 1)).succ.le (n - d) := by show n - (d + 1) + 1 ≤ n - d; omega
    have hsucc : IntKind.i64.wrap ((d : Int) + 1) = ((d + 1 : Nat) : Int) := by rw [IntKind.wrap_i64]; omega
    try have hpz : p = 0 := hy.2.2.1
    rw [wi_eq hx hm]
    refine ⟨⟨by omega, by omega⟩, fun hr => ?_, fun hr => ?_⟩
    · have hS := fi_in hF0 hr
      repeat' (first | apply And.intro | intro _)
      all_goals first | omega | skip
      all_goals
        rename_i c hc
        refine ⟨⟨d + 1, p + 1, apW p PW (W d), c⟩, ?_⟩
        dsimp only
        repeat' (first
        | exact hS
        | exact hlt'
        | exact hsucc
        | exact hless
        | exact fun i hi => rowX (W d) (by assumption) hi
        | exact fun i hi => rowY (W d) hi
        | exact fun i hi => rowI
        | assumption
        | apply And.intro)
      all_goals omega
    · have hS := fi_out hF0 hr
      refine ⟨⟨d + 1, p, PW, c0⟩, ?_⟩
      dsimp only
      repeat' (first
      | exact hS
      | exact hlt'
      | exact hsucc
      | exact hless
      | exact fun i hi => rowI
      | assumption
      | apply And.intro)
      all_goals omega
  · obtain rfl : n = d := by have := of_decide_eq_false hlt; omega
    have hp0 : p = 0 := hy.2.2.1
    refine ⟨⟨fun _ => rfl, fun _ => rfl, fun _ => rfl, fun _ => rfl, fun _ => rfl, fun _ => rfl, fun _ => rfl, fun _ => rfl⟩, ⟨⟨0, p, PW, 0, 0, fun _ _ => 0, 0, 0, fun _ => 0, 0, ⟨0, 0, none⟩, 0, 0⟩, ⟨Nat.zero_le _, tk_begin hF0, hp0, rfl, rfl, by show p + 0 ≤ maxLen; omega, by show 0 + 0 ≤ maxLen; omega, by show 0 + 0 ≤ maxLen; omega⟩, rfl⟩, fun y hy => ?_, fun y hy => ?_, fun y hy => ?_, fun y hy => ?_, fun y hy => ?_, fun y hy => ?_, fun y hy => ?_, fun y hy => ?_⟩
    all_goals
      obtain ⟨d, p, PW, cp, q, QW, cq, m, F, cm, ad, p0, c0⟩ := y
      dsimp only at hy ⊢
      have hd : d ≤ n' := hy.1
      have hS0 : tkD L B nw W' (tk0 nw n W) d = ⟨p, PW, q, QW, m, F⟩ := hy.2.1
      try have hpz : p = 0 := hy.2.2.1
      try have hqz : q = 0 := by first | exact hy.2.2.1 | exact hy.2.2.2.1
      try have hmz : m = 0 := by first | exact hy.2.2.1 | exact hy.2.2.2.1 | exact hy.2.2.2.2.1
      have hb1 : p + cp ≤ maxLen := by first | exact hy.2.2.1 | exact hy.2.2.2.1 | exact hy.2.2.2.2.1 | exact hy.2.2.2.2.2.1
      have hb2 : q + cq ≤ maxLen := by first | exact hy.2.2.2.1 | exact hy.2.2.2.2.1 | exact hy.2.2.2.2.2.1 | exact hy.2.2.2.2.2.2.1
      have hb3 : m + cm ≤ maxLen := by first | exact hy.2.2.2.2 | exact hy.2.2.2.2.2 | exact hy.2.2.2.2.2.2 | exact hy.2.2.2.2.2.2.2
      clear hy
      have tko := htk d hd
      rw [hS0] at tko
      have t1 : rP nw p PW := tko.t1
      have t2 : q ≤ d := tko.t2
      have t3 : m ≤ d := tko.t3
      clear tko
      have hp40 := t1.rn
      have hsucc : IntKind.i64.wrap ((d : Int) + 1) = ((d + 1 : Nat) : Int) := by rw [IntKind.wrap_i64]; omega
      have hless : (n' - (d + 1)).succ.le (n' - d) ∨ ¬ d < n' := by
        by_cases hh : d < n'
        · exact .inl (by show n' - (d + 1) + 1 ≤ n' - d; omega)
        · exact .inr hh
      refine ⟨fun hlt => ?_, fun hlt => ?_⟩
      · have hlt' : d < n' := by have := of_decide_eq_true hlt; omega
        have hless : (n' - (d + 1)).succ.le (n' - d) := hless.resolve_right (fun hh => hh hlt')
        have hx := x_later (rP_x ok.g2 hlt') hl
        rw [wi_eq hx hm]
        refine ⟨⟨by omega, by omega⟩, fun hr => ?_, fun hr => ?_⟩
        · have hS := tk_ripe hS0 hr
          repeat' (first | apply And.intro | intro _)
          all_goals first | omega | skip
          all_goals
            rename_i c hc
            refine ⟨⟨d + 1, p, PW, cp, q, QW, cq, m + 1, apI m F (W' d 0), c, ad, p0, c0⟩, ?_⟩
            dsimp only
            repeat' (first
            | exact hS
            | exact hlt'
            | exact hsucc
            | exact hless
            | exact fun i hi => rowX (kQ (W' d 0) (W' d 1) (W' d 2) nw) (by assumption) hi
            | exact fun i hi => rowX (W' d) (by assumption) hi
            | exact fun i hi => rowY (kQ (W' d 0) (W' d 1) (W' d 2) nw) hi
            | exact fun i hi => rowY (W' d) hi
            | exact fun i hi => frX (by assumption) hi
            | exact fun i hi => frY hi
            | exact fun i hi => rowI
            | exact fun i hi => frI
            | exact (rfl : Value.slice _ _ _ = Value.slice _ _ _)
            | assumption
            | apply And.intro)
          all_goals omega
        · repeat' (first | apply And.intro | intro _)
          all_goals first | omega | exact qP_W (by omega) | exact qP_nil | exact t1 | exact rP_nil t1 | exact ok.g3 | exact hx.xv.1 | exact hx.xv.2 | exact hx.xc.1 | exact hx.xc.2 | skip
          all_goals first
            | (rename_i hp ad1 c hc c1 hc1
               have hp : paB L B nw p PW (W' d 1) (W' d 2) = true := by first | exact hp | (rw [hpz]; exact hp)
               have hS := tk_pass hS0 hr hp
               refine ⟨⟨d + 1, p + 1, apW p PW (kQ (W' d 0) (W' d 1) (W' d 2) nw), c, q, QW, cq, m + 1, apI m F (W' d 0), c1, ad, p0, c0⟩, ?_⟩)
            | (rename_i hp c hc c1 hc1
               have hp : paB L B nw p PW (W' d 1) (W' d 2) = true := by first | exact hp | (rw [hpz]; exact hp)
               have hS := tk_pass hS0 hr hp
               refine ⟨⟨d + 1, p + 1, apW p PW (kQ (W' d 0) (W' d 1) (W' d 2) nw), c, q, QW, cq, m + 1, apI m F (W' d 0), c1, ad, p0, c0⟩, ?_⟩)
            | (rename_i hp ad1 c hc
               have hp : paB L B nw p PW (W' d 1) (W' d 2) = false := by first | exact hp | (rw [hpz]; exact hp)
               have hS := tk_wait hS0 hr hp
               refine ⟨⟨d + 1, p, PW, cp, q + 1, apW q QW (W' d), c, m, F, cm, ad, p0, c0⟩, ?_⟩)
            | (rename_i hp c hc
               have hp : paB L B nw p PW (W' d 1) (W' d 2) = false := by first | exact hp | (rw [hpz]; exact hp)
               have hS := tk_wait hS0 hr hp
               refine ⟨⟨d + 1, p, PW, cp, q + 1, apW q QW (W' d), c, m, F, cm, ad, p0, c0⟩, ?_⟩)
          all_goals
            dsimp only
            repeat' (first
            | exact hS
            | exact hlt'
            | exact hsucc
            | exact hless
            | exact fun i hi => rowX (kQ (W' d 0) (W' d 1) (W' d 2) nw) (by assumption) hi
            | exact fun i hi => rowX (W' d) (by assumption) hi
            | exact fun i hi => rowY (kQ (W' d 0) (W' d 1) (W' d 2) nw) hi
            | exact fun i hi => rowY (W' d) hi
            | exact fun i hi => frX (by assumption) hi
            | exact fun i hi => frY hi
            | exact fun i hi => rowI
            | exact fun i hi => frI
            | exact (rfl : Value.slice _ _ _ = Value.slice _ _ _)
            | assumption
            | apply And.intro)
          all_goals omega
      · have ed : d = n' := by have := of_decide_eq_false hlt; omega
        rw [ed] at hS0
        have hTT := hT.trans hS0
        rw [hTT]
        dsimp only
        repeat' (first | exact fun i hi => rowI | exact fun i hi => rfl | assumption | rfl | apply And.intro)
        all_goals omega
  · have hlt' : d < n := by have := of_decide_eq_true hlt; omega
    have hx := x_later (rP_x ok.g1 hlt') hl
    have hless : (n - (d + 1)).succ.le (n - d) := by show n - (d + 1) + 1 ≤ n - d; omega
    have hsucc : IntKind.i64.wrap ((d : Int) + 1) = ((d + 1 : Nat) : Int) := by rw [IntKind.wrap_i64]; omega
    try have hpz : p = 0 := hy.2.2.1
    rw [wi_eq hx hm]
    refine ⟨⟨by omega, by omega⟩, fun hr => ?_, fun hr => ?_⟩
    · have hS := fi_in hF0 hr
      repeat' (first | apply And.intro | intro _)
      all_goals first | omega | skip
      all_goals
        rename_i c hc
        refine ⟨⟨d + 1, p + 1, apW p PW (W d), c⟩, ?_⟩
        dsimp only
        repeat' (first
        | exact hS
        | exact hlt'
        | exact hsucc
        | exact hless
        | exact fun i hi => rowX (W d) (by assumption) hi
        | exact fun i hi => rowY (W d) hi
        | exact fun i hi => rowI
        | assumption
        | apply And.intro)
      all_goals omega
    · have hS := fi_out hF0 hr
      refine ⟨⟨d + 1, p, PW, c0⟩, ?_⟩
      dsimp only
      repeat' (first
      | exact hS
      | exact hlt'
      | exact hsucc
      | exact hless
      | exact fun i hi => rowI
      | assumption
      | apply And.intro)
      all_goals omega
  · obtain rfl : n = d := by have := of_decide_eq_false hlt; omega
    refine ⟨⟨fun _ => rfl, fun _ => rfl, fun _ => rfl, fun _ => rfl, fun _ => rfl, fun _ => rfl, fun _ => rfl, fun _ => rfl⟩, ⟨⟨0, p, PW, c0, 0, fun _ _ => 0, 0, 0, fun _ => 0, 0, ⟨0, 0, none⟩, 0, 0⟩, ⟨Nat.zero_le _, tk_begin hF0, rfl, rfl, hbp, by show 0 + 0 ≤ maxLen; omega, by show 0 + 0 ≤ maxLen; omega⟩, by repeat' (first | exact fun i hi => rowI | rfl | apply And.intro)⟩, fun y hy => ?_, fun y hy => ?_, fun y hy => ?_, fun y hy => ?_, fun y hy => ?_, fun y hy => ?_, fun y hy => ?_, fun y hy => ?_⟩
    all_goals
      obtain ⟨d, p, PW, cp, q, QW, cq, m, F, cm, ad, p0, c0⟩ := y
      dsimp only at hy ⊢
      have hd : d ≤ n' := hy.1
      have hS0 : tkD L B nw W' (tk0 nw n W) d = ⟨p, PW, q, QW, m, F⟩ := hy.2.1
      try have hpz : p = 0 := hy.2.2.1
      try have hqz : q = 0 := by first | exact hy.2.2.1 | exact hy.2.2.2.1
      try have hmz : m = 0 := by first | exact hy.2.2.1 | exact hy.2.2.2.1 | exact hy.2.2.2.2.1
      have hb1 : p + cp ≤ maxLen := by first | exact hy.2.2.1 | exact hy.2.2.2.1 | exact hy.2.2.2.2.1 | exact hy.2.2.2.2.2.1
      have hb2 : q + cq ≤ maxLen := by first | exact hy.2.2.2.1 | exact hy.2.2.2.2.1 | exact hy.2.2.2.2.2.1 | exact hy.2.2.2.2.2.2.1
      have hb3 : m + cm ≤ maxLen := by first | exact hy.2.2.2.2 | exact hy.2.2.2.2.2 | exact hy.2.2.2.2.2.2 | exact hy.2.2.2.2.2.2.2
      clear hy
      have tko := htk d hd
      rw [hS0] at tko
      have t1 : rP nw p PW := tko.t1
      have t2 : q ≤ d := tko.t2
      have t3 : m ≤ d := tko.t3
      clear tko
      have hp40 := t1.rn
      have hsucc : IntKind.i64.wrap ((d : Int) + 1) = ((d + 1 : Nat) : Int) := by rw [IntKind.wrap_i64]; omega
      have hless : (n' - (d + 1)).succ.le (n' - d) ∨ ¬ d < n' := by
        by_cases hh : d < n'
        · exact .inl (by show n' - (d + 1) + 1 ≤ n' - d; omega)
        · exact .inr hh
      refine ⟨fun hlt => ?_, fun hlt => ?_⟩
      · have hlt' : d < n' := by have := of_decide_eq_true hlt; omega
        have hless : (n' - (d + 1)).succ.le (n' - d) := hless.resolve_right (fun hh => hh hlt')
        have hx := x_later (rP_x ok.g2 hlt') hl
        rw [wi_eq hx hm]
        refine ⟨⟨by omega, by omega⟩, fun hr => ?_, fun hr => ?_⟩
        · have hS := tk_ripe hS0 hr
          repeat' (first | apply And.intro | intro _)
          all_goals first | omega | skip
          all_goals
            rename_i c hc
            refine ⟨⟨d + 1, p, PW, cp, q, QW, cq, m + 1, apI m F (W' d 0), c, ad, p0, c0⟩, ?_⟩
            dsimp only
            repeat' (first
            | exact hS
            | exact hlt'
            | exact hsucc
            | exact hless
            | exact fun i hi => rowX (kQ (W' d 0) (W' d 1) (W' d 2) nw) (by assumption) hi
            | exact fun i hi => rowX (W' d) (by assumption) hi
            | exact fun i hi => rowY (kQ (W' d 0) (W' d 1) (W' d 2) nw) hi
            | exact fun i hi => rowY (W' d) hi
            | exact fun i hi => frX (by assumption) hi
            | exact fun i hi => frY hi
            | exact fun i hi => rowI
            | exact fun i hi => frI
            | exact (rfl : Value.slice _ _ _ = Value.slice _ _ _)
            | assumption
            | apply And.intro)
          all_goals omega
        · repeat' (first | apply And.intro | intro _)
          all_goals first | omega | exact qP_W (by omega) | exact qP_nil | exact t1 | exact rP_nil t1 | exact ok.g3 | exact hx.xv.1 | exact hx.xv.2 | exact hx.xc.1 | exact hx.xc.2 | skip
          all_goals first
            | (rename_i hp ad1 c hc c1 hc1
               have hp : paB L B nw p PW (W' d 1) (W' d 2) = true := by first | exact hp | (rw [hpz]; exact hp)
               have hS := tk_pass hS0 hr hp
               first
                | (refine ⟨⟨d + 1, p + 1, apW p PW (kQ (W' d 0) (W' d 1) (W' d 2) nw), c, q, QW, cq, m + 1, apI m F (W' d 0), c1, ad, p0, c0⟩, ?_⟩
                   dsimp only
                   repeat' (first
                   | exact hS
                   | exact hlt'
                   | exact hsucc
                   | exact hless
                   | exact fun i hi => rowX (kQ (W' d 0) (W' d 1) (W' d 2) nw) (by assumption) hi
                   | exact fun i hi => rowX (W' d) (by assumption) hi
                   | exact fun i hi => rowY (kQ (W' d 0) (W' d 1) (W' d 2) nw) hi
                   | exact fun i hi => rowY (W' d) hi
                   | exact fun i hi => frX (by assumption) hi
                   | exact fun i hi => frY hi
                   | exact fun i hi => rowI
                   | exact fun i hi => frI
                   | exact (rfl : Value.slice _ _ _ = Value.slice _ _ _)
                   | assumption
                   | apply And.intro)
                   all_goals omega)
                | (refine ⟨⟨d + 1, p + 1, apW p PW (kQ (W' d 0) (W' d 1) (W' d 2) nw), c, q, QW, cq, m + 1, apI m F (W' d 0), c1, ad1 0, p, p + cp⟩, ?_⟩
                   dsimp only
                   repeat' (first
                   | exact hS
                   | exact hlt'
                   | exact hsucc
                   | exact hless
                   | exact fun i hi => rowX (kQ (W' d 0) (W' d 1) (W' d 2) nw) (by assumption) hi
                   | exact fun i hi => rowX (W' d) (by assumption) hi
                   | exact fun i hi => rowY (kQ (W' d 0) (W' d 1) (W' d 2) nw) hi
                   | exact fun i hi => rowY (W' d) hi
                   | exact fun i hi => frX (by assumption) hi
                   | exact fun i hi => frY hi
                   | exact fun i hi => rowI
                   | exact fun i hi => frI
                   | exact (rfl : Value.slice _ _ _ = Value.slice _ _ _)
                   | assumption
                   | apply And.intro)
                   all_goals omega))
            | (rename_i hp c hc c1 hc1
               have hp : paB L B nw p PW (W' d 1) (W' d 2) = true := by first | exact hp | (rw [hpz]; exact hp)
               have hS := tk_pass hS0 hr hp
               first
                | (refine ⟨⟨d + 1, p + 1, apW p PW (kQ (W' d 0) (W' d 1) (W' d 2) nw), c, q, QW, cq, m + 1, apI m F (W' d 0), c1, ad, p0, c0⟩, ?_⟩
                   dsimp only
                   repeat' (first
                   | exact hS
                   | exact hlt'
                   | exact hsucc
                   | exact hless
                   | exact fun i hi => rowX (kQ (W' d 0) (W' d 1) (W' d 2) nw) (by assumption) hi
                   | exact fun i hi => rowX (W' d) (by assumption) hi
                   | exact fun i hi => rowY (kQ (W' d 0) (W' d 1) (W' d 2) nw) hi
                   | exact fun i hi => rowY (W' d) hi
                   | exact fun i hi => frX (by assumption) hi
                   | exact fun i hi => frY hi
                   | exact fun i hi => rowI
                   | exact fun i hi => frI
                   | exact (rfl : Value.slice _ _ _ = Value.slice _ _ _)
                   | assumption
                   | apply And.intro)
                   all_goals omega)
                | (refine ⟨⟨d + 1, p + 1, apW p PW (kQ (W' d 0) (W' d 1) (W' d 2) nw), c, q, QW, cq, m + 1, apI m F (W' d 0), c1, ad1 0, p, p + cp⟩, ?_⟩
                   dsimp only
                   repeat' (first
                   | exact hS
                   | exact hlt'
                   | exact hsucc
                   | exact hless
                   | exact fun i hi => rowX (kQ (W' d 0) (W' d 1) (W' d 2) nw) (by assumption) hi
                   | exact fun i hi => rowX (W' d) (by assumption) hi
                   | exact fun i hi => rowY (kQ (W' d 0) (W' d 1) (W' d 2) nw) hi
                   | exact fun i hi => rowY (W' d) hi
                   | exact fun i hi => frX (by assumption) hi
                   | exact fun i hi => frY hi
                   | exact fun i hi => rowI
                   | exact fun i hi => frI
                   | exact (rfl : Value.slice _ _ _ = Value.slice _ _ _)
                   | assumption
                   | apply And.intro)
                   all_goals omega))
            | (rename_i hp ad1 c hc
               have hp : paB L B nw p PW (W' d 1) (W' d 2) = false := by first | exact hp | (rw [hpz]; exact hp)
               have hS := tk_wait hS0 hr hp
               refine ⟨⟨d + 1, p, PW, cp, q + 1, apW q QW (W' d), c, m, F, cm, ad, p0, c0⟩, ?_⟩)
            | (rename_i hp c hc
               have hp : paB L B nw p PW (W' d 1) (W' d 2) = false := by first | exact hp | (rw [hpz]; exact hp)
               have hS := tk_wait hS0 hr hp
               refine ⟨⟨d + 1, p, PW, cp, q + 1, apW q QW (W' d), c, m, F, cm, ad, p0, c0⟩, ?_⟩)
          all_goals
            dsimp only
            repeat' (first
            | exact hS
            | exact hlt'
            | exact hsucc
            | exact hless
            | exact fun i hi => rowX (kQ (W' d 0) (W' d 1) (W' d 2) nw) (by assumption) hi
            | exact fun i hi => rowX (W' d) (by assumption) hi
            | exact fun i hi => rowY (kQ (W' d 0) (W' d 1) (W' d 2) nw) hi
            | exact fun i hi => rowY (W' d) hi
            | exact fun i hi => frX (by assumption) hi
            | exact fun i hi => frY hi
            | exact fun i hi => rowI
            | exact fun i hi => frI
            | exact (rfl : Value.slice _ _ _ = Value.slice _ _ _)
            | assumption
            | apply And.intro)
          all_goals omega
      · have ed : d = n' := by have := of_decide_eq_false hlt; omega
        rw [ed] at hS0
        have hTT := hT.trans hS0
        rw [hTT]
        dsimp only
        repeat' (first | exact fun i hi => rowI | exact fun i hi => rfl | assumption | rfl | apply And.intro)
        all_goals omega
def tiC : List (List FD) → List Prop
  | [[.y _, .y _, .i _, .x _ n _ f, .x _ n' _ f'], [.i _]] => [qP n f, qP n' f']
  | _ => [False]
def tiG : List (List FD) → List RS
  | [[.y L, .y B, .i now, .x _ n _ f, .x _ n' _ f'], [.i h]] => tiR L B (now + h) (tiE L B now n (jAt f) n' (jAt f') h) (tiT L B now n (jAt f) n' (jAt f') h)
  | _ => []
def cTi (sh : Bool) : SSpec := specQ0 sh [pqG, .one (.i .i64)] tiC tiG
theorem okx_Ti : CxOK Try.prog cxTi := okx_mark (okx_mark (okx_mark (okx_mark (okx_mark okx_nil))))
theorem ti_closed {L B : Nat → Int} {now e : Int} {T : Tk} : ∀ r ∈ tiR L B now e T, r.closed := by
  intro r hr
  unfold tiR at hr
  simp only [List.mem_cons, List.not_mem_nil, or_false] at hr
  rcases hr with rfl | rfl | rfl
  · intro k hk
    simp only [List.mem_cons, List.not_mem_nil, or_false] at hk
    rcases hk with rfl | rfl | rfl | rfl | rfl
    · exact trivial
    · exact trivial
    · exact trivial
    · exact fun _ _ _ _ => ⟨trivial, rfl⟩
    · exact fun _ _ _ _ => ⟨trivial, rfl⟩
  · exact trivial
  · exact trivial
theorem card_gti {gl : Globs} : FnOKs Try.prog gl 12 (cTi false) := by
  refine FnOKs.up0 (FnOKs_R0 (cx := cxTi) okx_Ti (sl := slTi) (oks_cons card_gck (oks_cons card_pa oks_nil)) Try.func12 (by kernel_rfl) (by kernel_rfl) fun ls hc => ?_) gl
  unfold tiC at hc
  split at hc
  · rename_i L B now a n cap f a' n' cap' f' h
    obtain ⟨p, p', _⟩ := hc
    refine ⟨_, _, [sG L B now a n cap (jAt f) a' n' cap' (jAt f'), sI .i64 h], fun ρ => rfl, fun E hE y hy => ?_, ti_closed, ok_gti L B now (now + h) a n cap (jAt f) a' n' cap' (jAt f') h _ _ p.tn p'.tn rfl rfl (fun _ => rfl)⟩
    rcases List.mem_cons.1 hy with rfl | hy
    · exact g_told p p' (hE _ (List.mem_cons_self ..))
    · exact hE y (List.mem_cons_of_mem _ hy)
  · exact hc.1.elim
end Go.Proofs.Ytanlbhkppagfdaa
end

section
namespace Go.Proofs.Ytanlbhkppagfdaa
open Go.Sx
set_option maxRecDepth 100000
def cPk4 : FSpec := specII (fun a b => [i64ok a, 0 < b ∧ b ≤ 1099511627776]) pickedG
def sRw (k a b : Int) (s : ByteArray) : SA := .agg [.c (.val (.int .i64 k)), .c (.val (.int .i64 a)), .c (.val (.int .i64 b)), .c (.val (.string s))]
def twN (j : Nat) : Int := match j with
  | 0 => 1
  | 1 => 2
  | _ => 4
def goL (a : Int) (j : Nat) : Int := 50 + a.fdiv (twN j) % 100
def goB (b : Int) (j : Nat) : Int := 20 + b.fdiv (twN j) % 60
def noF (_ : Nat) (_ : Nat) : Int := 0
def goR (a b : Int) : List RS := [.st [.k (.f .i64 3 (goL a)), .k (.f .i64 3 (goB b)), .k (.c (.val (.int .i64 (a % 50)))), .s 0 4 (qW noF), .s 0 4 (qW noF)]]
def cxGo : Cx := ⟨[(9, cPk4), (1000000010, fun _ => none), (1000000012, fun _ => none), (1000000013, fun _ => none), (1000000014, fun _ => none)], [], 0, []⟩
theorem vc_pk4 (n m : Int) :
    Owes Try.prog Cx.none [] 100 Try.f9 [sI .i64 n, sI .i64 m] (pickedG n m) =
    (let x1 : Int := n % m; m ≠ (0 : Int) ∧ (Decidable.decide (n.tmod m < (0 : Int)) = Bool.true → Go.IntKind.i64.wrap (n.tmod m + m) = x1) ∧ (Decidable.decide (n.tmod m < (0 : Int)) = Bool.false → n.tmod m = x1)) := by kernel_rfl
theorem vc_gtf (k a b : Int) (s : ByteArray) :
    OwesR Try.prog cxGo [] [] 10 Try.f7 [sRw k a b s] true (goR a b) =
    (let x1 : Int := a % (50 : Int); ((-9223372036854775808 : Int) ≤ a ∧ a ≤ (9223372036854775807 : Int)) ∧ ((0 : Int) < (50 : Int) ∧ (50 : Int) ≤ (1099511627776 : Int)) ∧ ((-9223372036854775808 : Int) ≤ a.fdiv (1 : Int) ∧ a.fdiv (1 : Int) ≤ (9223372036854775807 : Int)) ∧ ((0 : Int) < (100 : Int) ∧ (100 : Int) ≤ (1099511627776 : Int)) ∧ ((-9223372036854775808 : Int) ≤ b.fdiv (1 : Int) ∧ b.fdiv (1 : Int) ≤ (9223372036854775807 : Int)) ∧ ((0 : Int) < (60 : Int) ∧ (60 : Int) ≤ (1099511627776 : Int)) ∧ ((-9223372036854775808 : Int) ≤ a.fdiv (2 : Int) ∧ a.fdiv (2 : Int) ≤ (9223372036854775807 : Int)) ∧ ((0 : Int) < (100 : Int) ∧ (100 : Int) ≤ (1099511627776 : Int)) ∧ ((-9223372036854775808 : Int) ≤ b.fdiv (2 : Int) ∧ b.fdiv (2 : Int) ≤ (9223372036854775807 : Int)) ∧ ((0 : Int) < (60 : Int) ∧ (60 : Int) ≤ (1099511627776 : Int)) ∧ ((-9223372036854775808 : Int) ≤ a.fdiv (4 : Int) ∧ a.fdiv (4 : Int) ≤ (9223372036854775807 : Int)) ∧ ((0 : Int) < (100 : Int) ∧ (100 : Int) ≤ (1099511627776 : Int)) ∧ ((-9223372036854775808 : Int) ≤ b.fdiv (4 : Int) ∧ b.fdiv (4 : Int) ≤ (9223372036854775807 : Int)) ∧ ((0 : Int) < (60 : Int) ∧ (60 : Int) ≤ (1099511627776 : Int)) ∧ (Go.IntKind.i64.wrap ((50 : Int) + a.fdiv (1 : Int) % (100 : Int)) = goL a 0 ∧ Go.IntKind.i64.wrap ((50 : Int) + a.fdiv (2 : Int) % (100 : Int)) = goL a 1 ∧ Go.IntKind.i64.wrap ((50 : Int) + a.fdiv (4 : Int) % (100 : Int)) = goL a 2 ∧ True) ∧ (Go.IntKind.i64.wrap ((20 : Int) + b.fdiv (1 : Int) % (60 : Int)) = goB b 0 ∧ Go.IntKind.i64.wrap ((20 : Int) + b.fdiv (2 : Int) % (60 : Int)) = goB b 1 ∧ Go.IntKind.i64.wrap ((20 : Int) + b.fdiv (4 : Int) % (60 : Int)) = goB b 2 ∧ True) ∧ (x1 = x1 ∧ True) ∧ 0 = 0 ∧ 0 = 0 ∧ True) := by kernel_rfl
end Go.Proofs.Ytanlbhkppagfdaa
end

section
namespace Go.Proofs.Ytanlbhkppagfdaa
open Go.Sx
set_option maxRecDepth 100000
theorem ok_pk4 (n m : Int) (hn : i64ok n) (hm : 0 < m ∧ m ≤ 1099511627776) : Owes Try.prog Cx.none [] 100 Try.f9 [sI .i64 n, sI .i64 m] (pickedG n m) := by
  rw [vc_pk4]
  obtain ⟨a1, a2⟩ := hn
  intro x1
  have e1 : x1 = n % m := rfl
  have p0 := Int.emod_nonneg n (by omega : m ≠ 0)
  have p1 := Int.emod_lt_of_pos n hm.1
  have q := Int.tmod_eq_emod (a := n) (b := m)
  have e2 : (m.natAbs : Int) = m := by omega
  refine ⟨by omega, fun h => ?_, fun h => ?_⟩
  · have h' : n.tmod m < 0 := of_decide_eq_true h
    by_cases c : 0 ≤ n ∨ m ∣ n
    · rw [if_pos c] at q; omega
    · rw [if_neg c, e2] at q
      have w : IntKind.wrap .i64 (n.tmod m + m) = n.tmod m + m := by rw [IntKind.wrap_i64]; omega
      rw [w]; omega
  · have h' : ¬ n.tmod m < 0 := of_decide_eq_false h
    by_cases c : 0 ≤ n ∨ m ∣ n
    · rw [if_pos c] at q; omega
    · rw [if_neg c, e2] at q; omega
theorem card_pk4 : FnOK Try.prog 9 cPk4 :=
  FnOK_II (cx := Cx.none) ⟨fun _ h => (by cases h), fun _ h => (by cases h)⟩ (iv := []) (N := 100) Try.func9 (by kernel_rfl) (by kernel_rfl) (fun _ _ => trivial) (fun a b h => ok_pk4 a b h.1 h.2.1)
theorem fd_ok {a : Int} (h : i64ok a) (j : Nat) : i64ok (a.fdiv (twN j)) := by
  obtain ⟨h1, h2⟩ := h
  have e : 0 < twN j := by unfold twN; split <;> decide
  have e' : a.fdiv (twN j) = a / twN j := Int.fdiv_eq_ediv_of_nonneg _ (by omega)
  rw [e']
  unfold i64ok
  have t : twN j = 1 ∨ twN j = 2 ∨ twN j = 4 := by unfold twN; split <;> simp
  rcases t with t | t | t <;> rw [t] <;> omega
theorem go_l {a : Int} (j : Nat) : 50 ≤ goL a j ∧ goL a j < 150 := by
  unfold goL
  have p0 := Int.emod_nonneg (a.fdiv (twN j)) (by decide : (100 : Int) ≠ 0)
  have p1 := Int.emod_lt_of_pos (a.fdiv (twN j)) (by decide : (0 : Int) < 100)
  omega
theorem go_b {b : Int} (j : Nat) : 20 ≤ goB b j ∧ goB b j < 80 := by
  unfold goB
  have p0 := Int.emod_nonneg (b.fdiv (twN j)) (by decide : (60 : Int) ≠ 0)
  have p1 := Int.emod_lt_of_pos (b.fdiv (twN j)) (by decide : (0 : Int) < 60)
  omega
theorem ok_gtf (k a b : Int) (s : ByteArray) (ha : i64ok a) (hb : i64ok b) : OwesR Try.prog cxGo [] [] 10 Try.f7 [sRw k a b s] true (goR a b) := by
  rw [vc_gtf]
  have w : ∀ x : Int, 0 ≤ x ∧ x < 150 → IntKind.i64.wrap x = x := fun x h => by rw [IntKind.wrap_i64]; omega
  refine ⟨ha, by decide, fd_ok ha 0, by decide, fd_ok hb 0, by decide, fd_ok ha 1, by decide, fd_ok hb 1, by decide, fd_ok ha 2, by decide, fd_ok hb 2, by decide, ⟨w (goL a 0) ?_, w (goL a 1) ?_, w (goL a 2) ?_, trivial⟩, ⟨w (goB b 0) ?_, w (goB b 1) ?_, w (goB b 2) ?_, trivial⟩, ⟨rfl, trivial⟩, rfl, rfl, trivial⟩
  · have := @go_l a 0; omega
  · have := @go_l a 1; omega
  · have := @go_l a 2; omega
  · have := @go_b b 0; omega
  · have := @go_b b 1; omega
  · have := @go_b b 2; omega
end Go.Proofs.Ytanlbhkppagfdaa
end

section
namespace Go.Proofs.Ytanlbhkppagfdaa
open Go.Sx
set_option maxRecDepth 100000
theorem ha_no {W : Nat → Nat → Int} {x : Int} {d : Nat} (h : ∀ j, j < d → W j 0 ≠ x) : haB d W x = false := by
  unfold haB
  rw [List.any_eq_false]
  intro j hj
  have := h j (List.mem_range.1 hj)
  simpa using this
theorem ha_yes {W : Nat → Nat → Int} {x : Int} {d j : Nat} (hj : j < d) (h : W j 0 = x) : haB d W x = true := by
  unfold haB
  rw [List.any_eq_true]
  exact ⟨j, List.mem_range.2 hj, by rw [h]; exact beq_self_eq_true x⟩
theorem al_of {now : Int} {W : Nat → Nat → Int} : ∀ {m : Nat}, (∀ j, j < m → itB now W j = true) → (∀ i j, i < j → j < m → W i 0 ≠ W j 0) → alB now W m = true
  | 0, _, _ => rfl
  | m + 1, h, g => by
    unfold alB
    rw [al_of (fun j hj => h j (by omega)) (fun i j hi hj => g i j hi (by omega)), h m (by omega), ha_no (fun j hj => g j m hj (by omega))]
    rfl
structure gV (now : Int) (p : Nat) (PW : Nat → Nat → Int) (q : Nat) (QW : Nat → Nat → Int) (d : Nat) : Prop where
  a1 : p + q ≤ d
  a2 : rP now p PW
  a3 : rP now q QW
  a4 : ∀ i, i < p → 0 ≤ PW i 0 ∧ PW i 0 < (d : Int)
  a5 : ∀ i, i < q → 0 ≤ QW i 0 ∧ QW i 0 < (d : Int)
  a6 : ∀ i j, i < j → j < p → PW i 0 ≠ PW j 0
  a7 : ∀ i j, i < j → j < q → QW i 0 ≠ QW j 0
  a8 : ∀ i j, i < p → j < q → PW i 0 ≠ QW j 0
theorem it_of {now : Int} {n : Nat} {W : Nat → Nat → Int} (h : rP now n W) {j : Nat} (hj : j < n) : itB now W j = true := by
  unfold itB woB chB upB
  have h1 := h.rv j hj
  have h2 := h.rc j hj
  have h3 := h.rt j hj
  simp only [Bool.and_eq_true, decide_eq_true_eq]
  exact ⟨⟨h1, h2⟩, h3⟩
theorem gv_gt {L B : Nat → Int} {now : Int} {p : Nat} {PW : Nat → Nat → Int} {q : Nat} {QW : Nat → Nat → Int} {d : Nat} (h : gV now p PW q QW d) (hL : liB L = true) (hB : liB B = true) : gtE L B now p PW q QW = 0 := by
  have i1 : ∀ j, j < p → ∀ c, caW p PW QW j c = PW j c := fun j hj c => by unfold caW; rw [if_pos hj]
  have i2 : ∀ j, ¬ j < p → ∀ c, caW p PW QW j c = QW (j - p) c := fun j hj c => by unfold caW; rw [if_neg hj]
  have hit : ∀ j, j < p + q → itB now (caW p PW QW) j = true := fun j hj => by
    by_cases c : j < p
    · have := it_of h.a2 c
      unfold itB at this ⊢
      simpa only [i1 j c] using this
    · have := it_of h.a3 (j := j - p) (by omega)
      unfold itB at this ⊢
      simpa only [i2 j c] using this
  have hne : ∀ i j, i < j → j < p + q → caW p PW QW i 0 ≠ caW p PW QW j 0 := fun i j hi hj => by
    by_cases c : j < p
    · rw [i1 j c, i1 i (by omega)]; exact h.a6 i j hi c
    · rw [i2 j c]
      by_cases c2 : i < p
      · rw [i1 i c2]; exact h.a8 i (j - p) c2 (by omega)
      · rw [i2 i c2]; exact h.a7 (i - p) (j - p) (by omega) (by omega)
  unfold gtE
  have r1 := h.a2.rn
  have r2 := h.a3.rn
  have r3 := h.a2.r0
  have r4 := h.a2.r1
  rw [if_neg (by omega), if_pos]
  have : upB now 1099511627776 = true := by
    unfold upB
    simp only [Bool.and_eq_true, decide_eq_true_eq]
    exact ⟨r3, r4⟩
  rw [this, hL, hB, al_of hit hne]
  rfl
theorem ap_at {n : Nat} {W : Nat → Nat → Int} {x : Nat → Int} {i : Nat} (h : i < n) (c : Nat) : apW n W x i c = W i c := if_pos h
theorem ap_new {n : Nat} {W : Nat → Nat → Int} {x : Nat → Int} (c : Nat) : apW n W x n c = x c := if_neg (Nat.lt_irrefl n)
theorem rP_low {now : Int} {n : Nat} {W : Nat → Nat → Int} {x : Nat → Int} (h : rP now n W) : rP now n (apW n W x) := ⟨h.rn, h.r0, h.r1, fun j hj => by rw [ap_at hj]; exact h.rv j hj, fun j hj => by rw [ap_at hj]; exact h.rc j hj, fun j hj => by rw [ap_at hj]; exact h.rt j hj⟩
section
variable {now : Int} {p : Nat} {PW : Nat → Nat → Int} {q : Nat} {QW : Nat → Nat → Int} {d : Nat} {x y : Nat → Int}
theorem gv_past (h : gV now p PW q QW d) (hp : p < 40) (hx : xOK now x) (h0 : x 0 = (d : Int)) : gV now (p + 1) (apW p PW x) q (apW q QW y) (d + 1) := by
  have a1 := h.a1
  refine ⟨by omega, rP_ap h.a2 hp hx, rP_low h.a3, fun i hi => ?_, fun i hi => ?_, fun i j hi hj => ?_, fun i j hi hj => ?_, fun i j hi hj => ?_⟩
  · by_cases c : i < p
    · rw [ap_at c]; have := h.a4 i c; omega
    · obtain rfl : i = p := by omega
      rw [ap_new, h0]; omega
  · rw [ap_at hi]; have := h.a5 i hi; omega
  · rw [ap_at (show i < p by omega)]
    by_cases c : j < p
    · rw [ap_at c]; exact h.a6 i j hi c
    · obtain rfl : j = p := by omega
      rw [ap_new, h0]; have := h.a4 i hi; omega
  · rw [ap_at hj, ap_at (show i < q by omega)]; exact h.a7 i j hi hj
  · rw [ap_at hj]
    by_cases c : i < p
    · rw [ap_at c]; exact h.a8 i j c hj
    · obtain rfl : i = p := by omega
      rw [ap_new, h0]; have := h.a5 j hj; omega
theorem gv_wait (h : gV now p PW q QW d) (hq : q < 40) (hx : xOK now x) (h0 : x 0 = (d : Int)) : gV now p (apW p PW y) (q + 1) (apW q QW x) (d + 1) := by
  have a1 := h.a1
  refine ⟨by omega, rP_low h.a2, rP_ap h.a3 hq hx, fun i hi => ?_, fun i hi => ?_, fun i j hi hj => ?_, fun i j hi hj => ?_, fun i j hi hj => ?_⟩
  · rw [ap_at hi]; have := h.a4 i hi; omega
  · by_cases c : i < q
    · rw [ap_at c]; have := h.a5 i c; omega
    · obtain rfl : i = q := by omega
      rw [ap_new, h0]; omega
  · rw [ap_at hj, ap_at (show i < p by omega)]; exact h.a6 i j hi hj
  · rw [ap_at (show i < q by omega)]
    by_cases c : j < q
    · rw [ap_at c]; exact h.a7 i j hi c
    · obtain rfl : j = q := by omega
      rw [ap_new, h0]; have := h.a5 i hi; omega
  · rw [ap_at hi]
    by_cases c : j < q
    · rw [ap_at c]; exact h.a8 i j hi c
    · obtain rfl : j = q := by omega
      rw [ap_new, h0]; have := h.a4 i hi; omega
end
def nmI (n : Nat) (W : Nat → Nat → Int) (z : Int) : Prop := ∃ j, j < n ∧ W j 0 = z
theorem fi_v {now nw : Int} {n : Nat} {W : Nat → Nat → Int} (h : rP now n W) (h6 : ∀ i j, i < j → j < n → W i 0 ≠ W j 0) : ∀ d, d ≤ n → (∀ i, i < (fiD nw W d).1 → nmI d W ((fiD nw W d).2 i 0)) ∧ (∀ i j, i < j → j < (fiD nw W d).1 → (fiD nw W d).2 i 0 ≠ (fiD nw W d).2 j 0)
  | 0, _ => ⟨fun i hi => absurd hi (Nat.not_lt_zero i), fun i j _ hj => absurd hj (Nat.not_lt_zero j)⟩
  | d + 1, hd => by
    obtain ⟨i1, i2⟩ := fi_v (nw := nw) h h6 d (by omega)
    unfold fiD
    split
    · refine ⟨fun i hi => ?_, fun i j hi hj => ?_⟩
      · dsimp only at hi ⊢
        by_cases c : i < (fiD nw W d).1
        · rw [ap_at c]
          obtain ⟨j, hj, e⟩ := i1 i c
          exact ⟨j, by omega, e⟩
        · obtain rfl : i = (fiD nw W d).1 := by omega
          rw [ap_new]; exact ⟨d, by omega, rfl⟩
      · dsimp only at hj ⊢
        rw [ap_at (show i < (fiD nw W d).1 by omega)]
        by_cases c : j < (fiD nw W d).1
        · rw [ap_at c]; exact i2 i j hi c
        · obtain rfl : j = (fiD nw W d).1 := by omega
          rw [ap_new]
          obtain ⟨k, hk, e⟩ := i1 i hi
          rw [← e]; exact h6 k d hk (by omega)
    · exact ⟨fun i hi => (i1 i hi).elim fun j hj => ⟨j, by omega, hj.2⟩, i2⟩
structure tkV (nw : Int) (n : Nat) (W W' : Nat → Nat → Int) (k : Nat) (s : Tk) : Prop where
  b1 : s.p + s.q ≤ n + k
  b2 : rP nw s.q s.QW
  b3 : ∀ i, i < s.p → nmI n W (s.PW i 0) ∨ nmI k W' (s.PW i 0)
  b4 : ∀ i, i < s.q → nmI k W' (s.QW i 0)
  b5 : ∀ i, i < s.m → nmI k W' (s.F i)
  b6 : ∀ i j, i < j → j < s.p → s.PW i 0 ≠ s.PW j 0
  b7 : ∀ i j, i < j → j < s.q → s.QW i 0 ≠ s.QW j 0
  b8 : ∀ i j, i < s.p → j < s.q → s.PW i 0 ≠ s.QW j 0
theorem nm_up {k : Nat} {W : Nat → Nat → Int} {z : Int} (h : nmI k W z) : nmI (k + 1) W z := h.elim fun j hj => ⟨j, by omega, hj.2⟩
theorem nm_new {k : Nat} {W : Nat → Nat → Int} : nmI (k + 1) W (W k 0) := ⟨k, by omega, rfl⟩
theorem tk_v {L B : Nat → Int} {now nw : Int} {n n' d : Nat} {W W' : Nat → Nat → Int} (g : gV now n W n' W' d) (hl : now ≤ nw) (hm : nw ≤ 1099511627776) : ∀ k, k ≤ n' → tkV nw n W W' k (tkD L B nw W' (tk0 nw n W) k)
  | 0, _ => by
    obtain ⟨i1, i2⟩ := fi_v (nw := nw) g.a2 g.a6 n (Nat.le_refl _)
    have hf := fi_ok (W := W) g.a2 hl hm n (Nat.le_refl _)
    have h0 := g.a2.r0
    refine ⟨?_, ⟨Nat.zero_le _, by omega, hm, fun j hj => absurd hj (Nat.not_lt_zero j), fun j hj => absurd hj (Nat.not_lt_zero j), fun j hj => absurd hj (Nat.not_lt_zero j)⟩, fun i hi => .inl (i1 i hi), fun i hi => absurd hi (Nat.not_lt_zero i), fun i hi => absurd hi (Nat.not_lt_zero i), i2, fun i j _ hj => absurd hj (Nat.not_lt_zero j), fun i j _ hj => absurd hj (Nat.not_lt_zero j)⟩
    show (fiD nw W n).1 + 0 ≤ n + 0
    omega
  | k + 1, hk => by
    have v := tk_v (L := L) (B := B) g hl hm k (by omega)
    have hx := x_later (rP_x g.a3 (j := k) (by omega)) hl
    have hq40 := g.a3.rn
    have fresh1 : ∀ z, nmI n W z ∨ nmI k W' z → z ≠ W' k 0 := fun z hz => by
      rcases hz with ⟨j, hj, e⟩ | ⟨j, hj, e⟩
      · rw [← e]; exact g.a8 j k hj (by omega)
      · rw [← e]; exact g.a7 j k hj (by omega)
    have hsq : (tkD L B nw W' (tk0 nw n W) k).q ≤ k := by
      have := v.b1
      exact (show ∀ k, (tkD L B nw W' (tk0 nw n W) k).q ≤ k from fun k => by
        induction k with
        | zero => exact Nat.le_refl _
        | succ k ih =>
          show (tkS L B nw (W' k) (tkD L B nw W' (tk0 nw n W) k)).q ≤ k + 1
          unfold tkS
          split
          · exact Nat.le_succ_of_le ih
          · split
            · exact Nat.le_succ_of_le ih
            · exact Nat.succ_le_succ ih) k
    show tkV nw n W W' (k + 1) (tkS L B nw (W' k) (tkD L B nw W' (tk0 nw n W) k))
    generalize tkD L B nw W' (tk0 nw n W) k = s at v hsq
    obtain ⟨b1, b2, b3, b4, b5, b6, b7, b8⟩ := v
    have up3 : ∀ i, i < s.p → nmI n W (s.PW i 0) ∨ nmI (k + 1) W' (s.PW i 0) := fun i hi => (b3 i hi).imp id nm_up
    have up4 : ∀ i, i < s.q → nmI (k + 1) W' (s.QW i 0) := fun i hi => nm_up (b4 i hi)
    have up5 : ∀ i, i < s.m + 1 → nmI (k + 1) W' (apI s.m s.F (W' k 0) i) := fun i hi => by
      unfold apI
      by_cases c : i < s.m
      · rw [if_pos c]; exact nm_up (b5 i c)
      · rw [if_neg c]; exact nm_new
    unfold tkS
    split
    · exact ⟨by show s.p + s.q ≤ n + (k + 1); omega, b2, up3, up4, up5, b6, b7, b8⟩
    · split
      · refine ⟨by show s.p + 1 + s.q ≤ n + (k + 1); omega, b2, fun i hi => ?_, up4, up5, fun i j hi hj => ?_, b7, fun i j hi hj => ?_⟩
        · dsimp only at hi ⊢
          by_cases c : i < s.p
          · rw [ap_at c]; exact up3 i c
          · obtain rfl : i = s.p := by omega
            rw [ap_new]; exact .inr nm_new
        · dsimp only at hj ⊢
          rw [ap_at (show i < s.p by omega)]
          by_cases c : j < s.p
          · rw [ap_at c]; exact b6 i j hi c
          · obtain rfl : j = s.p := by omega
            rw [ap_new]; exact fresh1 _ (b3 i hi)
        · dsimp only at hi hj ⊢
          by_cases c : i < s.p
          · rw [ap_at c]; exact b8 i j c hj
          · obtain rfl : i = s.p := by omega
            rw [ap_new]; exact (fresh1 _ (.inr (b4 j hj))).symm
      · refine ⟨by show s.p + (s.q + 1) ≤ n + (k + 1); omega, rP_ap b2 (by omega) hx, up3, fun i hi => ?_, fun i hi => nm_up (b5 i hi), b6, fun i j hi hj => ?_, fun i j hi hj => ?_⟩
        · dsimp only at hi ⊢
          by_cases c : i < s.q
          · rw [ap_at c]; exact up4 i c
          · obtain rfl : i = s.q := by omega
            rw [ap_new]; exact nm_new
        · dsimp only at hj ⊢
          rw [ap_at (show i < s.q by omega)]
          by_cases c : j < s.q
          · rw [ap_at c]; exact b7 i j hi c
          · obtain rfl : j = s.q := by omega
            rw [ap_new]; exact fresh1 _ (.inr (b4 i hi))
        · dsimp only at hi hj ⊢
          by_cases c : j < s.q
          · rw [ap_at c]; exact b8 i j hi c
          · obtain rfl : j = s.q := by omega
            rw [ap_new]; exact fresh1 _ (b3 i hi)
theorem gv_tick {L B : Nat → Int} {now : Int} {n n' d : Nat} {W W' : Nat → Nat → Int} {h : Int} (g : gV now n W n' W' d) (hL : liB L = true) (hB : liB B = true) (h1 : 1 ≤ h ∧ h ≤ 1000) (hm : now + h ≤ 1099511627776) :
    tiE L B now n W n' W' h = 0 ∧ gV (now + h) (tiT L B now n W n' W' h).p (tiT L B now n W n' W' h).PW (tiT L B now n W n' W' h).q (tiT L B now n W n' W' h).QW d ∧ ∀ i, i < (tiT L B now n W n' W' h).m → nmI n' W' ((tiT L B now n W n' W' h).F i) := by
  have e0 := gv_gt g hL hB
  have t := tk_ok (gt_ok e0) (nw := now + h) (by omega) hm n' (Nat.le_refl _)
  have v := tk_v (L := L) (B := B) g (nw := now + h) (by omega) hm n' (Nat.le_refl _)
  have a1 := g.a1
  refine ⟨?_, ⟨?_, t.t1, v.b2, fun i hi => ?_, fun i hi => ?_, v.b6, v.b7, v.b8⟩, v.b5⟩
  · unfold tiE
    rw [if_neg (by rw [e0]; decide), if_neg (by omega)]
  · have := v.b1
    exact Nat.le_trans this a1
  · rcases v.b3 i hi with ⟨j, hj, e⟩ | ⟨j, hj, e⟩
    · exact e ▸ g.a4 j hj
    · exact e ▸ g.a5 j hj
  · obtain ⟨j, hj, e⟩ := v.b4 i hi
    exact e ▸ g.a5 j hj
end Go.Proofs.Ytanlbhkppagfdaa
end
