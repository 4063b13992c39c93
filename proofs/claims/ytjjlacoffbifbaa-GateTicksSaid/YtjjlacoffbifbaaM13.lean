/-
  Texts: P394.
-/
import Derived.Test.YtjjlacoffbifbaaM1
import Derived.Test.YtjjlacoffbifbaaM2
import Derived.Test.YtjjlacoffbifbaaM3
import Derived.Test.YtjjlacoffbifbaaM4
import Derived.Test.YtjjlacoffbifbaaM5
import Derived.Test.YtjjlacoffbifbaaM6
import Derived.Test.YtjjlacoffbifbaaM7
import Derived.Test.YtjjlacoffbifbaaM8
import Derived.Test.YtjjlacoffbifbaaM9
import Derived.Test.YtjjlacoffbifbaaM10
import Derived.Test.YtjjlacoffbifbaaM11
import Derived.Test.YtjjlacoffbifbaaM12
section
namespace Go.Proofs.Ytjjlacoffbifbaa
open Go.Sx
set_option maxRecDepth 100000
section
variable {n : Nat} {W : Nat → Nat → Int}
theorem rowX (x : Nat → Int) (hn : n = 0) {i : Nat} (hi : i < 1) : allC 4 fun d => simC (fixAt (flat [SK.c (.val (.int .i64 (x 0))), SK.c (.val (.int .i64 (x 1))), SK.c (.val (.int .i64 (x 2))), SK.c (.val (.int .i64 (x 3)))]) 4 1 0 i d) (qW (apW n W x) i d) := by
  subst hn
  obtain rfl : i = 0 := by omega
  exact ⟨rfl, rfl, rfl, rfl⟩
theorem rowY (x : Nat → Int) {o o' c1 : Nat} {i : Nat} (hi : i < n + 1) : allC 4 fun d => simC (newH (SA.sc (SC.slw o 4 0 n c1)) (SA.sc (SC.sl o' 0 1 1)) n (qW W) (fixAt (flat [SK.c (.val (.int .i64 (x 0))), SK.c (.val (.int .i64 (x 1))), SK.c (.val (.int .i64 (x 2))), SK.c (.val (.int .i64 (x 3)))]) 4 1 0) i d) (qW (apW n W x) i d) := by
  by_cases hl : i < n
  · show allC 4 fun d => simC (selC (decide (i < n)) (qW W i d) (fixAt (flat [SK.c (.val (.int .i64 (x 0))), SK.c (.val (.int .i64 (x 1))), SK.c (.val (.int .i64 (x 2))), SK.c (.val (.int .i64 (x 3)))]) 4 1 0 (i - n) d)) (qW (apW n W x) i d)
    have e : ∀ d, apW n W x i d = W i d := fun d => (ap_low hl d).symm
    rw [decide_eq_true hl]
    simp only [qW, e]
    exact ⟨rfl, rfl, rfl, rfl⟩
  · obtain rfl : i = n := by omega
    show allC 4 fun d => simC (selC (decide (i < i)) (qW W i d) (fixAt (flat [SK.c (.val (.int .i64 (x 0))), SK.c (.val (.int .i64 (x 1))), SK.c (.val (.int .i64 (x 2))), SK.c (.val (.int .i64 (x 3)))]) 4 1 0 (i - i) d)) (qW (apW i W x) i d)
    have e : ∀ d, apW i W x i d = x d := fun d => by unfold apW; rw [if_neg hl]
    rw [decide_eq_false hl, Nat.sub_self]
    simp only [qW, e]
    exact ⟨rfl, rfl, rfl, rfl⟩
theorem rowI {V : Nat → Nat → Int} {i : Nat} : allC 4 fun d => simC (qW V i d) (qW V i d) := ⟨rfl, rfl, rfl, rfl⟩
variable {m : Nat} {F : Nat → Int} {x : Int}
theorem frX (hm : m = 0) {i : Nat} (hi : i < 1) : allC 1 fun d => simC (fixAt (flat [SK.c (.val (.int .i64 x))]) 1 1 0 i d) (.val (.int .i64 (apI m F x i))) := by
  subst hm
  obtain rfl : i = 0 := by omega
  rfl
theorem frY {o o' c1 : Nat} {i : Nat} (hi : i < m + 1) : allC 1 fun d => simC (newH (SA.sc (SC.slw o 1 0 m c1)) (SA.sc (SC.sl o' 0 1 1)) m (fun i _ => .val (.int .i64 (F i))) (fixAt (flat [SK.c (.val (.int .i64 x))]) 1 1 0) i d) (.val (.int .i64 (apI m F x i))) := by
  by_cases hl : i < m
  · show simC (selC (decide (i < m)) (.val (.int .i64 (F i))) (fixAt (flat [SK.c (.val (.int .i64 x))]) 1 1 0 (i - m) 0)) (.val (.int .i64 (apI m F x i)))
    have e : apI m F x i = F i := if_pos hl
    rw [decide_eq_true hl, e]
    rfl
  · obtain rfl : i = m := by omega
    show simC (selC (decide (i < i)) (.val (.int .i64 (F i))) (fixAt (flat [SK.c (.val (.int .i64 x))]) 1 1 0 (i - i) 0)) (.val (.int .i64 (apI i F x i)))
    have e : apI i F x i = x := if_neg hl
    rw [decide_eq_false hl, e, Nat.sub_self]
    rfl
theorem frI {G : Nat → Int} {i : Nat} : allC 1 fun _ => simC (.val (.int .i64 (G i))) (.val (.int .i64 (G i))) := rfl
end
section
variable {L B : Nat → Int} {nw : Int} {W' : Nat → Nat → Int} {s : Tk} {d p q m : Nat} {PW QW : Nat → Nat → Int} {F : Nat → Int}
theorem tk_ripe (h : tkD L B nw W' s d = ⟨p, PW, q, QW, m, F⟩) (hw : wiB nw (W' d 3) = false) : tkD L B nw W' s (d + 1) = ⟨p, PW, q, QW, m + 1, apI m F (W' d 0)⟩ := by
  show tkS L B nw (W' d) (tkD L B nw W' s d) = _
  rw [h]
  unfold tkS
  rw [if_pos hw]
theorem tk_pass (h : tkD L B nw W' s d = ⟨p, PW, q, QW, m, F⟩) (hw : wiB nw (W' d 3) = true) (hp : paB L B nw p PW (W' d 1) (W' d 2) = true) : tkD L B nw W' s (d + 1) = ⟨p + 1, apW p PW (kQ (W' d 0) (W' d 1) (W' d 2) nw), q, QW, m + 1, apI m F (W' d 0)⟩ := by
  show tkS L B nw (W' d) (tkD L B nw W' s d) = _
  rw [h]
  unfold tkS
  rw [if_neg (by rw [hw]; decide)]
  simp only [hp, if_true]
theorem tk_wait (h : tkD L B nw W' s d = ⟨p, PW, q, QW, m, F⟩) (hw : wiB nw (W' d 3) = true) (hp : paB L B nw p PW (W' d 1) (W' d 2) = false) : tkD L B nw W' s (d + 1) = ⟨p, PW, q + 1, apW q QW (W' d), m, F⟩ := by
  show tkS L B nw (W' d) (tkD L B nw W' s d) = _
  rw [h]
  unfold tkS
  rw [if_neg (by rw [hw]; decide)]
  simp only [hp, Bool.false_eq_true, if_false]
end
theorem wi_eq {nw : Int} {x : Nat → Int} (hx : xOK nw x) (hm : nw ≤ 1099511627776) : decide (IntKind.i64.wrap (nw - x 3) < 24) = wiB nw (x 3) := by
  have := hx.xt
  unfold wiB
  rw [show IntKind.i64.wrap (nw - x 3) = nw - x 3 by rw [IntKind.wrap_i64]; omega]
theorem fi_in {nw : Int} {W : Nat → Nat → Int} {d p : Nat} {PW : Nat → Nat → Int} (h : fiD nw W d = (p, PW)) (hw : wiB nw (W d 3) = true) : fiD nw W (d + 1) = (p + 1, apW p PW (W d)) := by
  show (if wiB nw (W d 3) = true then ((fiD nw W d).1 + 1, apW (fiD nw W d).1 (fiD nw W d).2 (W d)) else fiD nw W d) = _
  rw [if_pos hw, h]
theorem fi_out {nw : Int} {W : Nat → Nat → Int} {d p : Nat} {PW : Nat → Nat → Int} (h : fiD nw W d = (p, PW)) (hw : wiB nw (W d 3) = false) : fiD nw W (d + 1) = (p, PW) := by
  show (if wiB nw (W d 3) = true then ((fiD nw W d).1 + 1, apW (fiD nw W d).1 (fiD nw W d).2 (W d)) else fiD nw W d) = _
  rw [if_neg (by rw [hw]; decide), h]
theorem tk_begin {L B : Nat → Int} {nw : Int} {n : Nat} {W W' : Nat → Nat → Int} {p : Nat} {PW : Nat → Nat → Int} (h : fiD nw W n = (p, PW)) : tkD L B nw W' (tk0 nw n W) 0 = ⟨p, PW, 0, fun _ _ => 0, 0, fun _ => 0⟩ := by
  show tk0 nw n W = _
  unfold tk0
  rw [h]
theorem rP_nil {now : Int} {n : Nat} {W V : Nat → Nat → Int} (h : rP now n W) : rP now 0 V := ⟨Nat.zero_le _, h.r0, h.r1, fun j hj => absurd hj (Nat.not_lt_zero j), fun j hj => absurd hj (Nat.not_lt_zero j), fun j hj => absurd hj (Nat.not_lt_zero j)⟩
theorem qP_nil {f : Nat → Nat → SC} : qP 0 f := ⟨Nat.zero_le _, fun i hi => absurd hi (Nat.not_lt_zero i)⟩
theorem bad_tick {e : Int} (h : e ≠ 0) (L B : Nat → Int) (nw : Int) (T : Tk) : ((0 = zer e (L 0) ∧ 0 = zer e (L 1) ∧ 0 = zer e (L 2)) ∧ (0 = zer e (B 0) ∧ 0 = zer e (B 1) ∧ 0 = zer e (B 2)) ∧ 0 = zer e nw ∧ zeN e T.p = 0 ∧ zeN e T.q = 0) ∧ zeN e T.m = 0 := by
  have hz : ∀ x, zer e x = 0 := fun x => if_neg h
  have hN : ∀ x, zeN e x = 0 := fun x => if_neg h
  simp only [hz, hN, and_self]
set_option maxHeartbeats 0 in
theorem ok_gti (L B : Nat → Int) (now nw : Int) (a : Option Addr) (n cap : Nat) (W : Nat → Nat → Int) (a' : Option Addr) (n' cap' : Nat) (W' : Nat → Nat → Int) (h e : Int) (T : Tk) (hn : n ≤ maxLen) (hn' : n' ≤ maxLen)
    (hnw : nw = now + h) (he : e = tiE L B now n W n' W' h) (hT : e = 0 → T = tiT L B now n W n' W' h) :
    OwesR Try.prog cxTi slTi [((24 + 1) * 100000 + 3, .invs (fun _ _ => [invRe false L B nw a n cap W a' n' cap' W', invRe true L B nw a n cap W a' n' cap' W']) pkRe), ((25 + 1) * 100000 + 5, .invs (lsAg L B nw a n cap W a' n' cap' W') pkAg)] 10 Try.f11 [sG L B now a n cap W a' n' cap' W', sI .i64 h] false (tiR L B nw e T) := by
  rw [vc_gti]
  have hML : maxLen = 9223372036854775807 := rfl
  have hG : jAt (qW W) = W := rfl
  have hG' : jAt (qW W') = W' := rfl
  simp only [q_simT, eq_self, implies_true, imp_self, and_true, true_and, Int.toNat_natCast, Bool.not_eq_true', Bool.not_eq_false', Bool.not_not, Nat.zero_add, Nat.le_refl, and_self, hG, hG', false_imp_iff, true_imp_iff, reduceCtorEq]
  unfold tiE at he
  refine ⟨qP_W hn, qP_W hn', fun h1 => ?_, fun h1 => ?_⟩
  · have h1 : gtE L B now n W n' W' ≠ 0 := bne_iff_ne.1 h1
    rw [if_pos h1] at he
    subst he
    obtain ⟨q1, q2⟩ := bad_tick h1 L B nw T
    exact ⟨q1, q2, rfl⟩
  have h0 : gtE L B now n W n' W' = 0 := by simpa using h1
  have ok := gt_ok h0
  rw [if_neg (by rw [h0]; decide)] at he
  have hr0 := ok.g1.r0
  have hr1 := ok.g1.r1
  have hcond : (decide (h < 1) || decide (h > 1000) || decide (IntKind.i64.wrap (now + h) > 1099511627776)) = decide (h < 1 ∨ 1000 < h ∨ 1099511627776 < now + h) := by
    by_cases c1 : h < 1
    · rw [decide_eq_true c1, decide_eq_true (Or.inl c1)]; rfl
    by_cases c2 : h > 1000
    · rw [decide_eq_true c2, decide_eq_true (Or.inr (Or.inl c2)), Bool.or_true]; rfl
    rw [show IntKind.i64.wrap (now + h) = now + h by rw [IntKind.wrap_i64]; omega, decide_eq_false c1, decide_eq_false c2, Bool.or_self, Bool.false_or]
    exact decide_eq_decide.2 (by omega)
  rw [hcond]
  refine ⟨fun h2 => ?_, fun h2 => ?_⟩
  · rw [if_pos (of_decide_eq_true h2)] at he
    subst he
    obtain ⟨q1, q2⟩ := bad_tick (by decide : (6 : Int) ≠ 0) L B nw T
    exact ⟨q1, q2, rfl⟩
  have h2 := of_decide_eq_false h2
  rw [if_neg h2] at he
  subst he
  have hT := hT rfl
  unfold tiT at hT
  rw [← hnw] at hT
  have hn40 := ok.g1.rn
  have hn40' := ok.g2.rn
  have hw : IntKind.i64.wrap (now + h) = nw := by rw [IntKind.wrap_i64]; omega
  have hl : now ≤ nw := by omega
  have hm : nw ≤ 1099511627776 := by omega
  have hfi := fi_ok (W := W) ok.g1 hl hm
  have htk := tk_ok ok hl hm
  have z0 : ∀ x, zer 0 x = x := fun _ => rfl
  have z1 : ∀ x, zeN 0 x = x := fun _ => rfl
  simp only [hw, z0, z1, eq_self, implies_true, true_and, and_true]
  clear h0 h1 h2 hcond hw hnw
  refine ⟨⟨fun _ => rfl, fun _ => rfl⟩, ⟨⟨0, 0, fun _ _ => 0, 0⟩, ⟨Nat.zero_le _, rfl, rfl, by show 0 + 0 ≤ maxLen; omega⟩, rfl⟩, fun y hy => ?_, fun y hy => ?_⟩
  all_goals
    obtain ⟨d, p, PW, c0⟩ := y
    dsimp only at hy ⊢
    have hd : d ≤ n := hy.1
    have hF0 : fiD nw W d = (p, PW) := hy.2.1
    have hbp : p + c0 ≤ maxLen := by first | exact hy.2.2 | exact hy.2.2.2
    have hpd : p ≤ d := by have := (hfi d hd).1; rw [hF0] at this; exact this
    refine ⟨fun hlt => ?_, fun hlt => ?_⟩
  · have hlt' : d < n := by have := of_decide_eq_true hlt; omega
    have hx := x_later (rP_x ok.g1 hlt') hl
    have hless : (n - (d + 1)).succ.le (n - d) := by show n - (d + 1) + 1 ≤ n - d; omega
    have hsucc : IntKind.i64.wrap ((d : Int) + 1) = ((d + 1 : Nat) : Int) := by rw [IntKind.wrap_i64]; omega
    try have hpz : p = 0 := hy.2.2.1
    rw [wi_eq hx hm]
    refine ⟨⟨by omega, by omega⟩, fun hr => ?_, fun hr => ?_⟩
    · have hS := fi_in hF0 hr
      repeat' (first | apply And.intro | intro _)
      all_goals first | omega | skip
      all_goals
        rename_i c hc
        refine ⟨⟨d + 1, p + 1, apW p PW (W d), c⟩, ?_⟩
        dsimp only
        repeat' (first
        | exact hS
        | exact hlt'
        | exact hsucc
        | exact hless
        | exact fun i hi => rowX (W d) (by assumption) hi
        | exact fun i hi => rowY (W d) hi
        | exact fun i hi => rowI
        | assumption
        | apply And.intro)
      all_goals omega
    · have hS := fi_out hF0 hr
      refine ⟨⟨d + 1, p, PW, c0⟩, ?_⟩
      dsimp only
      repeat' (first
      | exact hS
      | exact hlt'
      | exact hsucc
      | exact hless
      | exact fun i hi => rowI
      | assumption
      | apply And.intro)
      all_goals omega
  · obtain rfl : n = d := by have := of_decide_eq_false hlt; omega
    have hp0 : p = 0 := hy.2.2.1
    refine ⟨⟨fun _ => rfl, fun _ => rfl, fun _ => rfl, fun _ => rfl, fun _ => rfl, fun _ => rfl, fun _ => rfl, fun _ => rfl⟩, ⟨⟨0, p, PW, 0, 0, fun _ _ => 0, 0, 0, fun _ => 0, 0, ⟨0, 0, none⟩, 0, 0⟩, ⟨Nat.zero_le _, tk_begin hF0, hp0, rfl, rfl, by show p + 0 ≤ maxLen; omega, by show 0 + 0 ≤ maxLen; omega, by show 0 + 0 ≤ maxLen; omega⟩, rfl⟩, fun y hy => ?_, fun y hy => ?_, fun y hy => ?_, fun y hy => ?_, fun y hy => ?_, fun y hy => ?_, fun y hy => ?_, fun y hy => ?_⟩
    all_goals
      obtain ⟨d, p, PW, cp, q, QW, cq, m, F, cm, ad, p0, c0⟩ := y
      dsimp only at hy ⊢
      have hd : d ≤ n' := hy.1
      have hS0 : tkD L B nw W' (tk0 nw n W) d = ⟨p, PW, q, QW, m, F⟩ := hy.2.1
      try have hpz : p = 0 := hy.2.2.1
      try have hqz : q = 0 := by first | exact hy.2.2.1 | exact hy.2.2.2.1
      try have hmz : m = 0 := by first | exact hy.2.2.1 | exact hy.2.2.2.1 | exact hy.2.2.2.2.1
      have hb1 : p + cp ≤ maxLen := by first | exact hy.2.2.1 | exact hy.2.2.2.1 | exact hy.2.2.2.2.1 | exact hy.2.2.2.2.2.1
      have hb2 : q + cq ≤ maxLen := by first | exact hy.2.2.2.1 | exact hy.2.2.2.2.1 | exact hy.2.2.2.2.2.1 | exact hy.2.2.2.2.2.2.1
      have hb3 : m + cm ≤ maxLen := by first | exact hy.2.2.2.2 | exact hy.2.2.2.2.2 | exact hy.2.2.2.2.2.2 | exact hy.2.2.2.2.2.2.2
      clear hy
      have tko := htk d hd
      rw [hS0] at tko
      have t1 : rP nw p PW := tko.t1
      have t2 : q ≤ d := tko.t2
      have t3 : m ≤ d := tko.t3
      clear tko
      have hp40 := t1.rn
      have hsucc : IntKind.i64.wrap ((d : Int) + 1) = ((d + 1 : Nat) : Int) := by rw [IntKind.wrap_i64]; omega
      have hless : (n' - (d + 1)).succ.le (n' - d) ∨ ¬ d < n' := by
        by_cases hh : d < n'
        · exact .inl (by show n' - (d + 1) + 1 ≤ n' - d; omega)
        · exact .inr hh
      refine ⟨fun hlt => ?_, fun hlt => ?_⟩
      · have hlt' : d < n' := by have := of_decide_eq_true hlt; omega
        have hless : (n' - (d + 1)).succ.le (n' - d) := hless.resolve_right (fun hh => hh hlt')
        have hx := x_later (rP_x ok.g2 hlt') hl
        rw [wi_eq hx hm]
        refine ⟨⟨by omega, by omega⟩, fun hr => ?_, fun hr => ?_⟩
        · have hS := tk_ripe hS0 hr
          repeat' (first | apply And.intro | intro _)
          all_goals first | omega | skip
          all_goals
            rename_i c hc
            refine ⟨⟨d + 1, p, PW, cp, q, QW, cq, m + 1, apI m F (W' d 0), c, ad, p0, c0⟩, ?_⟩
            dsimp only
            repeat' (first
            | exact hS
            | exact hlt'
            | exact hsucc
            | exact hless
            | exact fun i hi => rowX (kQ (W' d 0) (W' d 1) (W' d 2) nw) (by assumption) hi
            | exact fun i hi => rowX (W' d) (by assumption) hi
            | exact fun i hi => rowY (kQ (W' d 0) (W' d 1) (W' d 2) nw) hi
            | exact fun i hi => rowY (W' d) hi
            | exact fun i hi => frX (by assumption) hi
            | exact fun i hi => frY hi
            | exact fun i hi => rowI
            | exact fun i hi => frI
            | exact (rfl : Value.slice _ _ _ = Value.slice _ _ _)
            | assumption
            | apply And.intro)
          all_goals omega
        · repeat' (first | apply And.intro | intro _)
          all_goals first | omega | exact qP_W (by omega) | exact qP_nil | exact t1 | exact rP_nil t1 | exact ok.g3 | exact hx.xv.1 | exact hx.xv.2 | exact hx.xc.1 | exact hx.xc.2 | skip
          all_goals first
            | (rename_i hp ad1 c hc c1 hc1
               have hp : paB L B nw p PW (W' d 1) (W' d 2) = true := by first | exact hp | (rw [hpz]; exact hp)
               have hS := tk_pass hS0 hr hp
               refine ⟨⟨d + 1, p + 1, apW p PW (kQ (W' d 0) (W' d 1) (W' d 2) nw), c, q, QW, cq, m + 1, apI m F (W' d 0), c1, ad, p0, c0⟩, ?_⟩)
            | (rename_i hp c hc c1 hc1
               have hp : paB L B nw p PW (W' d 1) (W' d 2) = true := by first | exact hp | (rw [hpz]; exact hp)
               have hS := tk_pass hS0 hr hp
               refine ⟨⟨d + 1, p + 1, apW p PW (kQ (W' d 0) (W' d 1) (W' d 2) nw), c, q, QW, cq, m + 1, apI m F (W' d 0), c1, ad, p0, c0⟩, ?_⟩)
            | (rename_i hp ad1 c hc
               have hp : paB L B nw p PW (W' d 1) (W' d 2) = false := by first | exact hp | (rw [hpz]; exact hp)
               have hS := tk_wait hS0 hr hp
               refine ⟨⟨d + 1, p, PW, cp, q + 1, apW q QW (W' d), c, m, F, cm, ad, p0, c0⟩, ?_⟩)
            | (rename_i hp c hc
               have hp : paB L B nw p PW (W' d 1) (W' d 2) = false := by first | exact hp | (rw [hpz]; exact hp)
               have hS := tk_wait hS0 hr hp
               refine ⟨⟨d + 1, p, PW, cp, q + 1, apW q QW (W' d), c, m, F, cm, ad, p0, c0⟩, ?_⟩)
          all_goals
            dsimp only
            repeat' (first
            | exact hS
            | exact hlt'
            | exact hsucc
            | exact hless
            | exact fun i hi => rowX (kQ (W' d 0) (W' d 1) (W' d 2) nw) (by assumption) hi
            | exact fun i hi => rowX (W' d) (by assumption) hi
            | exact fun i hi => rowY (kQ (W' d 0) (W' d 1) (W' d 2) nw) hi
            | exact fun i hi => rowY (W' d) hi
            | exact fun i hi => frX (by assumption) hi
            | exact fun i hi => frY hi
            | exact fun i hi => rowI
            | exact fun i hi => frI
            | exact (rfl : Value.slice _ _ _ = Value.slice _ _ _)
            | assumption
            | apply And.intro)
          all_goals omega
      · have ed : d = n' := by have := of_decide_eq_false hlt; omega
        rw [ed] at hS0
        have hTT := hT.trans hS0
        rw [hTT]
        dsimp only
        repeat' (first | exact fun i hi => rowI | exact fun i hi => rfl | assumption | rfl | apply And.intro)
        all_goals omega
  · have hlt' : d < n := by have := of_decide_eq_true hlt; omega
    have hx := x_later (rP_x ok.g1 hlt') hl
    have hless : (n - (d + 1)).succ.le (n - d) := by show n - (d + 1) + 1 ≤ n - d; omega
    have hsucc : IntKind.i64.wrap ((d : Int) + 1) = ((d + 1 : Nat) : Int) := by rw [IntKind.wrap_i64]; omega
    try have hpz : p = 0 := hy.2.2.1
    rw [wi_eq hx hm]
    refine ⟨⟨by omega, by omega⟩, fun hr => ?_, fun hr => ?_⟩
    · have hS := fi_in hF0 hr
      repeat' (first | apply And.intro | intro _)
      all_goals first | omega | skip
      all_goals
        rename_i c hc
        refine ⟨⟨d + 1, p + 1, apW p PW (W d), c⟩, ?_⟩
        dsimp only
        repeat' (first
        | exact hS
        | exact hlt'
        | exact hsucc
        | exact hless
        | exact fun i hi => rowX (W d) (by assumption) hi
        | exact fun i hi => rowY (W d) hi
        | exact fun i hi => rowI
        | assumption
        | apply And.intro)
      all_goals omega
    · have hS := fi_out hF0 hr
      refine ⟨⟨d + 1, p, PW, c0⟩, ?_⟩
      dsimp only
      repeat' (first
      | exact hS
      | exact hlt'
      | exact hsucc
      | exact hless
      | exact fun i hi => rowI
      | assumption
      | apply And.intro)
      all_goals omega
  · obtain rfl : n = d := by have := of_decide_eq_false hlt; omega
    refine ⟨⟨fun _ => rfl, fun _ => rfl, fun _ => rfl, fun _ => rfl, fun _ => rfl, fun _ => rfl, fun _ => rfl, fun _ => rfl⟩, ⟨⟨0, p, PW, c0, 0, fun _ _ => 0, 0, 0, fun _ => 0, 0, ⟨0, 0, none⟩, 0, 0⟩, ⟨Nat.zero_le _, tk_begin hF0, rfl, rfl, hbp, by show 0 + 0 ≤ maxLen; omega, by show 0 + 0 ≤ maxLen; omega⟩, by repeat' (first | exact fun i hi => rowI | rfl | apply And.intro)⟩, fun y hy => ?_, fun y hy => ?_, fun y hy => ?_, fun y hy => ?_, fun y hy => ?_, fun y hy => ?_, fun y hy => ?_, fun y hy => ?_⟩
    all_goals
      obtain ⟨d, p, PW, cp, q, QW, cq, m, F, cm, ad, p0, c0⟩ := y
      dsimp only at hy ⊢
      have hd : d ≤ n' := hy.1
      have hS0 : tkD L B nw W' (tk0 nw n W) d = ⟨p, PW, q, QW, m, F⟩ := hy.2.1
      try have hpz : p = 0 := hy.2.2.1
      try have hqz : q = 0 := by first | exact hy.2.2.1 | exact hy.2.2.2.1
      try have hmz : m = 0 := by first | exact hy.2.2.1 | exact hy.2.2.2.1 | exact hy.2.2.2.2.1
      have hb1 : p + cp ≤ maxLen := by first | exact hy.2.2.1 | exact hy.2.2.2.1 | exact hy.2.2.2.2.1 | exact hy.2.2.2.2.2.1
      have hb2 : q + cq ≤ maxLen := by first | exact hy.2.2.2.1 | exact hy.2.2.2.2.1 | exact hy.2.2.2.2.2.1 | exact hy.2.2.2.2.2.2.1
      have hb3 : m + cm ≤ maxLen := by first | exact hy.2.2.2.2 | exact hy.2.2.2.2.2 | exact hy.2.2.2.2.2.2 | exact hy.2.2.2.2.2.2.2
      clear hy
      have tko := htk d hd
      rw [hS0] at tko
      have t1 : rP nw p PW := tko.t1
      have t2 : q ≤ d := tko.t2
      have t3 : m ≤ d := tko.t3
      clear tko
      have hp40 := t1.rn
      have hsucc : IntKind.i64.wrap ((d : Int) + 1) = ((d + 1 : Nat) : Int) := by rw [IntKind.wrap_i64]; omega
      have hless : (n' - (d + 1)).succ.le (n' - d) ∨ ¬ d < n' := by
        by_cases hh : d < n'
        · exact .inl (by show n' - (d + 1) + 1 ≤ n' - d; omega)
        · exact .inr hh
      refine ⟨fun hlt => ?_, fun hlt => ?_⟩
      · have hlt' : d < n' := by have := of_decide_eq_true hlt; omega
        have hless : (n' - (d + 1)).succ.le (n' - d) := hless.resolve_right (fun hh => hh hlt')
        have hx := x_later (rP_x ok.g2 hlt') hl
        rw [wi_eq hx hm]
        refine ⟨⟨by omega, by omega⟩, fun hr => ?_, fun hr => ?_⟩
        · have hS := tk_ripe hS0 hr
          repeat' (first | apply And.intro | intro _)
          all_goals first | omega | skip
          all_goals
            rename_i c hc
            refine ⟨⟨d + 1, p, PW, cp, q, QW, cq, m + 1, apI m F (W' d 0), c, ad, p0, c0⟩, ?_⟩
            dsimp only
            repeat' (first
            | exact hS
            | exact hlt'
            | exact hsucc
            | exact hless
            | exact fun i hi => rowX (kQ (W' d 0) (W' d 1) (W' d 2) nw) (by assumption) hi
            | exact fun i hi => rowX (W' d) (by assumption) hi
            | exact fun i hi => rowY (kQ (W' d 0) (W' d 1) (W' d 2) nw) hi
            | exact fun i hi => rowY (W' d) hi
            | exact fun i hi => frX (by assumption) hi
            | exact fun i hi => frY hi
            | exact fun i hi => rowI
            | exact fun i hi => frI
            | exact (rfl : Value.slice _ _ _ = Value.slice _ _ _)
            | assumption
            | apply And.intro)
          all_goals omega
        · repeat' (first | apply And.intro | intro _)
          all_goals first | omega | exact qP_W (by omega) | exact qP_nil | exact t1 | exact rP_nil t1 | exact ok.g3 | exact hx.xv.1 | exact hx.xv.2 | exact hx.xc.1 | exact hx.xc.2 | skip
          all_goals first
            | (rename_i hp ad1 c hc c1 hc1
               have hp : paB L B nw p PW (W' d 1) (W' d 2) = true := by first | exact hp | (rw [hpz]; exact hp)
               have hS := tk_pass hS0 hr hp
               first
                | (refine ⟨⟨d + 1, p + 1, apW p PW (kQ (W' d 0) (W' d 1) (W' d 2) nw), c, q, QW, cq, m + 1, apI m F (W' d 0), c1, ad, p0, c0⟩, ?_⟩
                   dsimp only
                   repeat' (first
                   | exact hS
                   | exact hlt'
                   | exact hsucc
                   | exact hless
                   | exact fun i hi => rowX (kQ (W' d 0) (W' d 1) (W' d 2) nw) (by assumption) hi
                   | exact fun i hi => rowX (W' d) (by assumption) hi
                   | exact fun i hi => rowY (kQ (W' d 0) (W' d 1) (W' d 2) nw) hi
                   | exact fun i hi => rowY (W' d) hi
                   | exact fun i hi => frX (by assumption) hi
                   | exact fun i hi => frY hi
                   | exact fun i hi => rowI
                   | exact fun i hi => frI
                   | exact (rfl : Value.slice _ _ _ = Value.slice _ _ _)
                   | assumption
                   | apply And.intro)
                   all_goals omega)
                | (refine ⟨⟨d + 1, p + 1, apW p PW (kQ (W' d 0) (W' d 1) (W' d 2) nw), c, q, QW, cq, m + 1, apI m F (W' d 0), c1, ad1 0, p, p + cp⟩, ?_⟩
                   dsimp only
                   repeat' (first
                   | exact hS
                   | exact hlt'
                   | exact hsucc
                   | exact hless
                   | exact fun i hi => rowX (kQ (W' d 0) (W' d 1) (W' d 2) nw) (by assumption) hi
                   | exact fun i hi => rowX (W' d) (by assumption) hi
                   | exact fun i hi => rowY (kQ (W' d 0) (W' d 1) (W' d 2) nw) hi
                   | exact fun i hi => rowY (W' d) hi
                   | exact fun i hi => frX (by assumption) hi
                   | exact fun i hi => frY hi
                   | exact fun i hi => rowI
                   | exact fun i hi => frI
                   | exact (rfl : Value.slice _ _ _ = Value.slice _ _ _)
                   | assumption
                   | apply And.intro)
                   all_goals omega))
            | (rename_i hp c hc c1 hc1
               have hp : paB L B nw p PW (W' d 1) (W' d 2) = true := by first | exact hp | (rw [hpz]; exact hp)
               have hS := tk_pass hS0 hr hp
               first
                | (refine ⟨⟨d + 1, p + 1, apW p PW (kQ (W' d 0) (W' d 1) (W' d 2) nw), c, q, QW, cq, m + 1, apI m F (W' d 0), c1, ad, p0, c0⟩, ?_⟩
                   dsimp only
                   repeat' (first
                   | exact hS
                   | exact hlt'
                   | exact hsucc
                   | exact hless
                   | exact fun i hi => rowX (kQ (W' d 0) (W' d 1) (W' d 2) nw) (by assumption) hi
                   | exact fun i hi => rowX (W' d) (by assumption) hi
                   | exact fun i hi => rowY (kQ (W' d 0) (W' d 1) (W' d 2) nw) hi
                   | exact fun i hi => rowY (W' d) hi
                   | exact fun i hi => frX (by assumption) hi
                   | exact fun i hi => frY hi
                   | exact fun i hi => rowI
                   | exact fun i hi => frI
                   | exact (rfl : Value.slice _ _ _ = Value.slice _ _ _)
                   | assumption
                   | apply And.intro)
                   all_goals omega)
                | (refine ⟨⟨d + 1, p + 1, apW p PW (kQ (W' d 0) (W' d 1) (W' d 2) nw), c, q, QW, cq, m + 1, apI m F (W' d 0), c1, ad1 0, p, p + cp⟩, ?_⟩
                   dsimp only
                   repeat' (first
                   | exact hS
                   | exact hlt'
                   | exact hsucc
                   | exact hless
                   | exact fun i hi => rowX (kQ (W' d 0) (W' d 1) (W' d 2) nw) (by assumption) hi
                   | exact fun i hi => rowX (W' d) (by assumption) hi
                   | exact fun i hi => rowY (kQ (W' d 0) (W' d 1) (W' d 2) nw) hi
                   | exact fun i hi => rowY (W' d) hi
                   | exact fun i hi => frX (by assumption) hi
                   | exact fun i hi => frY hi
                   | exact fun i hi => rowI
                   | exact fun i hi => frI
                   | exact (rfl : Value.slice _ _ _ = Value.slice _ _ _)
                   | assumption
                   | apply And.intro)
                   all_goals omega))
            | (rename_i hp ad1 c hc
               have hp : paB L B nw p PW (W' d 1) (W' d 2) = false := by first | exact hp | (rw [hpz]; exact hp)
               have hS := tk_wait hS0 hr hp
               refine ⟨⟨d + 1, p, PW, cp, q + 1, apW q QW (W' d), c, m, F, cm, ad, p0, c0⟩, ?_⟩)
            | (rename_i hp c hc
               have hp : paB L B nw p PW (W' d 1) (W' d 2) = false := by first | exact hp | (rw [hpz]; exact hp)
               have hS := tk_wait hS0 hr hp
               refine ⟨⟨d + 1, p, PW, cp, q + 1, apW q QW (W' d), c, m, F, cm, ad, p0, c0⟩, ?_⟩)
          all_goals
            dsimp only
            repeat' (first
            | exact hS
            | exact hlt'
            | exact hsucc
            | exact hless
            | exact fun i hi => rowX (kQ (W' d 0) (W' d 1) (W' d 2) nw) (by assumption) hi
            | exact fun i hi => rowX (W' d) (by assumption) hi
            | exact fun i hi => rowY (kQ (W' d 0) (W' d 1) (W' d 2) nw) hi
            | exact fun i hi => rowY (W' d) hi
            | exact fun i hi => frX (by assumption) hi
            | exact fun i hi => frY hi
            | exact fun i hi => rowI
            | exact fun i hi => frI
            | exact (rfl : Value.slice _ _ _ = Value.slice _ _ _)
            | assumption
            | apply And.intro)
          all_goals omega
      · have ed : d = n' := by have := of_decide_eq_false hlt; omega
        rw [ed] at hS0
        have hTT := hT.trans hS0
        rw [hTT]
        dsimp only
        repeat' (first | exact fun i hi => rowI | exact fun i hi => rfl | assumption | rfl | apply And.intro)
        all_goals omega
def tiC : List (List FD) → List Prop
  | [[.y _, .y _, .i _, .x _ n _ f, .x _ n' _ f'], [.i _]] => [qP n f, qP n' f']
  | _ => [False]
def tiG : List (List FD) → List RS
  | [[.y L, .y B, .i now, .x _ n _ f, .x _ n' _ f'], [.i h]] => tiR L B (now + h) (tiE L B now n (jAt f) n' (jAt f') h) (tiT L B now n (jAt f) n' (jAt f') h)
  | _ => []
def cTi (sh : Bool) : SSpec := specQ0 sh [pqG, .one (.i .i64)] tiC tiG
theorem okx_Ti : CxOK Try.prog cxTi := okx_mark (okx_mark (okx_mark (okx_mark (okx_mark okx_nil))))
theorem ti_closed {L B : Nat → Int} {now e : Int} {T : Tk} : ∀ r ∈ tiR L B now e T, r.closed := by
  intro r hr
  unfold tiR at hr
  simp only [List.mem_cons, List.not_mem_nil, or_false] at hr
  rcases hr with rfl | rfl | rfl
  · intro k hk
    simp only [List.mem_cons, List.not_mem_nil, or_false] at hk
    rcases hk with rfl | rfl | rfl | rfl | rfl
    · exact trivial
    · exact trivial
    · exact trivial
    · exact fun _ _ _ _ => ⟨trivial, rfl⟩
    · exact fun _ _ _ _ => ⟨trivial, rfl⟩
  · exact trivial
  · exact trivial
theorem card_gti {gl : Globs} : FnOKs Try.prog gl 11 (cTi false) := by
  refine FnOKs.up0 (FnOKs_R0 (cx := cxTi) okx_Ti (sl := slTi) (oks_cons card_gck (oks_cons card_pa oks_nil)) Try.func11 (by kernel_rfl) (by kernel_rfl) fun ls hc => ?_) gl
  unfold tiC at hc
  split at hc
  · rename_i L B now a n cap f a' n' cap' f' h
    obtain ⟨p, p', _⟩ := hc
    refine ⟨_, _, [sG L B now a n cap (jAt f) a' n' cap' (jAt f'), sI .i64 h], fun ρ => rfl, fun E hE y hy => ?_, ti_closed, ok_gti L B now (now + h) a n cap (jAt f) a' n' cap' (jAt f') h _ _ p.tn p'.tn rfl rfl (fun _ => rfl)⟩
    rcases List.mem_cons.1 hy with rfl | hy
    · exact g_told p p' (hE _ (List.mem_cons_self ..))
    · exact hE y (List.mem_cons_of_mem _ hy)
  · exact hc.1.elim
end Go.Proofs.Ytjjlacoffbifbaa
end
