/-
  Texts: V275, P385, P386, V278, P389, V282, P393.
-/
import Derived.Test.YtjjlacoffbifbaaM1
import Derived.Test.YtjjlacoffbifbaaM2
import Derived.Test.YtjjlacoffbifbaaM3
import Derived.Test.YtjjlacoffbifbaaM4
import Derived.Test.YtjjlacoffbifbaaM5
import Derived.Test.YtjjlacoffbifbaaM6
import Derived.Test.YtjjlacoffbifbaaM7
import Derived.Test.YtjjlacoffbifbaaM8
import Derived.Test.YtjjlacoffbifbaaM9
import Derived.Test.YtjjlacoffbifbaaM10
section
namespace Go.Proofs.Ytjjlacoffbifbaa
open Go.Sx
set_option maxRecDepth 100000
def cxCh : Cx := ⟨[(16, cWo), (17, cCh), (14, cLiF), (18, cHaF), (1000000010, fun _ => none), (1000000012, fun _ => none), (1000000013, fun _ => none), (1000000014, fun _ => none)], [], 0, []⟩
def slCh : List (Nat × SSpec) := [(15, cCc)]
def invCh (L B : Nat → Int) (now : Int) (a : Option Addr) (n cap : Nat) (W : Nat → Nat → Int) (a' : Option Addr) (n' cap' : Nat) (W' : Nat → Nat → Int) : Inv where
  X := Nat × Option Addr × Nat
  tm d := slotsAt 80 [(1, .one (.sc (.ptr 0 0))), (3, .one (xQ d.2.1 (n + n') d.2.2 (qW (caW n W W')))), (42, .one (xQ d.2.1 (n + n') d.2.2 (qW (caW n W W')))), (43, .one (sI .i64 ((n + n' : Nat) : Int))), (44, .one (sI .i64 (d.1 : Int)))]
  ob _ := [obG L B now a n cap W a' n' cap' W']
  holds d := d.1 ≤ n + n' ∧ alB now (caW n W W') d.1 = true
  less d := n + n' - d.1
theorem vc_gck (L B : Nat → Int) (now : Int) (a : Option Addr) (n cap : Nat) (W : Nat → Nat → Int) (a' : Option Addr) (n' cap' : Nat) (W' : Nat → Nat → Int) (r : Int) :
    OwesR Try.prog cxCh slCh [(7, .inv (invCh L B now a n cap W a' n' cap' W'))] 10 Try.f6 [sG L B now a n cap W a' n' cap' W'] false [.v (sI .i64 r)] =
    (let x1 : Bool := Decidable.decide ((↑n : Int) > (40 : Int)); let x2 : Prop := (!x1) = Bool.true; let x3 : Bool := Decidable.decide (now < (0 : Int)); let x4 : Prop := (!x3) = Bool.true; let x5 : Bool := x3 || Decidable.decide (now > (1099511627776 : Int)); let x6 : Prop := (!x5) = Bool.true; let x7 : Bool := x5 || !liB L; let x8 : Prop := (!x7) = Bool.true; let x9 : Nat := xN ((flat ([SK.c (SC.xs a n cap 4 (qW W))] ++ toKs (SA.sc (SC.xs a' n' cap' 4 (qW W'))) ++ [])).getD 0 (SC.bit Bool.false)); let x10 : Nat := x9 + xN ((flat ([SK.c (SC.xs a n cap 4 (qW W))] ++ toKs (SA.sc (SC.xs a' n' cap' 4 (qW W'))) ++ [])).getD 1 (SC.bit Bool.false)); let x11 : Nat := n + n'; let x12 : Int := (↑x11 : Int); (x2 → x2) ∧ (x2 → x2) ∧ (x2 → x2) ∧ (x1 = Bool.false → x2) ∧ ((x1 || Decidable.decide ((↑n' : Int) > (40 : Int))) = Bool.true → (1 : Int) = r) ∧ ((x1 || Decidable.decide ((↑n' : Int) > (40 : Int))) = Bool.false → (x4 → x4) ∧ (x4 → x4) ∧ (x3 = Bool.false → x4) ∧ (x6 → x6) ∧ (x6 → x6) ∧ (x6 → x6) ∧ (x5 = Bool.false → x6) ∧ (x8 → x8) ∧ (x8 → x8) ∧ (x8 → x8) ∧ (x7 = Bool.false → x8) ∧ ((x7 || !liB B) = Bool.true → (12 : Int) = r) ∧ ((x7 || !liB B) = Bool.false → 2 ≤ 2 ∧ ∀ (_ : Go.Addr), 2 = 2 ∧ (twP fun (i c : Nat) => (flat ([SK.c (SC.xs a n cap 4 (qW W))] ++ toKs (SA.sc (SC.xs a' n' cap' 4 (qW W'))) ++ [])).getD (i * 1 + c) (SC.bit Bool.false)) ∧ ∀ (a_4 : Option Go.Addr) (cap_1 : Nat), (a_4 = Option.none → x10 = 0 ∧ cap_1 = 0) → x10 ≤ cap_1 → (∀ (y : Nat × Option Go.Addr × Nat), closedB (slotsAt 80 [(1, SV.one (SA.sc (SC.ptr 0 0))), (3, SV.one (xQ y.snd.fst x11 y.snd.snd (qW (caW n W W')))), (42, SV.one (xQ y.snd.fst x11 y.snd.snd (qW (caW n W W')))), (43, SV.one (sI Go.IntKind.i64 x12)), (44, SV.one (sI Go.IntKind.i64 (↑y.fst : Int)))]) [obG L B now a n cap W a' n' cap' W'] = Bool.true) ∧ ∃ (y : Nat × Option Go.Addr × Nat), (y.fst ≤ x11 ∧ alB now (caW n W W') y.fst = Bool.true) ∧ (a_4 = y.snd.fst ∧ x10 = x11 ∧ cap_1 = y.snd.snd ∧ ∀ (i : Nat), i < x10 → allC 4 fun (c : Nat) => simC (qW (caW x9 (jAt (xG ((flat ([SK.c (SC.xs a n cap 4 (qW W))] ++ toKs (SA.sc (SC.xs a' n' cap' 4 (qW W'))) ++ [])).getD 0 (SC.bit Bool.false)))) (jAt (xG ((flat ([SK.c (SC.xs a n cap 4 (qW W))] ++ toKs (SA.sc (SC.xs a' n' cap' 4 (qW W'))) ++ [])).getD 1 (SC.bit Bool.false))))) i c) (qW (caW n W W') i c)) ∧ (a_4 = y.snd.fst ∧ x10 = x11 ∧ cap_1 = y.snd.snd ∧ ∀ (i : Nat), i < x10 → allC 4 fun (c : Nat) => simC (qW (caW x9 (jAt (xG ((flat ([SK.c (SC.xs a n cap 4 (qW W))] ++ toKs (SA.sc (SC.xs a' n' cap' 4 (qW W'))) ++ [])).getD 0 (SC.bit Bool.false)))) (jAt (xG ((flat ([SK.c (SC.xs a n cap 4 (qW W))] ++ toKs (SA.sc (SC.xs a' n' cap' 4 (qW W'))) ++ [])).getD 1 (SC.bit Bool.false))))) i c) (qW (caW n W W') i c)) ∧ (↑x10 : Int) = x12 ∧ (0 : Int) = (↑y.fst : Int) ∧ (∀ (j : Nat), j < 3 → L j = L j) ∧ (∀ (j : Nat), j < 3 → B j = B j) ∧ now = now ∧ simC (SC.xs a n cap 4 (qW W)) (SC.xs a n cap 4 (qW W)) ∧ simC (SC.xs a' n' cap' 4 (qW W')) (SC.xs a' n' cap' 4 (qW W')) ∧ 0 = 0 ∧ ∀ (y : Nat × Option Go.Addr × Nat), let x101 : Prop := (!(!woB (caW n W W' (↑y.fst : Int).toNat 1) || !chB (caW n W W' (↑y.fst : Int).toNat 2))) = Bool.true; let x102 : Prop := (!(!woB (caW n W W' (↑y.fst : Int).toNat 1) || !chB (caW n W W' (↑y.fst : Int).toNat 2) || Decidable.decide (caW n W W' (↑y.fst : Int).toNat 3 < (0 : Int)))) = Bool.true; let x103 : Prop := (!(!woB (caW n W W' (↑y.fst : Int).toNat 1) || !chB (caW n W W' (↑y.fst : Int).toNat 2) || Decidable.decide (caW n W W' (↑y.fst : Int).toNat 3 < (0 : Int)) || Decidable.decide (caW n W W' (↑y.fst : Int).toNat 3 > now))) = Bool.true; y.fst ≤ x11 ∧ alB now (caW n W W') y.fst = Bool.true → (Decidable.decide ((↑y.fst : Int) < x12) = Bool.true → ((0 : Int) ≤ (↑y.fst : Int) ∧ (↑y.fst : Int) < x12) ∧ ((!!woB (caW n W W' (↑y.fst : Int).toNat 1)) = Bool.true → (!!woB (caW n W W' (↑y.fst : Int).toNat 1)) = Bool.true) ∧ ((!!woB (caW n W W' (↑y.fst : Int).toNat 1)) = Bool.true → (!!woB (caW n W W' (↑y.fst : Int).toNat 1)) = Bool.true) ∧ ((!!woB (caW n W W' (↑y.fst : Int).toNat 1)) = Bool.true → (!!woB (caW n W W' (↑y.fst : Int).toNat 1)) = Bool.true) ∧ ((!woB (caW n W W' (↑y.fst : Int).toNat 1)) = Bool.false → (!!woB (caW n W W' (↑y.fst : Int).toNat 1)) = Bool.true) ∧ (x101 → x101) ∧ (x101 → x101) ∧ ((!woB (caW n W W' (↑y.fst : Int).toNat 1) || !chB (caW n W W' (↑y.fst : Int).toNat 2)) = Bool.false → x101) ∧ (x102 → x102) ∧ (x102 → x102) ∧ (x102 → x102) ∧ (x102 → x102) ∧ ((!woB (caW n W W' (↑y.fst : Int).toNat 1) || !chB (caW n W W' (↑y.fst : Int).toNat 2) || Decidable.decide (caW n W W' (↑y.fst : Int).toNat 3 < (0 : Int))) = Bool.false → x102) ∧ (x103 → x103) ∧ (x103 → x103) ∧ (x103 → (0 : Int) ≤ (↑y.fst : Int) ∧ (↑y.fst : Int) ≤ x12) ∧ (x103 → x103) ∧ (x103 → x103) ∧ (x103 → x103) ∧ (x103 → qP (↑y.fst : Int).toNat (qW (caW n W W'))) ∧ ((!woB (caW n W W' (↑y.fst : Int).toNat 1) || !chB (caW n W W' (↑y.fst : Int).toNat 2) || Decidable.decide (caW n W W' (↑y.fst : Int).toNat 3 < (0 : Int)) || Decidable.decide (caW n W W' (↑y.fst : Int).toNat 3 > now)) = Bool.false → x103) ∧ ((!woB (caW n W W' (↑y.fst : Int).toNat 1) || !chB (caW n W W' (↑y.fst : Int).toNat 2) || Decidable.decide (caW n W W' (↑y.fst : Int).toNat 3 < (0 : Int)) || Decidable.decide (caW n W W' (↑y.fst : Int).toNat 3 > now) || haB (↑y.fst : Int).toNat (jAt (qW (caW n W W'))) (caW n W W' (↑y.fst : Int).toNat 0)) = Bool.true → (12 : Int) = r) ∧ ((!woB (caW n W W' (↑y.fst : Int).toNat 1) || !chB (caW n W W' (↑y.fst : Int).toNat 2) || Decidable.decide (caW n W W' (↑y.fst : Int).toNat 3 < (0 : Int)) || Decidable.decide (caW n W W' (↑y.fst : Int).toNat 3 > now) || haB (↑y.fst : Int).toNat (jAt (qW (caW n W W'))) (caW n W W' (↑y.fst : Int).toNat 0)) = Bool.false → ∃ (y' : Nat × Option Go.Addr × Nat), (y'.fst ≤ x11 ∧ alB now (caW n W W') y'.fst = Bool.true) ∧ (y.snd.fst = y'.snd.fst ∧ x11 = x11 ∧ y.snd.snd = y'.snd.snd ∧ ∀ (i : Nat), i < x11 → allC 4 fun (c : Nat) => simC (qW (caW n W W') i c) (qW (caW n W W') i c)) ∧ (y.snd.fst = y'.snd.fst ∧ x11 = x11 ∧ y.snd.snd = y'.snd.snd ∧ ∀ (i : Nat), i < x11 → allC 4 fun (c : Nat) => simC (qW (caW n W W') i c) (qW (caW n W W') i c)) ∧ x12 = x12 ∧ Go.IntKind.i64.wrap ((↑y.fst : Int) + (1 : Int)) = (↑y'.fst : Int) ∧ (∀ (j : Nat), j < 3 → L j = L j) ∧ (∀ (j : Nat), j < 3 → B j = B j) ∧ now = now ∧ simC (SC.xs a n cap 4 (qW W)) (SC.xs a n cap 4 (qW W)) ∧ simC (SC.xs a' n' cap' 4 (qW W')) (SC.xs a' n' cap' 4 (qW W')) ∧ 0 = 0 ∧ (x11 - y'.fst).succ.le (x11 - y.fst))) ∧ (Decidable.decide ((↑y.fst : Int) < x12) = Bool.false → (0 : Int) = r)))) := by kernel_rfl
end Go.Proofs.Ytjjlacoffbifbaa
end

section
namespace Go.Proofs.Ytjjlacoffbifbaa
open Go.Sx
set_option maxRecDepth 100000
theorem q_simL {a b : Option Addr} {n m cap dap : Nat} {W V : Nat → Nat → Int} (h1 : a = b) (h2 : n = m) (h3 : cap = dap) (h4 : W = V) : a = b ∧ n = m ∧ cap = dap ∧ ∀ i, i < n → allC 4 fun c => simC (qW W i c) (qW V i c) := by
  subst h4
  exact ⟨h1, h2, h3, fun _ _ => ⟨rfl, rfl, rfl, rfl⟩⟩
theorem qP_W {n : Nat} {W : Nat → Nat → Int} (h : n ≤ maxLen) : qP n (qW W) := ⟨h, fun _ _ _ _ => rfl⟩
theorem al_not {now : Int} {W : Nat → Nat → Int} {d n : Nat} (h : alB now W (d + 1) = false) (hd : d < n) : alB now W n = false := by
  induction n with
  | zero => omega
  | succ n ih =>
    by_cases e : d = n
    · subst e; exact h
    · show (alB now W n && _) = false
      rw [ih (by omega)]; rfl
theorem it_or {now v c t : Int} {hb : Bool} : (!woB v || !chB c || decide (t < 0) || decide (t > now) || hb) = !((woB v && chB c && upB t now) && !hb) := by
  unfold upB
  rw [show decide (t < 0) = !decide (0 ≤ t) by rw [← decide_not]; exact decide_eq_decide.2 (by omega), show decide (t > now) = !decide (t ≤ now) by rw [← decide_not]; exact decide_eq_decide.2 (by omega)]
  cases woB v <;> cases chB c <;> cases decide (0 ≤ t) <;> cases decide (t ≤ now) <;> cases hb <;> rfl
theorem ok_gck (L B : Nat → Int) (now : Int) (a : Option Addr) (n cap : Nat) (W : Nat → Nat → Int) (a' : Option Addr) (n' cap' : Nat) (W' : Nat → Nat → Int) :
    OwesR Try.prog cxCh slCh [(7, .inv (invCh L B now a n cap W a' n' cap' W'))] 10 Try.f6 [sG L B now a n cap W a' n' cap' W'] false [.v (sI .i64 (gtE L B now n W n' W'))] := by
  rw [vc_gck]
  have hML : maxLen = 9223372036854775807 := rfl
  simp only [q_simT, eq_self, implies_true, imp_self, and_true, true_and, Int.toNat_natCast]
  have hbig : (decide ((n : Int) > 40) || decide ((n' : Int) > 40)) = decide (40 < n ∨ 40 < n') := by
    rw [Bool.eq_iff_iff, Bool.or_eq_true, decide_eq_true_eq, decide_eq_true_eq, decide_eq_true_eq]; omega
  rw [hbig]
  refine ⟨fun h => (by simpa using h), fun h => ?_, fun h => ?_⟩
  · unfold gtE
    rw [if_pos (of_decide_eq_true h)]
  have hno := of_decide_eq_false h
  have hn : n ≤ 40 := by omega
  have hn' : n' ≤ 40 := by omega
  have hE : gtE L B now n W n' W' = if (upB now 1099511627776 && liB L && liB B && alB now (caW n W W') (n + n')) = true then 0 else 12 := by unfold gtE; rw [if_neg hno]
  have hhead : (decide (now < 0) || decide (now > 1099511627776) || !liB L || !liB B) = !(upB now 1099511627776 && liB L && liB B) := by
    unfold upB
    rw [show decide (now < 0) = !decide (0 ≤ now) by rw [← decide_not]; exact decide_eq_decide.2 (by omega), show decide (now > 1099511627776) = !decide (now ≤ 1099511627776) by rw [← decide_not]; exact decide_eq_decide.2 (by omega)]
    cases decide (0 ≤ now) <;> cases decide (now ≤ 1099511627776) <;> cases liB L <;> cases liB B <;> rfl
  rw [hhead]
  refine ⟨?_, ?_, ?_, fun h => ?_, fun h => ?_⟩
  · intro h; simpa using h
  · intro h; simpa using h
  · intro h; simpa using h
  · have h : (upB now 1099511627776 && liB L && liB B) = false := by rw [Bool.not_eq_true'] at h; exact h
    rw [hE, h]; rfl
  have hok : (upB now 1099511627776 && liB L && liB B) = true := by rw [Bool.not_eq_false'] at h; exact h
  rw [hok, Bool.true_and] at hE
  refine ⟨Nat.le_refl _, fun _ => ⟨⟨⟨a, n, cap, qW W, rfl, hn, qP_W (by omega)⟩, ⟨a', n', cap', qW W', rfl, hn', qP_W (by omega)⟩⟩, fun a4 c1 _ _ => ⟨fun _ => rfl, (0, a4, c1), ⟨Nat.zero_le _, rfl⟩, q_simL rfl rfl rfl rfl, q_simL rfl rfl rfl rfl, rfl, rfl, fun y hy => ?_⟩⟩⟩
  simp only [Bool.not_eq_true', Bool.not_eq_false', Bool.not_not, imp_self, true_and]
  obtain ⟨d, al, cl⟩ := y
  obtain ⟨hd, ha⟩ := hy
  have hd : d ≤ n + n' := hd
  have ha : alB now (caW n W W') d = true := ha
  refine ⟨fun hl => ?_, fun hl => ?_⟩
  · have hl : d < n + n' := by have := of_decide_eq_true hl; have : (d : Int) < ((n + n' : Nat) : Int) := this; omega
    refine ⟨⟨Int.natCast_nonneg _, Int.ofNat_lt.2 hl⟩, fun _ => ⟨Int.natCast_nonneg _, Int.ofNat_le.2 hd⟩, fun _ => qP_W (by show d ≤ _; omega), fun h => ?_, fun h => ⟨(d + 1, al, cl), ⟨hl, ?_⟩, ⟨rfl, rfl, fun _ _ => ⟨rfl, rfl, rfl, rfl⟩⟩, ⟨rfl, rfl, fun _ _ => ⟨rfl, rfl, rfl, rfl⟩⟩, ?_, ?_⟩⟩
    · have hf : alB now (caW n W W') (d + 1) = false := by
        show (alB now (caW n W W') d && (itB now (caW n W W') d && !haB d (caW n W W') (caW n W W' d 0))) = false
        rw [it_or, Bool.not_eq_true'] at h
        rw [ha, Bool.true_and]
        exact h
      rw [hE, al_not hf hl]; rfl
    · show (alB now (caW n W W') d && (itB now (caW n W W') d && !haB d (caW n W W') (caW n W W' d 0))) = true
      rw [it_or, Bool.not_eq_false'] at h
      rw [ha, Bool.true_and]
      exact h
    · show IntKind.i64.wrap ((d : Int) + 1) = ((d + 1 : Nat) : Int)
      rw [IntKind.wrap_i64]; omega
    · show n + n' - (d + 1) + 1 ≤ n + n' - d
      omega
  · have hl : ¬ (d : Int) < ((n + n' : Nat) : Int) := of_decide_eq_false hl
    have : d = n + n' := by omega
    rw [hE, ← this, ha]; rfl
def gcC : List (List FD) → List Prop
  | [[.y _, .y _, .i _, .x _ n _ f, .x _ n' _ f']] => [qP n f, qP n' f']
  | _ => [False]
def gcG : List (List FD) → List RS
  | [[.y L, .y B, .i now, .x _ n _ f, .x _ n' _ f']] => [.v (sI .i64 (gtE L B now n (jAt f) n' (jAt f')))]
  | _ => []
def cGc : SSpec := specQ0 false [pqG] gcC gcG
theorem okx_Ch : CxOK Try.prog cxCh := okx_cons card_gwo (okx_cons card_gch (okx_cons card_liF (okx_cons card_haF (okx_mark (okx_mark (okx_mark (okx_mark okx_nil)))))))
theorem card_gck {gl : Globs} : FnOKs Try.prog gl 6 cGc := by
  refine FnOKs.up0 (FnOKs_R0 (cx := cxCh) okx_Ch (sl := slCh) (oks_cons card_cc oks_nil) Try.func6 (by kernel_rfl) (by kernel_rfl) fun ls hc => ?_) gl
  unfold gcC at hc
  split at hc
  · rename_i L B now a n cap f a' n' cap' f'
    obtain ⟨p, p', _⟩ := hc
    refine ⟨_, _, [sG L B now a n cap (jAt f) a' n' cap' (jAt f')], fun ρ => rfl, fun E hE y hy => ?_, fun r hr => ?_, ok_gck L B now a n cap (jAt f) a' n' cap' (jAt f')⟩
    · rw [List.mem_singleton.1 hy]
      exact g_told p p' (hE _ (List.mem_cons_self ..))
    · rw [List.mem_singleton.1 hr]; exact trivial
  · exact hc.1.elim
end Go.Proofs.Ytjjlacoffbifbaa
end

section
namespace Go.Proofs.Ytjjlacoffbifbaa
open Go.Sx
set_option maxRecDepth 100000
theorem mp_nil (key : Nat → Int) (W : Nat → Nat → Int) : mpP 0 key W 0 :=
  ⟨fun x => ⟨fun ⟨i, hi, _⟩ => absurd hi (Nat.not_lt_zero i), fun h => (by cases h)⟩, Nat.le_refl _, rfl⟩
theorem mp_step {m : Nat} {key : Nat → Int} {W : Nat → Nat → Int} {d : Nat} (h : mpP m key W d) : mpP (mN m (mIx m key (W d 0))) (mK m key (W d 0)) W (d + 1) := by
  have hle := mIx_le m key (W d 0)
  have hlow : ∀ i, i < m → mK m key (W d 0) i = key i := fun i hi => by unfold mK; rw [beqF (by omega)]; rfl
  have hml := h.ml
  by_cases hf : mIx m key (W d 0) < m
  · have hN : mN m (mIx m key (W d 0)) = m := by unfold mN; rw [mHas_iff.2 hf]; rfl
    have hx : haB d W (W d 0) = true := (h.ks _).1 ⟨_, hf, mIx_key hf⟩
    rw [hN]
    refine ⟨fun x => ?_, by omega, ?_⟩
    · rw [ha_succ, Bool.or_eq_true, ← h.ks x]
      constructor
      · rintro ⟨i, hi, e⟩; rw [hlow i hi] at e; exact .inl ⟨i, hi, e⟩
      · rintro (⟨i, hi, e⟩ | e)
        · exact ⟨i, hi, by rw [hlow i hi]; exact e⟩
        · exact ⟨_, hf, by rw [hlow _ hf, mIx_key hf]; exact beq_iff_eq.1 e⟩
    · show decide (m = d + 1) = (diB W d && !haB d W (W d 0))
      rw [hx, Bool.not_true, Bool.and_false]
      exact decide_eq_false (by omega)
  · have he : mIx m key (W d 0) = m := by omega
    have hN : mN m (mIx m key (W d 0)) = m + 1 := by unfold mN; rw [mHas_no.2 (by omega)]; rfl
    have hx : haB d W (W d 0) = false := by
      rw [← Bool.not_eq_true]
      intro q
      obtain ⟨i, hi, e⟩ := (h.ks _).2 q
      exact mIx_none he i hi e
    have hm : mK m key (W d 0) m = W d 0 := by unfold mK; rw [Nat.beq_refl]; rfl
    rw [hN]
    refine ⟨fun x => ?_, by omega, ?_⟩
    · rw [ha_succ, Bool.or_eq_true, ← h.ks x]
      constructor
      · rintro ⟨i, hi, e⟩
        by_cases q : i = m
        · subst q; rw [hm] at e; exact .inr (beq_iff_eq.2 e)
        · have : i < m := by omega
          rw [hlow i this] at e; exact .inl ⟨i, this, e⟩
      · rintro (⟨i, hi, e⟩ | e)
        · exact ⟨i, by omega, by rw [hlow i hi]; exact e⟩
        · exact ⟨m, by omega, by rw [hm]; exact beq_iff_eq.1 e⟩
    · show decide (m + 1 = d + 1) = (diB W d && !haB d W (W d 0))
      rw [hx, Bool.not_false, Bool.and_true, ← h.md]
      exact decide_eq_decide.2 (by omega)
theorem ok_di (b : Bool) (now : Int) (W : Nat → Nat → Int) : ∀ d, (okD b now W d && diB W d) = (b && alB now W d)
  | 0 => rfl
  | d + 1 => by
    have ih := ok_di b now W d
    show (okD b now W d && itB now W d && (diB W d && !haB d W (W d 0))) = (b && (alB now W d && (itB now W d && !haB d W (W d 0))))
    revert ih
    cases okD b now W d <;> cases diB W d <;> cases b <;> cases alB now W d <;> cases itB now W d <;> simp
theorem g0_eq (L B : Nat → Int) (now : Int) : g0B L B now = (upB now 1099511627776 && liB L && liB B) := by
  unfold g0B liB
  show (upB now 1099511627776 && (woB (L 0) && woB (B 0)) && (woB (L 1) && woB (B 1)) && (woB (L 2) && woB (B 2))) = _
  cases upB now 1099511627776 <;> cases woB (L 0) <;> cases woB (B 0) <;> cases woB (L 1) <;> cases woB (B 1) <;> cases woB (L 2) <;> cases woB (B 2) <;> rfl
theorem it_up (now : Int) (W : Nat → Nat → Int) (j : Nat) : (upB (W j 1) 1073741824 && upB (W j 2) 2 && upB (W j 3) now) = itB now W j := by
  unfold itB
  rw [show chB (W j 2) = upB (W j 2) 2 by unfold chB upB; rw [show decide (W j 2 < 3) = decide (W j 2 ≤ 2) from decide_eq_decide.2 (by omega)]]
  rfl
section
variable {n n' : Nat} {W W' : Nat → Nat → Int}
theorem row_k {k d : Nat} (hk : k = 0 ∨ k = 1) (hd : d < ofK k n n') (c : Nat) : ofK k W W' d c = caW n W W' (stK n n' k + d) c := by
  rcases hk with rfl | rfl
  · have hd : d < n := hd
    show W d c = caW n W W' (0 + d) c
    unfold caW
    rw [Nat.zero_add, if_pos hd]
  · show W' d c = caW n W W' (n + d) c
    unfold caW
    rw [if_neg (by omega), Nat.add_sub_cancel_left]
theorem st_next {k : Nat} (hk : k = 0 ∨ k = 1) : stK n n' (k + 1) = stK n n' k + ofK k n n' := by
  rcases hk with rfl | rfl
  · show n = 0 + n
    omega
  · rfl
theorem st_le {k : Nat} : stK n n' k ≤ n + n' := by unfold stK; split <;> (try split) <;> omega
theorem of_le {k : Nat} : ofK k n n' ≤ n + n' := by unfold ofK; split <;> omega
theorem of_cast {k : Nat} : ofK k (n : Int) (n' : Int) = ((ofK k n n' : Nat) : Int) := by unfold ofK; split <;> rfl
theorem gf_round (L B : Nat → Int) (now : Int) (a a' : Option Addr) (cap cap' : Nat) (z : Mp) (hn : n ≤ 40) (hn' : n' ≤ 40) (hk : z.k = 0 ∨ z.k = 1) (hd : z.d < ofK z.k n n') (hm : mpP z.m z.key (caW n W W') (stK n n' z.k + z.d)) (k0 : Nat) (e0 : k0 = z.k) :
    ∃ y' : Mp, ((y'.d ≤ ofK y'.k n n' ∧ mpP y'.m y'.key (caW n W W') (stK n n' y'.k + y'.d)) ∧ k0 = y'.k) ∧
      (okD (g0B L B now) now (caW n W W') (stK n n' z.k + z.d) && upB (ofK z.k W W' z.d 1) 1073741824 && upB (ofK z.k W W' z.d 2) 2 && upB (ofK z.k W W' z.d 3) now) = okD (g0B L B now) now (caW n W W') (stK n n' y'.k + y'.d) ∧
      IntKind.i64.wrap (((stK n n' z.k + z.d : Nat) : Int) + 1) = ((stK n n' y'.k + y'.d : Nat) : Int) ∧ (z.k : Int) = (y'.k : Int) ∧
      (ofK z.k a a' = ofK y'.k a a' ∧ ofK z.k n n' = ofK y'.k n n' ∧ ofK z.k cap cap' = ofK y'.k cap cap' ∧ ∀ i : Nat, i < ofK z.k n n' → allC 4 fun c => simC (qW (ofK z.k W W') i c) (qW (ofK y'.k W W') i c)) ∧
      ofK z.k (n : Int) (n' : Int) = ofK y'.k (n : Int) (n' : Int) ∧ IntKind.i64.wrap ((z.d : Int) + 1) = (y'.d : Int) ∧
      mN z.m (mIx z.m z.key (ofK z.k W W' z.d 0)) = y'.m ∧ (∀ i : Nat, i < mN z.m (mIx z.m z.key (ofK z.k W W' z.d 0)) → mK z.m z.key (ofK z.k W W' z.d 0) i = y'.key i) ∧
      (∀ i : Nat, i < mN z.m (mIx z.m z.key (ofK z.k W W' z.d 0)) → allC 1 fun c => simC (mG (mIx z.m z.key (ofK z.k W W' z.d 0)) [.val (.int .i64 (IntKind.i64.wrap ((bif mHas z.m (mIx z.m z.key (ofK z.k W W' z.d 0)) then z.V (mIx z.m z.key (ofK z.k W W' z.d 0)) else 0) + 1)))] (fun i _ => .val (.int .i64 (z.V i))) i c) (.val (.int .i64 (y'.V i)))) ∧
      (ofK y'.k n n' - y'.d).succ.le (ofK z.k n n' - z.d) := by
  have h1 := st_le (n := n) (n' := n') (k := z.k)
  have h2 := of_le (n := n) (n' := n') (k := z.k)
  have er := row_k (W := W) (W' := W') hk hd
  refine ⟨⟨z.k, z.d + 1, _, _, fun i => cond (Nat.beq i (mIx z.m z.key (ofK z.k W W' z.d 0))) (IntKind.i64.wrap ((bif mHas z.m (mIx z.m z.key (ofK z.k W W' z.d 0)) then z.V (mIx z.m z.key (ofK z.k W W' z.d 0)) else 0) + 1)) (z.V i)⟩, ⟨⟨hd, ?_⟩, e0⟩, ?_, ?_, rfl, ⟨rfl, rfl, rfl, fun _ _ => ⟨rfl, rfl, rfl, rfl⟩⟩, rfl, ?_, rfl, fun _ _ => rfl, fun i _ => rfl, ?_⟩
  · have := mp_step hm
    rw [← er] at this
    exact this
  · show _ = (okD (g0B L B now) now (caW n W W') (stK n n' z.k + z.d) && itB now (caW n W W') (stK n n' z.k + z.d))
    rw [er, er, er, ← it_up]
    simp only [Bool.and_assoc]
  · show _ = ((stK n n' z.k + (z.d + 1) : Nat) : Int)
    rw [IntKind.wrap_i64]; omega
  · show _ = ((z.d + 1 : Nat) : Int)
    rw [IntKind.wrap_i64]; omega
  · show ofK z.k n n' - (z.d + 1) + 1 ≤ ofK z.k n n' - z.d
    omega
end
theorem ok_ggf (L B : Nat → Int) (now : Int) (a : Option Addr) (n cap : Nat) (W : Nat → Nat → Int) (a' : Option Addr) (n' cap' : Nat) (W' : Nat → Nat → Int) :
    OwesR Try.prog cxGf [] [(12, .inv (invGo L B now a n cap W a' n' cap' W')), (12, .split 50 2), (15, .invR (invGf L B now a n cap W a' n' cap' W') (fun y y' => y.k = y'.k))] 10 Try.f7 [sG L B now a n cap W a' n' cap' W'] false [.v (sI .i64 (gtE L B now n W n' W'))] := by
  rw [vc_ggf]
  simp only [q_simT, eq_self, implies_true, imp_self, and_true, true_and, Int.toNat_natCast, Bool.not_eq_true', Bool.not_eq_false', Bool.not_not]
  have hbig : (decide ((n : Int) > 40) || decide ((n' : Int) > 40)) = decide (40 < n ∨ 40 < n') := by
    rw [Bool.eq_iff_iff, Bool.or_eq_true, decide_eq_true_eq, decide_eq_true_eq, decide_eq_true_eq]; omega
  rw [hbig]
  refine ⟨fun h => ?_, fun h => ?_⟩
  · unfold gtE
    rw [if_pos (of_decide_eq_true h)]
  have hno := of_decide_eq_false h
  have hn : n ≤ 40 := by omega
  have hn' : n' ≤ 40 := by omega
  have hE : gtE L B now n W n' W' = if (okD (g0B L B now) now (caW n W W') (n + n') && diB (caW n W W') (n + n')) = true then 0 else 12 := by unfold gtE; rw [if_neg hno, ok_di, g0_eq]
  refine ⟨fun _ => rfl, ⟨0, 0, 0, fun _ => 0, fun _ => 0⟩, ⟨by decide, mp_nil _ _⟩, ?_, rfl, rfl, rfl, fun i hi => absurd hi (Nat.not_lt_zero i), fun i hi => absurd hi (Nat.not_lt_zero i), fun y hy => ?_⟩
  · show _ = g0B L B now
    unfold g0B
    simp only [Bool.and_assoc]
  obtain ⟨hy2, hyP⟩ := hy
  have hend : y.k = 2 → ((okD (g0B L B now) now (caW n W W') (stK n n' y.k) = true → okD (g0B L B now) now (caW n W W') (stK n n' y.k) = true ∧ (((y.m : Int) != ((stK n n' y.k : Nat) : Int)) = true → 12 = gtE L B now n W n' W') ∧ (((y.m : Int) != ((stK n n' y.k : Nat) : Int)) = false → 0 = gtE L B now n W n' W')) ∧ (okD (g0B L B now) now (caW n W W') (stK n n' y.k) = false → 12 = gtE L B now n W n' W')) := by
    intro e
    have es : stK n n' y.k = n + n' := by rw [e]; rfl
    rw [es] at hyP ⊢
    have hmd := hyP.md
    have hne : ((y.m : Int) != ((n + n' : Nat) : Int)) = !diB (caW n W W') (n + n') := by
      rw [← hmd, ← decide_not, Bool.eq_iff_iff, bne_iff_ne, decide_eq_true_eq]; omega
    rw [hne, hE]
    refine ⟨fun h => ⟨h, fun q => ?_, fun q => ?_⟩, fun h => ?_⟩
    · rw [Bool.not_eq_true'] at q; rw [q, Bool.and_false]; rfl
    · rw [Bool.not_eq_false'] at q; rw [q, h]; rfl
    · rw [h]; rfl
  have hinner : ∀ k : Nat, (k = 0 ∨ k = 1) → ∀ z : Mp, z.d ≤ ofK z.k n n' ∧ mpP z.m z.key (caW n W W') (stK n n' z.k + z.d) → k = z.k → decide ((z.d : Int) < ofK z.k (n : Int) (n' : Int)) = false →
      ∃ y' : Mp, (y'.k ≤ 2 ∧ mpP y'.m y'.key (caW n W W') (stK n n' y'.k)) ∧ okD (g0B L B now) now (caW n W W') (stK n n' z.k + z.d) = okD (g0B L B now) now (caW n W W') (stK n n' y'.k) ∧
        ((stK n n' z.k + z.d : Nat) : Int) = ((stK n n' y'.k : Nat) : Int) ∧ IntKind.i64.wrap ((z.k : Int) + 1) = (y'.k : Int) ∧ z.m = y'.m ∧ (∀ i : Nat, i < z.m → z.key i = y'.key i) ∧ (∀ i : Nat, i < z.m → allC 1 fun _ => simC (.val (.int .i64 (z.V i))) (.val (.int .i64 (y'.V i)))) ∧ (2 - y'.k).succ.le (2 - k) := by
    intro k hk z hz e hd
    subst e
    have hd := of_decide_eq_false hd
    rw [of_cast] at hd
    have ez : z.d = ofK z.k n n' := by have := hz.1; omega
    have es := st_next (n := n) (n' := n') hk
    rw [← ez] at es
    refine ⟨⟨z.k + 1, 0, z.m, z.key, z.V⟩, ⟨by show z.k + 1 ≤ 2; omega, by show mpP z.m z.key _ (stK n n' (z.k + 1)); rw [es]; exact hz.2⟩, by show _ = okD _ _ _ (stK n n' (z.k + 1)); rw [es], by show _ = ((stK n n' (z.k + 1) : Nat) : Int); rw [es], ?_, rfl, fun _ _ => rfl, fun _ _ => rfl, by show 2 - (z.k + 1) + 1 ≤ 2 - z.k; omega⟩
    show _ = ((z.k + 1 : Nat) : Int)
    rw [IntKind.wrap_i64]; omega
  have hlt : ∀ {z : Mp}, decide ((z.d : Int) < ofK z.k (n : Int) (n' : Int)) = true → z.d < ofK z.k n n' := fun h => by
    have h := of_decide_eq_true h
    rw [of_cast] at h; omega
  obtain ⟨k, d, m, key, V⟩ := y
  have hy2 : k ≤ 2 := hy2
  refine ⟨⟨Int.natCast_nonneg _, by show (k : Int) ≤ 2; omega⟩, ⟨fun e => ?_, fun e => ?_⟩, fun e => ?_⟩
  · obtain rfl : k = 0 := by have e : (k : Int) = 0 := e; omega
    refine ⟨fun _ => ⟨fun _ => rfl, ⟨0, 0, m, key, V⟩, ⟨Nat.zero_le _, hyP⟩, rfl, rfl, rfl, ⟨rfl, rfl, rfl, fun _ _ => ⟨rfl, rfl, rfl, rfl⟩⟩, rfl, rfl, rfl, fun _ _ => rfl, fun _ _ => rfl, fun z hz ez => ⟨fun h => ⟨⟨Int.natCast_nonneg _, Int.ofNat_lt.2 (hlt h)⟩, gf_round L B now a a' cap cap' z hn hn' (.inl ez.symm) (hlt h) hz.2 _ ez⟩, fun h => hinner 0 (.inl rfl) z hz ez h⟩⟩, fun h => ?_⟩
    exact absurd (of_decide_eq_false h) (by show ¬ ¬ ((0 : Nat) : Int) < 2; decide)
  · obtain rfl : k = 1 := by have e : (k : Int) = 1 := e; omega
    refine ⟨fun _ => ⟨fun _ => rfl, ⟨1, 0, m, key, V⟩, ⟨Nat.zero_le _, hyP⟩, rfl, rfl, rfl, ⟨rfl, rfl, rfl, fun _ _ => ⟨rfl, rfl, rfl, rfl⟩⟩, rfl, rfl, rfl, fun _ _ => rfl, fun _ _ => rfl, fun z hz ez => ⟨fun h => ⟨⟨Int.natCast_nonneg _, Int.ofNat_lt.2 (hlt h)⟩, gf_round L B now a a' cap cap' z hn hn' (.inr ez.symm) (hlt h) hz.2 _ ez⟩, fun h => hinner 1 (.inr rfl) z hz ez h⟩⟩, fun h => ?_⟩
    exact absurd (of_decide_eq_false h) (by show ¬ ¬ ((1 : Nat) : Int) < 2; decide)
  · obtain rfl : k = 2 := by have e : (k : Int) = 2 := e; omega
    refine ⟨fun h => absurd (of_decide_eq_true h) (by show ¬ ((2 : Nat) : Int) < 2; decide), fun _ => hend rfl⟩
theorem okx_Gf : CxOK Try.prog cxGf := okx_cons card_gup (okx_mark (okx_mark (okx_mark (okx_mark okx_nil))))
theorem card_ggf {gl : Globs} : FnOKs Try.prog gl 7 cGc := by
  refine FnOKs.up0 (FnOKs_R0 (cx := cxGf) okx_Gf (sl := []) oks_nil Try.func7 (by kernel_rfl) (by kernel_rfl) fun ls hc => ?_) gl
  unfold gcC at hc
  split at hc
  · rename_i L B now a n cap f a' n' cap' f'
    obtain ⟨p, p', _⟩ := hc
    refine ⟨_, _, [sG L B now a n cap (jAt f) a' n' cap' (jAt f')], fun ρ => rfl, fun E hE y hy => ?_, fun r hr => ?_, ok_ggf L B now a n cap (jAt f) a' n' cap' (jAt f')⟩
    · rw [List.mem_singleton.1 hy]
      exact g_told p p' (hE _ (List.mem_cons_self ..))
    · rw [List.mem_singleton.1 hr]; exact trivial
  · exact hc.1.elim
end Go.Proofs.Ytjjlacoffbifbaa
end

section
namespace Go.Proofs.Ytjjlacoffbifbaa
open Go.Sx
set_option maxRecDepth 100000
def apW (n : Nat) (W : Nat → Nat → Int) (x : Nat → Int) (i c : Nat) : Int := if i < n then W i c else x c
def zer (e x : Int) : Int := if e = 0 then x else 0
end Go.Proofs.Ytjjlacoffbifbaa
end

section
namespace Go.Proofs.Ytjjlacoffbifbaa
open Go.Sx
set_option maxRecDepth 100000
theorem al_it {now : Int} {W : Nat → Nat → Int} : ∀ {d : Nat}, alB now W d = true → ∀ j, j < d → itB now W j = true
  | 0, _, _, hj => absurd hj (Nat.not_lt_zero _)
  | d + 1, h, j, hj => by
    have h : (alB now W d && (itB now W d && !haB d W (W d 0))) = true := h
    simp only [Bool.and_eq_true] at h
    by_cases e : j = d
    · subst e; exact h.2.1
    · exact al_it h.1 j (by omega)
theorem li_P {L : Nat → Int} (h : liB L = true) : lP L := ⟨fun c hc => by
  unfold liB woB at h
  simp only [Bool.and_eq_true, decide_eq_true_eq] at h
  rcases (by omega : c = 0 ∨ c = 1 ∨ c = 2) with rfl | rfl | rfl
  · exact h.1.1
  · exact h.1.2
  · exact h.2⟩
structure gOK (L B : Nat → Int) (now : Int) (n : Nat) (W : Nat → Nat → Int) (n' : Nat) (W' : Nat → Nat → Int) : Prop where
  g1 : rP now n W
  g2 : rP now n' W'
  g3 : lP L
  g4 : lP B
  g5 : alB now (caW n W W') (n + n') = true
theorem gt_ok {L B : Nat → Int} {now : Int} {n : Nat} {W : Nat → Nat → Int} {n' : Nat} {W' : Nat → Nat → Int} (h : gtE L B now n W n' W' = 0) : gOK L B now n W n' W' := by
  unfold gtE at h
  by_cases hb : 40 < n ∨ 40 < n'
  · rw [if_pos hb] at h; cases h
  rw [if_neg hb] at h
  by_cases ho : (upB now 1099511627776 && liB L && liB B && alB now (caW n W W') (n + n')) = true
  · simp only [Bool.and_eq_true] at ho
    obtain ⟨⟨⟨h1, h2⟩, h3⟩, h4⟩ := ho
    have hup : 0 ≤ now ∧ now ≤ 1099511627776 := by
      unfold upB at h1
      simpa only [Bool.and_eq_true, decide_eq_true_eq] using h1
    have it : ∀ j, j < n + n' → (0 ≤ caW n W W' j 1 ∧ caW n W W' j 1 ≤ 1073741824) ∧ (0 ≤ caW n W W' j 2 ∧ caW n W W' j 2 < 3) ∧ (0 ≤ caW n W W' j 3 ∧ caW n W W' j 3 ≤ now) := fun j hj => by
      have := al_it h4 j hj
      unfold itB woB chB upB at this
      simp only [Bool.and_eq_true, decide_eq_true_eq] at this
      exact ⟨this.1.1, this.1.2, this.2⟩
    have i1 : ∀ j, j < n → ∀ c, caW n W W' j c = W j c := fun j hj c => by unfold caW; rw [if_pos hj]
    have i2 : ∀ j, j < n' → ∀ c, caW n W W' (n + j) c = W' j c := fun j hj c => by unfold caW; rw [if_neg (by omega), Nat.add_sub_cancel_left]
    refine ⟨⟨by omega, hup.1, hup.2, fun j hj => ?_, fun j hj => ?_, fun j hj => ?_⟩, ⟨by omega, hup.1, hup.2, fun j hj => ?_, fun j hj => ?_, fun j hj => ?_⟩, li_P h2, li_P h3, h4⟩
    · rw [← i1 j hj]; exact (it j (by omega)).1
    · rw [← i1 j hj]; exact (it j (by omega)).2.1
    · rw [← i1 j hj]; exact (it j (by omega)).2.2
    · rw [← i2 j hj]; exact (it (n + j) (by omega)).1
    · rw [← i2 j hj]; exact (it (n + j) (by omega)).2.1
    · rw [← i2 j hj]; exact (it (n + j) (by omega)).2.2
  · rw [if_neg ho] at h; cases h
section
variable {n : Nat} {W : Nat → Nat → Int} {id v c now : Int}
theorem ap_low {x : Nat → Int} {i : Nat} (hi : i < n) (d : Nat) : W i d = apW n W x i d := by unfold apW; rw [if_pos hi]
end
structure naP (a : Option Addr) (n : Nat) : Prop where
  na : a = none → n = 0
end Go.Proofs.Ytjjlacoffbifbaa
end

section
namespace Go.Proofs.Ytjjlacoffbifbaa
open Go.Sx
set_option maxRecDepth 100000
def fiD (now : Int) (W : Nat → Nat → Int) : Nat → Nat × (Nat → Nat → Int)
  | 0 => (0, fun _ _ => 0)
  | d + 1 => if wiB now (W d 3) = true then ((fiD now W d).1 + 1, apW (fiD now W d).1 (fiD now W d).2 (W d)) else fiD now W d
structure Tk where
  p : Nat
  PW : Nat → Nat → Int
  q : Nat
  QW : Nat → Nat → Int
  m : Nat
  F : Nat → Int
def apI (m : Nat) (F : Nat → Int) (x : Int) (i : Nat) : Int := if i < m then F i else x
def tkS (L B : Nat → Int) (now : Int) (x : Nat → Int) (s : Tk) : Tk :=
  if wiB now (x 3) = false then ⟨s.p, s.PW, s.q, s.QW, s.m + 1, apI s.m s.F (x 0)⟩
  else if paB L B now s.p s.PW (x 1) (x 2) = true then ⟨s.p + 1, apW s.p s.PW (kQ (x 0) (x 1) (x 2) now), s.q, s.QW, s.m + 1, apI s.m s.F (x 0)⟩
  else ⟨s.p, s.PW, s.q + 1, apW s.q s.QW x, s.m, s.F⟩
def tkD (L B : Nat → Int) (now : Int) (W' : Nat → Nat → Int) (s : Tk) : Nat → Tk
  | 0 => s
  | d + 1 => tkS L B now (W' d) (tkD L B now W' s d)
def tk0 (now : Int) (n : Nat) (W : Nat → Nat → Int) : Tk := ⟨(fiD now W n).1, (fiD now W n).2, 0, fun _ _ => 0, 0, fun _ => 0⟩
def tiE (L B : Nat → Int) (now : Int) (n : Nat) (W : Nat → Nat → Int) (n' : Nat) (W' : Nat → Nat → Int) (h : Int) : Int :=
  if gtE L B now n W n' W' ≠ 0 then gtE L B now n W n' W' else if h < 1 ∨ 1000 < h ∨ 1099511627776 < now + h then 6 else 0
def tiT (L B : Nat → Int) (now : Int) (n : Nat) (W : Nat → Nat → Int) (n' : Nat) (W' : Nat → Nat → Int) (h : Int) : Tk := tkD L B (now + h) W' (tk0 (now + h) n W) n'
def zeN (e : Int) (n : Nat) : Nat := if e = 0 then n else 0
def tiR (L B : Nat → Int) (now e : Int) (T : Tk) : List RS :=
  [.st [.k (.f .i64 3 fun j => zer e (L j)), .k (.f .i64 3 fun j => zer e (B j)), .k (.c (.val (.int .i64 (zer e now)))), .s (zeN e T.p) 4 (qW T.PW), .s (zeN e T.q) 4 (qW T.QW)], .s (zeN e T.m) .i64 T.F, .v (sI .i64 e)]
end Go.Proofs.Ytjjlacoffbifbaa
end

section
namespace Go.Proofs.Ytjjlacoffbifbaa
open Go.Sx
set_option maxRecDepth 100000
structure xOK (now : Int) (x : Nat → Int) : Prop where
  xv : 0 ≤ x 1 ∧ x 1 ≤ 1073741824
  xc : 0 ≤ x 2 ∧ x 2 < 3
  xt : 0 ≤ x 3 ∧ x 3 ≤ now
theorem rP_x {now : Int} {n : Nat} {W : Nat → Nat → Int} (h : rP now n W) {j : Nat} (hj : j < n) : xOK now (W j) := ⟨h.rv j hj, h.rc j hj, h.rt j hj⟩
theorem x_later {now nw : Int} {x : Nat → Int} (h : xOK now x) (hl : now ≤ nw) : xOK nw x := ⟨h.xv, h.xc, by have := h.xt; omega⟩
theorem rP_ap {now : Int} {n : Nat} {W : Nat → Nat → Int} {x : Nat → Int} (h : rP now n W) (hn : n < 40) (hx : xOK now x) : rP now (n + 1) (apW n W x) := by
  have key : ∀ j, j < n + 1 → xOK now (apW n W x j) := fun j hj => by
    unfold apW
    by_cases e : j < n
    · simp only [if_pos e]; exact rP_x h e
    · simp only [if_neg e]; exact hx
  exact ⟨hn, h.r0, h.r1, fun j hj => (key j hj).xv, fun j hj => (key j hj).xc, fun j hj => (key j hj).xt⟩
theorem fi_ok {now nw : Int} {n : Nat} {W : Nat → Nat → Int} (h : rP now n W) (hl : now ≤ nw) (hm : nw ≤ 1099511627776) : ∀ d, d ≤ n → (fiD nw W d).1 ≤ d ∧ rP nw (fiD nw W d).1 (fiD nw W d).2
  | 0, _ => ⟨Nat.le_refl _, ⟨by show 0 ≤ 40; omega, by have := h.r0; omega, hm, fun j hj => absurd hj (Nat.not_lt_zero j), fun j hj => absurd hj (Nat.not_lt_zero j), fun j hj => absurd hj (Nat.not_lt_zero j)⟩⟩
  | d + 1, hd => by
    obtain ⟨i1, i2⟩ := fi_ok h hl hm d (by omega)
    have hn := h.rn
    unfold fiD
    split
    · exact ⟨by show (fiD nw W d).1 + 1 ≤ d + 1; omega, rP_ap i2 (by omega) (x_later (rP_x h (by omega)) hl)⟩
    · exact ⟨by omega, i2⟩
structure tkOK (nw : Int) (d : Nat) (s : Tk) : Prop where
  t1 : rP nw s.p s.PW
  t2 : s.q ≤ d
  t3 : s.m ≤ d
theorem tk_ok {L B : Nat → Int} {now nw : Int} {n : Nat} {W : Nat → Nat → Int} {n' : Nat} {W' : Nat → Nat → Int} (g : gOK L B now n W n' W') (hl : now ≤ nw) (hm : nw ≤ 1099511627776) : ∀ d, d ≤ n' → tkOK nw d (tkD L B nw W' (tk0 nw n W) d)
  | 0, _ => ⟨(fi_ok g.g1 hl hm n (Nat.le_refl _)).2, Nat.le_refl _, Nat.le_refl _⟩
  | d + 1, hd => by
    have ih := tk_ok g hl hm d (by omega)
    have hx := x_later (rP_x g.g2 (j := d) (by omega)) hl
    have h0 := ih.t1.r0
    show tkOK nw (d + 1) (tkS L B nw (W' d) (tkD L B nw W' (tk0 nw n W) d))
    unfold tkS
    split
    · exact ⟨ih.t1, Nat.le_succ_of_le ih.t2, Nat.succ_le_succ ih.t3⟩
    · split
      · rename_i hp
        unfold paB at hp
        simp only [Bool.and_eq_true, decide_eq_true_eq] at hp
        refine ⟨rP_ap ih.t1 hp.2 ⟨hx.xv, hx.xc, ?_⟩, Nat.le_succ_of_le ih.t2, Nat.succ_le_succ ih.t3⟩
        show 0 ≤ nw ∧ nw ≤ nw
        omega
      · exact ⟨ih.t1, Nat.succ_le_succ ih.t2, Nat.le_succ_of_le ih.t3⟩
end Go.Proofs.Ytjjlacoffbifbaa
end
