/-
  Texts: P340, P341, P342, V221, P343, V205, P325, V206, P327, V222, P344.
-/
import Derived.Test.YtnomjdechekapaaM1
import Derived.Test.YtnomjdechekapaaM2
import Derived.Test.YtnomjdechekapaaM3
import Derived.Test.YtnomjdechekapaaM4
import Derived.Test.YtnomjdechekapaaM5
import Derived.Test.YtnomjdechekapaaM6
import Derived.Test.YtnomjdechekapaaM7
import Derived.Test.YtnomjdechekapaaM8
import Derived.Test.YtnomjdechekapaaM9
import Derived.Test.YtnomjdechekapaaM10
import Derived.Test.YtnomjdechekapaaM11
section
namespace Go.Proofs.Ytnomjdechekapaa
open Go.Sx
set_option maxRecDepth 100000
theorem sm_mono (f : Nat → Nat) {i j : Nat} (h : i ≤ j) : sm f i ≤ sm f j := by
  induction j with
  | zero => rw [Nat.le_zero.1 h]; exact Nat.le_refl _
  | succ j ih =>
    rcases Nat.lt_or_ge i (j + 1) with hl | hl
    · exact Nat.le_trans (ih (by omega)) (by simp only [sm]; omega)
    · rw [show i = j + 1 by omega]; exact Nat.le_refl _
theorem sm_up (f : Nat → Nat) {i n : Nat} (h : i < n) : sm f i + f i ≤ sm f n := sm_mono f (show i + 1 ≤ n from h)
theorem wh_at (f : Nat → Nat) : (n : Nat) → (i : Nat) → (j : Nat) → i < n → j < f i → wh f n (sm f i + j) = i
  | 0, _, _, h, _ => absurd h (Nat.not_lt_zero _)
  | k + 1, i, j, h, hj => by
    simp only [wh]
    rcases Nat.lt_or_ge i k with hl | hl
    · rw [if_pos (by have := sm_up f hl; omega), wh_at f k i j hl hj]
    · rw [show i = k by omega, if_neg (by omega)]
theorem sm_congr {f g : Nat → Nat} : (n : Nat) → (∀ i, i < n → f i = g i) → sm f n = sm g n
  | 0, _ => rfl
  | k + 1, h => by simp only [sm]; rw [sm_congr k (fun i hi => h i (by omega)), h k (by omega)]
theorem sm_le {f : Nat → Nat} {b : Nat} : (n : Nat) → (∀ i, i < n → f i ≤ b) → sm f n ≤ n * b
  | 0, _ => by simp [sm]
  | k + 1, h => by
    simp only [sm]
    have h1 := sm_le k (fun i hi => h i (by omega))
    have h2 := h k (by omega)
    rw [Nat.succ_mul]; omega
theorem zz_le (f : Nat → Nat) (S : Nat) : (k : Nat) → zz f S k ≤ sm f k
  | 0 => Nat.le_refl _
  | k + 1 => by
    have := zz_le f S k
    simp only [zz, sm, offS]
    split <;> omega
theorem zz_at {f : Nat → Nat} {S : Nat} : (k : Nat) → sm f k < S → zz f S k = sm f k
  | 0, _ => rfl
  | k + 1, h => by
    simp only [sm] at h
    simp only [zz, sm, offS]
    rw [if_neg (by omega), zz_at k (by omega)]
theorem val_refl {k : IntKind} {v : Int} : simC (.val (.int k v)) (.val (.int k v)) := by
  unfold simC; simp only [noX]
  unfold sameC asV
  cases k <;> rfl
theorem num_sim {k : IntKind} {v : Int} : simC (.num k v) (.val (.int k v)) := by
  unfold simC; simp only [noX]
  unfold sameC asV
  cases k <;> rfl
section
variable {N : Nat → Nat} {M CX : Nat → Nat → Nat} {V : Nat → Nat → Nat → Int} {AX : Nat → Nat → Option Addr} {B : Nat → Nat → Nat → Int} {n k j o : Nat}
theorem cI_at (hk : k < n) (hj : j < N k) : cI N n (sm N k + j) = k := wh_at N n k j hk hj
theorem cJ_at (hk : k < n) (hj : j < N k) : cJ N n (sm N k + j) = j := by unfold cJ; rw [wh_at N n k j hk hj]; omega
theorem cM_at (hk : k < n) (hj : j < N k) : cM N M n (sm N k + j) = M k j := by unfold cM; rw [cI_at hk hj, cJ_at hk hj]
theorem cF_at (hk : k < n) (hj : j < N k) (c : Nat) : cF N V M n o (sm N k + j) c = match Nat.blt c 108 with
    | true => .val (.int (clK c) (V k j c))
    | false => .slw o 1 (zz (cM N M n) (sm (cM N M n) (sm N n)) (sm N k + j)) (M k j) (M k j) := by
  unfold cF; rw [cI_at hk hj, cJ_at hk hj, cM_at hk hj]
  cases Nat.blt c 108 <;> rfl
theorem cx_in (hk : k < n) (hj : j < N k) : sm N k + j < sm N n := by have := sm_up N hk; omega
theorem cB_at (hk : k < n) (hj : j < N k) {r : Nat} (hr : r < M k j) : cB N M B n (sm (cM N M n) (sm N k + j) + r) = B k j r := by
  have hw : wh (cM N M n) (sm N n) (sm (cM N M n) (sm N k + j) + r) = sm N k + j := wh_at _ _ _ _ (cx_in hk hj) (by rw [cM_at hk hj]; exact hr)
  unfold cB; rw [hw, cI_at hk hj, cJ_at hk hj, Nat.add_sub_cancel_left]
theorem cF_refl (x c : Nat) : simC (cF N V M n o x c) (cF N V M n o x c) := by
  unfold cF
  split
  · exact val_refl
  · exact ⟨rfl, rfl, rfl, rfl, rfl⟩
theorem cZ_refl (c : Nat) : simC (cZ c) (cZ c) := by
  unfold cZ
  split
  · exact val_refl
  · exact rfl
theorem owK_refl (x c : Nat) : simC (owK N V M n o k x c) (owK N V M n o k x c) := by
  unfold owK
  split
  · exact cF_refl x c
  · exact cZ_refl c
theorem owJ_refl (x c : Nat) : simC (owJ N V AX M CX B n o k j x c) (owJ N V AX M CX B n o k j x c) := by
  unfold owJ
  split
  · exact cF_refl x c
  · split
    · exact cl_refl
    · exact cZ_refl c
theorem owJ_end (x c : Nat) : owJ N V AX M CX B n o k (N k) x c = owK N V M n o (k + 1) x c := by
  unfold owJ owK
  show _ = if x < sm N k + N k then _ else _
  split
  · rfl
  · rfl
theorem own_copy {S z : Nat} (hz : N k = 0 ∨ z = sm N k) (i c : Nat) (hS : S = N k) :
    simC (bif decide (z ≤ i) && decide (i < z + S) then clF (V k) (AX k) (M k) (CX k) (B k) (i - z) c else owK N V M n o k i c) (owJ N V AX M CX B n o k 0 i c) := by
  subst hS
  have key : (bif decide (z ≤ i) && decide (i < z + N k) then clF (V k) (AX k) (M k) (CX k) (B k) (i - z) c else owK N V M n o k i c) = owJ N V AX M CX B n o k 0 i c := by
    unfold owJ owK
    rw [Nat.add_zero]
    rcases hz with hz | hz
    · rw [show (decide (z ≤ i) && decide (i < z + N k)) = false from by rw [hz]; simp only [Bool.and_eq_false_iff, decide_eq_false_iff_not]; omega]
      show (if i < sm N k then _ else _) = _
      by_cases h : i < sm N k
      · rw [if_pos h, if_pos h]
      · rw [if_neg h, if_neg h, if_neg (by omega)]
    · subst hz
      by_cases h : i < sm N k
      · rw [show (decide (sm N k ≤ i) && decide (i < sm N k + N k)) = false from by simp only [Bool.and_eq_false_iff, decide_eq_false_iff_not]; omega]
        show (if i < sm N k then _ else _) = _
        rw [if_pos h, if_pos h]
      · rw [if_neg h]
        by_cases h2 : i < sm N k + N k
        · rw [show (decide (sm N k ≤ i) && decide (i < sm N k + N k)) = true from by simp only [Bool.and_eq_true, decide_eq_true_eq]; omega, if_pos h2, if_neg h]; rfl
        · rw [show (decide (sm N k ≤ i) && decide (i < sm N k + N k)) = false from by simp only [Bool.and_eq_false_iff, decide_eq_false_iff_not]; omega, if_neg h2, if_neg h]; rfl
  rw [key]
  exact owJ_refl i c
theorem own_step (hk : k < n) (hj : j < N k) {z m : Nat} (hz : z = zz (cM N M n) (sm (cM N M n) (sm N n)) (sm N k + j)) (hm : m = M k j) (i c : Nat) (hc : c < 109) :
    simC (setN (owJ N V AX M CX B n 5 k j) (sm N k + j) 108 (flat (toKs (SA.sc (SC.slw 5 1 z m m)))) i c) (owJ N V AX M CX B n 5 k (j + 1) i c) := by
  subst hz hm
  have key : setN (owJ N V AX M CX B n 5 k j) (sm N k + j) 108 (flat (toKs (SA.sc (SC.slw 5 1 (zz (cM N M n) (sm (cM N M n) (sm N n)) (sm N k + j)) (M k j) (M k j))))) i c = owJ N V AX M CX B n 5 k (j + 1) i c := by
    by_cases h8 : c < 108
    · have hb : Nat.ble 108 c = false := by
        cases h : Nat.ble 108 c
        · rfl
        · have := Nat.le_of_ble_eq_true h; omega
      have hb2 : Nat.blt c 108 = true := by simpa [Nat.blt_eq] using h8
      unfold setN
      rw [hb]
      show owJ N V AX M CX B n 5 k j i c = _
      unfold owJ
      by_cases h1 : i < sm N k + j
      · rw [if_pos h1, if_pos (by omega)]
      · rw [if_neg h1]
        by_cases h2 : i = sm N k + j
        · subst h2
          rw [if_pos (by omega), if_pos (by omega), cF_at hk hj c, hb2]
          unfold clF
          rw [hb2, Nat.add_sub_cancel_left]
        · rw [if_neg (show ¬ i < sm N k + (j + 1) by omega)]
    · have e : c = 108 := by omega
      subst e
      show cond (decide (i = sm N k + j)) (SC.slw 5 1 (zz (cM N M n) (sm (cM N M n) (sm N n)) (sm N k + j)) (M k j) (M k j)) (owJ N V AX M CX B n 5 k j i 108) = _
      by_cases h2 : i = sm N k + j
      · subst h2
        rw [decide_eq_true rfl]
        unfold owJ
        rw [if_pos (show sm N k + j < sm N k + (j + 1) by omega), cF_at hk hj 108]
        rfl
      · rw [decide_eq_false h2]
        show owJ N V AX M CX B n 5 k j i 108 = _
        unfold owJ
        by_cases h1 : i < sm N k + j
        · rw [if_pos h1, if_pos (by omega)]
        · rw [if_neg h1, if_neg (show ¬ i < sm N k + (j + 1) by omega)]
  rw [key]
  exact owJ_refl i c
theorem own_paper (hk : k < n) (hj : j < N k) {z m : Nat} {g : Nat → Nat → SC} (hg : ∀ r c, g r c = .val (.int .u8 (B k j r))) (hz : M k j = 0 ∨ z = sm (cM N M n) (sm N k + j)) (hm : m = M k j) (q c : Nat) :
    simC (selC (decide (z ≤ q) && decide (q < z + m)) (g (q - z) c) (owP N M B n (sm N k + j) q c)) (owP N M B n (sm N k + (j + 1)) q c) := by
  subst hm
  rw [hg]
  have es : sm (cM N M n) (sm N k + (j + 1)) = sm (cM N M n) (sm N k + j) + M k j := by
    show sm (cM N M n) (sm N k + j) + cM N M n (sm N k + j) = _
    rw [cM_at hk hj]
  have key : cond (decide (z ≤ q) && decide (q < z + M k j)) (B k j (q - z)) (if q < sm (cM N M n) (sm N k + j) then cB N M B n q else 0) = if q < sm (cM N M n) (sm N k + (j + 1)) then cB N M B n q else 0 := by
    rw [es]
    rcases hz with hz | hz
    · rw [hz, Nat.add_zero, Nat.add_zero, show (decide (z ≤ q) && decide (q < z)) = false from by simp only [Bool.and_eq_false_iff, decide_eq_false_iff_not]; omega]
      rfl
    · subst hz
      by_cases h : q < sm (cM N M n) (sm N k + j)
      · rw [show (decide (sm (cM N M n) (sm N k + j) ≤ q) && decide (q < sm (cM N M n) (sm N k + j) + M k j)) = false from by simp only [Bool.and_eq_false_iff, decide_eq_false_iff_not]; omega, if_pos h, if_pos (by omega)]
        rfl
      · by_cases h2 : q < sm (cM N M n) (sm N k + j) + M k j
        · rw [show (decide (sm (cM N M n) (sm N k + j) ≤ q) && decide (q < sm (cM N M n) (sm N k + j) + M k j)) = true from by simp only [Bool.and_eq_true, decide_eq_true_eq]; omega, if_pos h2]
          have := cB_at (M := M) (B := B) hk hj (r := q - sm (cM N M n) (sm N k + j)) (by omega)
          rw [show sm (cM N M n) (sm N k + j) + (q - sm (cM N M n) (sm N k + j)) = q by omega] at this
          exact this.symm
        · rw [show (decide (sm (cM N M n) (sm N k + j) ≤ q) && decide (q < sm (cM N M n) (sm N k + j) + M k j)) = false from by simp only [Bool.and_eq_false_iff, decide_eq_false_iff_not]; omega, if_neg h, if_neg h2]
          rfl
  show simC (.val (.int .u8 (cond (decide (z ≤ q) && decide (q < z + M k j)) (B k j (q - z)) (if q < sm (cM N M n) (sm N k + j) then cB N M B n q else 0)))) (.val (.int .u8 (if q < sm (cM N M n) (sm N k + (j + 1)) then cB N M B n q else 0)))
  rw [key]
  exact val_refl
end
section
variable {P H : Nat → Int} {N : Nat → Nat} {n k : Nat}
theorem owB_refl (i c : Nat) : simC (owB P H N n 3 k i c) (owB P H N n 3 k i c) := by
  unfold owB
  split
  · split
    · exact rfl
    · exact rfl
    · exact ⟨rfl, rfl, rfl, rfl, rfl⟩
  · split <;> exact rfl
theorem owB_step (i : Nat) {z m k2 : Nat} (hz : z = zz N (sm N n) k) (hm : m = N k) (h2 : k2 = k) :
    allC 3 fun c => simC (setN (owB P H N n 3 k) k2 0 (flat (toKs (SA.agg [SK.c (SC.val (.int .i64 (P k))), SK.c (SC.val (.int .i64 (H k))), SK.c (SC.slw 3 109 z m m)]))) i c) (owB P H N n 3 (k + 1) i c) := by
  subst hz hm h2
  have key : ∀ c (x : SC), x = owB P H N n 3 (k2 + 1) k2 c → cond (decide (i = k2)) x (owB P H N n 3 k2 i c) = owB P H N n 3 (k2 + 1) i c := fun c x hx => by
    by_cases h : i = k2
    · subst h; rw [decide_eq_true rfl, hx]; rfl
    · rw [decide_eq_false h]
      show owB P H N n 3 k2 i c = _
      unfold owB
      by_cases h1 : i < k2
      · rw [if_pos h1, if_pos (by omega)]
      · rw [if_neg h1, if_neg (by omega)]
  have at_ : ∀ c, owB P H N n 3 (k2 + 1) k2 c = match c with
    | 0 => .val (.int .i64 (P k2))
    | 1 => .val (.int .i64 (H k2))
    | _ => .slw 3 109 (zz N (sm N n) k2) (N k2) (N k2) := fun c => if_pos (Nat.lt_succ_self _)
  refine ⟨?_, ?_, ?_⟩
  · show simC (cond (decide (i = k2)) (.val (.int .i64 (P k2))) (owB P H N n 3 k2 i 0)) _
    rw [key 0 (.val (.int .i64 (P k2))) (at_ 0).symm]; exact owB_refl i 0
  · show simC (cond (decide (i = k2)) (.val (.int .i64 (H k2))) (owB P H N n 3 k2 i 1)) _
    rw [key 1 (.val (.int .i64 (H k2))) (at_ 1).symm]; exact owB_refl i 1
  · show simC (cond (decide (i = k2)) (.slw 3 109 (zz N (sm N n) k2) (N k2) (N k2)) (owB P H N n 3 k2 i 2)) _
    rw [key 2 (.slw 3 109 (zz N (sm N n) k2) (N k2) (N k2)) (at_ 2).symm]; exact owB_refl i 2
end
def zOK (L : List SC) : Nat → Bool
  | 0 => true
  | c + 1 => zOK L c && (match L.getD c (.bit false) with
    | .num k v => Nat.blt c 108 && (decide (k = clK c) && decide (v = 0))
    | .val (.slice none 0 0) => !Nat.blt c 108
    | _ => false)
theorem zOK_at {L : List SC} : (k : Nat) → zOK L k = true → ∀ c, c < k → simC (L.getD c (.bit false)) (cZ c)
  | 0, _, c, hc => absurd hc (Nat.not_lt_zero c)
  | k + 1, h, c, hc => by
    simp only [zOK, Bool.and_eq_true] at h
    obtain ⟨h1, h2⟩ := h
    rcases Nat.lt_or_ge c k with hl | hl
    · exact zOK_at k h1 c hl
    · have e : c = k := by omega
      subst e
      split at h2
      · rename_i kd v e
        simp only [Bool.and_eq_true, decide_eq_true_eq] at h2
        rw [e]
        unfold cZ
        rw [h2.1, h2.2.1, h2.2.2]
        exact num_sim
      · rename_i e
        rw [e]
        unfold cZ
        rw [show Nat.blt c 108 = false from by rw [Bool.not_eq_true'] at h2; exact h2]
        exact rfl
      · cases h2
end Go.Proofs.Ytnomjdechekapaa
end

section
namespace Go.Proofs.Ytnomjdechekapaa
open Go.Sx
set_option maxRecDepth 100000
theorem blk_sim {a : Option Addr} {n cap : Nat} {P H : Nat → Int} {A : Nat → Option Addr} {N C : Nat → Nat} {V : Nat → Nat → Nat → Int} {AX : Nat → Nat → Option Addr} {M CX : Nat → Nat → Nat} {B : Nat → Nat → Nat → Int} :
    simC (.xs a n cap 3 (blkF P H A N C fun i => clF (V i) (AX i) (M i) (CX i) (B i))) (.xs a n cap 3 (blkF P H A N C fun i => clF (V i) (AX i) (M i) (CX i) (B i))) := ⟨rfl, rfl, rfl, fun _ _ => ⟨rfl, rfl, clP_cl.refl⟩⟩
theorem ok_on (a : Option Addr) (n cap : Nat) (P H : Nat → Int) (A : Nat → Option Addr) (N C : Nat → Nat) (V : Nat → Nat → Nat → Int) (AX : Nat → Nat → Option Addr) (M CX : Nat → Nat → Nat) (B : Nat → Nat → Nat → Int) (best fin : Int) (hn : n ≤ 41) (hN : ∀ i, i < n → N i ≤ 6) (hQ : sm (cM N M n) (sm N n) ≤ 281474976710656) :
    OwesR Try.prog .none [] [(4, .inv (owI a n cap P H A N C V AX M CX B best fin)), (8, .invR (owL a n cap P H A N C V AX M CX B best fin) (fun y0 y => y.1 = y0.1)), (15, .split 4 3), ((28 + 1) * 100000 + 3, .inv (roI a n cap P H A N C V AX M CX B best fin)), ((28 + 1) * 100000 + 7, .invR (roJ a n cap P H A N C V AX M CX B best fin) (fun y0 y => y.1 = y0.1))] 2 Try.f23 [sTr a n cap (blkF P H A N C (fun i => clF (V i) (AX i) (M i) (CX i) (B i))) best fin] true (onR P H N V M B n best fin) := by
  rw [vc_on]
  have xx := blk_sim (a := a) (n := n) (cap := cap) (P := P) (H := H) (A := A) (N := N) (C := C) (V := V) (AX := AX) (M := M) (CX := CX) (B := B)
  have hS : sm N n ≤ 246 := by have := sm_le n hN; omega
  have up : ∀ k j, k < n → j < N k → sm (cM N M n) (sm N k + j) + M k j ≤ sm (cM N M n) (sm N n) := fun k j hk hj => by
    have := sm_up (cM N M n) (cx_in hk hj)
    rwa [cM_at hk hj] at this
  have su : ∀ k j, k < n → j < N k → sm (cM N M n) (sm N k + (j + 1)) = sm (cM N M n) (sm N k + j) + M k j := fun k j hk hj => by
    show sm (cM N M n) (sm N k + j) + cM N M n (sm N k + j) = _
    rw [cM_at hk hj]
  refine ⟨fun _ => rfl, 0, Nat.zero_le _, rfl, rfl, xx, rfl, rfl, xx, rfl, rfl, rfl, rfl, rfl, rfl, rfl, fun y hy => ⟨fun hl => ?_, fun hl => ?_⟩⟩
  · have hl := of_decide_eq_true hl
    have hk : y < n := by omega
    have u := sm_up N hk
    refine ⟨⟨by omega, hl⟩, fun _ => rfl, (y, 0), ⟨⟨hk, Nat.zero_le _⟩, rfl⟩, ?_, rfl, xx, rfl, rfl, ⟨rfl, rfl, rfl, fun i _ => allC_of fun c _ => cl_refl⟩, rfl, rfl, xx, rfl, rfl, rfl, rfl, rfl, rfl, rfl, ?_⟩
    · show IntKind.i64.wrap ((sm N y : Int) + (N y : Int)) = ((sm N y + N y : Nat) : Int)
      rw [IntKind.wrap_i64]; omega
    · intro ⟨k, j⟩ ⟨hk2, hj⟩ he
      have hj : j ≤ N k := hj
      have he : k = y := he
      have hk2 : k < n := hk2
      refine ⟨fun h2 => ?_, fun h2 => ?_⟩
      · have h2 := of_decide_eq_true h2
        have h3 : j < N k := by have : ((j : Nat) : Int) < ((N k : Nat) : Int) := h2; omega
        have u2 := up k j hk2 h3
        refine ⟨⟨Int.natCast_nonneg _, h2⟩, (k, j + 1), ⟨⟨hk2, h3⟩, he⟩, rfl, ?_, xx, rfl, rfl, ⟨rfl, rfl, rfl, fun i _ => allC_of fun c _ => cl_refl⟩, rfl, ?_, xx, rfl, rfl, rfl, rfl, rfl, rfl, rfl, ?_⟩
        · show IntKind.i64.wrap ((sm (cM N M n) (sm N k + j) : Int) + (M k j : Int)) = ((sm (cM N M n) (sm N k + (j + 1)) : Nat) : Int)
          rw [su k j hk2 h3, IntKind.wrap_i64]; omega
        · have := hN k hk2
          show IntKind.i64.wrap ((j : Int) + 1) = ((j + 1 : Nat) : Int)
          rw [IntKind.wrap_i64]; omega
        · show (N k - (j + 1)) + 1 ≤ N k - j
          omega
      · have h2 := of_decide_eq_false h2
        have e : j = N k := by have : ¬ ((j : Nat) : Int) < ((N k : Nat) : Int) := h2; omega
        refine ⟨k + 1, hk2, rfl, ?_, xx, rfl, ?_, xx, rfl, rfl, rfl, rfl, rfl, rfl, rfl, ?_⟩
        · show ((sm (cM N M n) (sm N k + j) : Nat) : Int) = ((sm (cM N M n) (sm N k + N k) : Nat) : Int)
          rw [e]
        · show IntKind.i64.wrap ((k : Int) + 1) = ((k + 1 : Nat) : Int)
          rw [IntKind.wrap_i64]; omega
        · show (n - (k + 1)) + 1 ≤ n - y
          omega
  · have hl := of_decide_eq_false hl
    have e : n = y := by omega
    subst e
    refine ⟨⟨by omega, Int.le_refl _, by omega, by omega⟩, ⟨by omega, Int.le_refl _, by omega, by omega⟩, ⟨by omega, Int.le_refl _, by omega, by omega⟩, fun _ => rfl, 0, ?_⟩
    intro x101
    have h101 : x101 := rfl
    clear_value x101
    refine ⟨Nat.zero_le _, ⟨rfl, rfl, rfl, rfl, rfl⟩, ⟨rfl, rfl, rfl, h101, h101⟩, ⟨rfl, rfl, rfl, rfl, rfl⟩, xx, rfl, rfl, xx, rfl, rfl, rfl, rfl, rfl, rfl, rfl, rfl, by rw [Nat.sub_self], fun i _ => ?_, rfl, by rw [Nat.sub_self], fun i _ => ?_, rfl, by rw [Nat.sub_self], fun i _ => ?_, ?_⟩
    · exact allC_of fun c hc => zOK_at 109 (by kernel_rfl) c hc
    · exact rfl
    · exact ⟨rfl, rfl, rfl⟩
    intro y x102 hy
    refine ⟨fun hl => ?_, fun hl => ?_⟩
    · have hl := of_decide_eq_true hl
      have hk : y < n := by omega
      have u := sm_up N hk
      have em : Nat.min (N (y : Int).toNat) (sm N n - sm N y) = N y := Nat.min_eq_left (by show N y ≤ _; omega)
      have z1 := zz_le N (sm N n) y
      have hz : N y = 0 ∨ zz N (sm N n) y = sm N y := by
        rcases Nat.eq_zero_or_pos (N y) with h | h
        · exact .inl h
        · exact .inr (zz_at y (by omega))
      have h102 : x102 := by show ((Nat.min (N (y : Int).toNat) (sm N n - sm N y) : Nat) : Int) ≤ _; rw [em]; omega
      clear_value x102
      refine ⟨⟨by omega, hl⟩, by omega, ⟨by omega, Int.le_refl _, h102⟩, ⟨by omega, h102, Int.le_refl _⟩, fun _ => rfl, (y, 0), ?_⟩
      intro x103 x104 x105
      have h103 : x103 := by show sm N n - sm N y - ((Nat.min (N (y : Int).toNat) (sm N n - sm N y) : Nat) : Int).toNat = sm N n - (sm N y + N y); rw [em]; omega
      have h104 : x104 := rfl
      have h105 : x105 := by show ((Nat.min (N (y : Int).toNat) (sm N n - sm N y) : Nat) : Int).toNat = N y; rw [em]; rfl
      clear_value x103 x104 x105
      refine ⟨⟨⟨hk, Nat.zero_le _⟩, rfl⟩, ⟨rfl, rfl, ?_, h103, h103⟩, ⟨rfl, rfl, rfl, h104, h104⟩, ⟨rfl, rfl, rfl, rfl, rfl⟩, rfl, xx, rfl, rfl, ?_, rfl, xx, rfl, rfl, rfl, rfl, rfl, rfl, rfl, rfl, rfl, fun i _ => ?_, rfl, rfl, fun i _ => ?_, rfl, rfl, fun i _ => ?_, rfl, rfl, ⟨rfl, rfl, rfl, h105, h105⟩, rfl, ?_⟩
      · show offS (sm N n - sm N y) ((Nat.min (N (y : Int).toNat) (sm N n - sm N y) : Nat) : Int).toNat (zz N (sm N n) y) = _
        rw [em]; rfl
      · show (((Nat.min (N (y : Int).toNat) (sm N n - sm N y) : Nat) : Int).toNat : Int) = _
        rw [em]; rfl
      · exact allC_of fun c _ => own_copy hz i c em
      · exact val_refl (k := .u8)
      · exact allC_of fun c _ => owB_refl i c
      intro y3 x106 ⟨hk3, hj3⟩ he
      have he : y3.1 = y := he
      refine ⟨fun h2 => ?_, fun h2 => ?_⟩
      · have h2 := of_decide_eq_true h2
        have h3 : y3.2 < N y3.1 := by omega
        have hx := cx_in hk3 h3
        have u2 := up y3.1 y3.2 hk3 h3
        have ez : zz N (sm N n) y3.1 = sm N y3.1 := zz_at y3.1 (by omega)
        have ep : zz N (sm N n) y3.1 + (y3.2 : Int).toNat = sm N y3.1 + y3.2 := by rw [ez]; rfl
        have eo : owJ N V AX M CX B n 5 y3.1 y3.2 (sm N y3.1 + y3.2) 108 = .xs (AX y3.1 y3.2) (M y3.1 y3.2) (CX y3.1 y3.2) 1 fun i _ => .val (.int .u8 (B y3.1 y3.2 i)) := by
          unfold owJ
          rw [if_neg (Nat.lt_irrefl _), if_pos (by omega), Nat.add_sub_cancel_left]
          rfl
        have z2 := zz_le (cM N M n) (sm (cM N M n) (sm N n)) (sm N y3.1 + y3.2)
        have hz2 : M y3.1 y3.2 = 0 ∨ zz (cM N M n) (sm (cM N M n) (sm N n)) (sm N y3.1 + y3.2) = sm (cM N M n) (sm N y3.1 + y3.2) := by
          rcases Nat.eq_zero_or_pos (M y3.1 y3.2) with h | h
          · exact .inl h
          · exact .inr (zz_at _ (by omega))
        have e2 : Nat.min (xsN (owJ N V AX M CX B n 5 y3.1 y3.2 (zz N (sm N n) y3.1 + (y3.2 : Int).toNat) 108)) (sm (cM N M n) (sm N n) - sm (cM N M n) (sm N y3.1 + y3.2)) = M y3.1 y3.2 := by
          rw [ep, eo]; exact Nat.min_eq_left (by show M y3.1 y3.2 ≤ _; omega)
        have e2b : ((Nat.min (xsN (owJ N V AX M CX B n 5 y3.1 y3.2 (sm N y3.1 + y3.2) 108)) (sm (cM N M n) (sm N n) - sm (cM N M n) (sm N y3.1 + y3.2)) : Nat) : Int).toNat = M y3.1 y3.2 := by rw [← ep, ep, show Nat.min (xsN (owJ N V AX M CX B n 5 y3.1 y3.2 (sm N y3.1 + y3.2) 108)) (sm (cM N M n) (sm N n) - sm (cM N M n) (sm N y3.1 + y3.2)) = M y3.1 y3.2 from by rw [← e2, ep]]; rfl
        have h106 : x106 := by show ((Nat.min (xsN (owJ N V AX M CX B n 5 y3.1 y3.2 (zz N (sm N n) y3.1 + (y3.2 : Int).toNat) 108)) (sm (cM N M n) (sm N n) - sm (cM N M n) (sm N y3.1 + y3.2)) : Nat) : Int) ≤ _; rw [e2]; omega
        clear_value x106
        have s2 := su y3.1 y3.2 hk3 h3
        refine ⟨⟨Int.natCast_nonneg _, h2⟩, by rw [ep]; exact hx, ?_, by omega, ⟨Int.natCast_nonneg _, Int.le_refl _, h106⟩, ⟨Int.natCast_nonneg _, h106, Int.le_refl _⟩, by rw [ep]; exact hx, (y3.1, y3.2 + 1), ?_⟩
        · rw [ep, eo]; exact rfl
        intro x107 x108
        have h107 : x107 := rfl
        have h108 : x108 := by
          show sm (cM N M n) (sm N n) - sm (cM N M n) (sm N y3.1 + y3.2) - ((Nat.min (xsN (owJ N V AX M CX B n 5 y3.1 y3.2 (zz N (sm N n) y3.1 + (y3.2 : Int).toNat) 108)) (sm (cM N M n) (sm N n) - sm (cM N M n) (sm N y3.1 + y3.2)) : Nat) : Int).toNat = sm (cM N M n) (sm N n) - sm (cM N M n) (sm N y3.1 + (y3.2 + 1))
          rw [e2, s2]; omega
        clear_value x107 x108
        refine ⟨⟨⟨hk3, h3⟩, he⟩, ⟨rfl, rfl, rfl, h107, h107⟩, ⟨rfl, rfl, ?_, h108, h108⟩, ⟨rfl, rfl, rfl, rfl, rfl⟩, rfl, xx, rfl, rfl, rfl, ?_, xx, rfl, rfl, rfl, rfl, rfl, rfl, rfl, rfl, rfl, fun i _ => ?_, rfl, rfl, fun i _ => ?_, rfl, rfl, fun i _ => ?_, rfl, rfl, ⟨rfl, rfl, rfl, rfl, rfl⟩, rfl, ?_⟩
        · rw [show (xsN (owJ N V AX M CX B n 5 y3.1 y3.2 (zz N (sm N n) y3.1 + (y3.2 : Int).toNat) 108)).min (sm (cM N M n) (sm N n) - sm (cM N M n) (sm N y3.1 + y3.2)) = M y3.1 y3.2 from e2]
          show _ = offS (sm (cM N M n) (sm N n) - sm (cM N M n) (sm N y3.1 + y3.2)) (cM N M n (sm N y3.1 + y3.2)) _
          rw [cM_at hk3 h3]; rfl
        · have := hN y3.1 hk3
          show IntKind.i64.wrap ((y3.2 : Int) + 1) = ((y3.2 + 1 : Nat) : Int)
          rw [IntKind.wrap_i64]; omega
        · refine allC_of fun c hc => ?_
          rw [ep]
          exact own_step hk3 h3 rfl e2b i c hc
        · show simC (selC _ (xsG (owJ N V AX M CX B n 5 y3.1 y3.2 (zz N (sm N n) y3.1 + (y3.2 : Int).toNat) 108) _ 0) _) _
          rw [ep, eo]
          exact own_paper hk3 h3 (fun _ _ => rfl) hz2 (Nat.min_eq_left (by show M y3.1 y3.2 ≤ _; omega)) i 0
        · exact allC_of fun c _ => owB_refl i c
        · show (N y3.1 - (y3.2 + 1)) + 1 ≤ N y3.1 - y3.2
          omega
      · have h2 := of_decide_eq_false h2
        have e : y3.2 = N y3.1 := by omega
        refine ⟨⟨Int.natCast_nonneg _, by omega⟩, by show 0 + y3.1 < n; omega, y3.1 + 1, ?_⟩
        intro x109 x110
        have h109 : x109 := rfl
        have h110 : x110 := by show sm (cM N M n) (sm N n) - sm (cM N M n) (sm N y3.1 + y3.2) = sm (cM N M n) (sm N n) - sm (cM N M n) (sm N y3.1 + N y3.1); rw [e]
        clear_value x109 x110
        refine ⟨hk3, ⟨rfl, rfl, rfl, h109, h109⟩, ⟨rfl, rfl, ?_, h110, h110⟩, ⟨rfl, rfl, rfl, rfl, rfl⟩, xx, rfl, ?_, xx, rfl, rfl, rfl, rfl, rfl, rfl, rfl, rfl, rfl, fun i _ => ?_, rfl, rfl, fun i _ => ?_, rfl, rfl, fun i _ => ?_, ?_⟩
        · rw [e]; rfl
        · show IntKind.i64.wrap ((y3.1 : Int) + 1) = ((y3.1 + 1 : Nat) : Int)
          rw [IntKind.wrap_i64]; omega
        · refine allC_of fun c _ => ?_
          rw [e, owJ_end]
          exact owK_refl i c
        · rw [e]; exact val_refl (k := .u8)
        · exact owB_step i rfl rfl (by show 0 + y3.1 = y3.1; omega)
        · show (n - (y3.1 + 1)) + 1 ≤ n - y
          omega
    · have hl := of_decide_eq_false hl
      have e : n = y := by omega
      subst e
      refine fun b => ⟨fun i hi => allC_of fun c hc => ?_, fun b1 => ⟨fun i hi => ?_, ?_⟩⟩
      · unfold owK
        rw [if_pos hi]
        unfold cF
        split
        · exact rfl
        · exact ⟨rfl, rfl, by have := zz_le (cM N M n) (sm (cM N M n) (sm N n)) i; have := sm_up (cM N M n) hi; omega, Nat.le_refl _⟩
      · have z1 := zz_le N (sm N n) i
        have u := sm_up N hi
        have h0 : ∀ c, owB P H N n 3 n i c = match c with
          | 0 => .val (.int .i64 (P i))
          | 1 => .val (.int .i64 (H i))
          | _ => .slw 3 109 (zz N (sm N n) i) (N i) (N i) := fun c => if_pos hi
        refine ⟨?_, ?_, ?_⟩
        · show thOK 3 109 (sm N n) (owB P H N n 3 n i 0)
          rw [h0 0]; exact rfl
        · show thOK 3 109 (sm N n) (owB P H N n 3 n i 1)
          rw [h0 1]; exact rfl
        · show thOK 3 109 (sm N n) (owB P H N n 3 n i 2)
          rw [h0 2]; exact ⟨rfl, rfl, by omega, Nat.le_refl _⟩
      · refine ⟨fun p => match p with
          | [i] => (some ⟨b1, zz N (sm N n) i * 109, none⟩, N i)
          | [i, j] => (some ⟨b, zz (cM N M n) (sm (cM N M n) (sm N n)) (sm N i + j) * 1, none⟩, M i j)
          | _ => (none, 0), trivial, ⟨by omega, rfl, Nat.le_refl _, fun i hi => ?_⟩, ⟨rfl, trivial⟩, ⟨rfl, trivial⟩, trivial⟩
        have h0 : ∀ c, owB P H N n 3 n (0 + i) c = match c with
          | 0 => .val (.int .i64 (P i))
          | 1 => .val (.int .i64 (H i))
          | _ => .slw 3 109 (zz N (sm N n) i) (N i) (N i) := fun c => by rw [Nat.zero_add]; exact if_pos hi
        refine ⟨?_, ?_, ?_⟩
        · show simC (thC b1 109 _ (owB P H N n 3 n (0 + i) 0)) _
          rw [h0 0]; exact rfl
        · show simC (thC b1 109 _ (owB P H N n 3 n (0 + i) 1)) _
          rw [h0 1]; exact rfl
        · show simC (thC b1 109 _ (owB P H N n 3 n (0 + i) 2)) _
          rw [h0 2]
          refine ⟨rfl, rfl, rfl, fun j hj => allC_of fun c hc => ?_⟩
          have hj : j < N i := hj
          have hx := cx_in hi hj
          have ez : zz N (sm N n) i = sm N i := zz_at i (by omega)
          have u2 := up i j hi hj
          show simC (thC b 1 (owP N M B n (sm N n)) (owK N V M n 5 n (zz N (sm N n) i + j) c)) (clF (V i) _ (M i) _ (B i) j c)
          rw [ez]
          unfold owK
          rw [if_pos hx, cF_at hi hj c]
          unfold clF
          cases hb : Nat.blt c 108
          · refine ⟨rfl, rfl, rfl, fun r hr => ?_⟩
            have hr : r < M i j := hr
            have ez2 : zz (cM N M n) (sm (cM N M n) (sm N n)) (sm N i + j) = sm (cM N M n) (sm N i + j) := zz_at _ (by omega)
            show simC (.val (.int .u8 (if zz (cM N M n) (sm (cM N M n) (sm N n)) (sm N i + j) + r < sm (cM N M n) (sm N n) then cB N M B n (zz (cM N M n) (sm (cM N M n) (sm N n)) (sm N i + j) + r) else 0))) (.val (.int .u8 (B i j r)))
            rw [ez2, if_pos (by omega), cB_at hi hj hr]
            exact val_refl
          · exact val_refl
end Go.Proofs.Ytnomjdechekapaa
end

section
namespace Go.Proofs.Ytnomjdechekapaa
open Go.Sx
set_option maxRecDepth 100000
theorem xs_told2 {a : Option Addr} {n cap w : Nat} {f g : Nat → Nat → SC} (h : ∀ i, i < n → ∀ c, c < w → (∀ E : Env, (f i c).bnd E → (g i c).bnd E) ∧ ((f i c).fit = true → (g i c).fit = true) ∧ (f i c).conc Rho.nil = (g i c).conc Rho.nil) {E : Env} (hb : (SC.xs a n cap w f).bnd E) : (SC.xs a n cap w g).bnd E := by
  obtain ⟨b1, b2, b3⟩ := hb
  exact ⟨b1, b2, fun b hb => ⟨(b3 b hb).1, fun i hi c hc => by
    obtain ⟨q1, q2, q3⟩ := h i hi c hc
    have k := (b3 b hb).2 i hi c hc
    exact ⟨q1 _ k.1, q2 k.2.1, q3 ▸ k.2.2⟩⟩⟩
abbrev fTt (f : Nat → Nat → SC) : Nat → Nat → SC := blkF (fun i => iAt f i 0) (fun i => iAt f i 1) (fun i => aAt (f i 2)) (fun i => nAt (f i 2)) (fun i => cAt (f i 2)) (fun i => fCl (xAt (f i 2)))
theorem xt_told {a : Option Addr} {n cap : Nat} {f : Nat → Nat → SC} (tf : ∀ i c, c < 3 → f i c = fTr f i c) (tc : ∀ i, clP (xAt (f i 2))) {E : Env} (hb : (SC.xs a n cap 3 f).bnd E) : (SC.xs a n cap 3 (fTt f)).bnd E := by
  refine xs_told2 (fun i _ c hc => ?_) hb
  rw [tf i c hc]
  rcases c with _ | _ | _ | c
  · exact ⟨fun _ h => h, fun h => h, rfl⟩
  · exact ⟨fun _ h => h, fun h => h, rfl⟩
  · exact ⟨fun _ h => xs_told (fun j _ c hc => (tc i).gf j c hc) h, fun h => h, rfl⟩
  · omega
theorem tt_told {a : Option Addr} {n cap : Nat} {f : Nat → Nat → SC} {best fin : Int} (tf : ∀ i c, c < 3 → f i c = fTr f i c) (tc : ∀ i, clP (xAt (f i 2))) {E : Env} (hb : (sTr a n cap f best fin).bnd E) : (sTr a n cap (fTt f) best fin).bnd E := fun k hk => by
  rcases List.mem_cons.1 hk with rfl | hk
  · exact xt_told tf tc (hb _ (List.mem_cons_self ..))
  · exact hb k (List.mem_cons_of_mem _ hk)
theorem on_cl {P H : Nat → Int} {N : Nat → Nat} {V : Nat → Nat → Nat → Int} {M : Nat → Nat → Nat} {B : Nat → Nat → Nat → Int} {n : Nat} {best fin : Int} : ∀ r ∈ onR P H N V M B n best fin, r.closed := fun r hr => by
  rw [List.mem_singleton.1 hr]
  intro _ k hk
  rcases List.mem_cons.1 hk with rfl | hk
  · exact trivial
  · rcases List.mem_cons.1 hk with rfl | hk
    · exact trivial
    · rw [List.mem_singleton.1 hk]; exact trivial
theorem card_on {gl : Globs} : FnOKs Try.prog gl 23 cOn := by
  refine FnOKs.up0 (FnOKs_R0 (cx := .none) okx_nil (sl := []) oks_nil Try.func23 (by kernel_rfl) (by kernel_rfl) fun ls hc => ?_) gl
  unfold onC at hc
  split at hc
  · rename_i a n cap f best fin
    obtain ⟨p, _⟩ := hc
    refine ⟨_, _, _, fun ρ => ?_, fun E hE x hx => ?_, on_cl, ok_on a n cap (fun i => iAt f i 0) (fun i => iAt f i 1) (fun i => aAt (f i 2)) (fun i => nAt (f i 2)) (fun i => cAt (f i 2)) (fun i => iAt (xAt (f i 2))) (fun i j => aAt (xAt (f i 2) j 108)) (fun i j => nAt (xAt (f i 2) j 108)) (fun i j => cAt (xAt (f i 2) j 108)) (fun i j r => iAt (xAt (xAt (f i 2) j 108)) r 0) best fin p.on p.oc p.os⟩
    · rfl
    · rw [List.mem_singleton.1 hx]
      exact tt_told p.op.tf p.op.tc (hE (sTr a n cap f best fin) (List.mem_cons_self ..))
  · exact hc.1.elim
end Go.Proofs.Ytnomjdechekapaa
end

section
namespace Go.Proofs.Ytnomjdechekapaa
open Go.Sx
set_option maxRecDepth 100000
def tot (N : Nat → Nat) (M : Nat → Nat → Nat) (n : Nat) : Nat := sm (fun i => sm (M i) (N i)) n
def mOf (X : Nat → Nat → Nat → SC) (i j : Nat) : Nat := nAt (X i j 108)
def bOf (X : Nat → Nat → Nat → SC) (i j r : Nat) : Int := iAt (xAt (X i j 108)) r 0
def gr1R (P H : Nat → Int) (N : Nat → Nat) (X : Nat → Nat → Nat → SC) (n : Nat) (best fin p : Int) (m : Nat) (Y : Nat → Nat → SC) : List RS :=
  [.ex (fun _ => True) fun ac => .st [.s (if gwE P H N n best fin p m = 0 then n + 1 else 0) 3 (cpF (gwP P n p) (gwH H n p) (putN n N m) (fun i => iAt (putN n X Y i)) (mOf (putN n X Y)) (bOf (putN n X Y)) ac), kI (if gwE P H N n best fin p m = 0 then gwB P H n fin p else 0), kI (if gwE P H N n best fin p m = 0 then fin else 0)], .v (sI .i64 (gwE P H N n best fin p m))]
def gr1C : List (List FD) → List Prop
  | [[.x a n cap f, .i _, .i _], [.i _], [.x _ m _ Y]] => [tfP a n f, clP Y, n ≤ cap, tot (fun i => nAt (f i 2)) (mOf fun i => xAt (f i 2)) n + sm (fun j => nAt (Y j 108)) m ≤ 281474976710656]
  | _ => [False]
def gr1G : List (List FD) → List RS
  | [[.x _ n _ f, .i best, .i fin], [.i p], [.x _ m _ Y]] => gr1R (fun i => iAt f i 0) (fun i => iAt f i 1) (fun i => nAt (f i 2)) (fun i => xAt (f i 2)) n best fin p m Y
  | _ => []
def cGr1 : SSpec := specQ0 true [pqTr, .one (.i .i64), .one (.x 109)] gr1C gr1G
def se1R (P H : Nat → Int) (N : Nat → Nat) (X : Nat → Nat → Nat → SC) (n : Nat) (best fin h : Int) : List RS :=
  [.ex (fun _ => True) fun ac => .st [.s (if seE P H N n best fin h = 0 then n else 0) 3 (cpF P H N (fun i => iAt (X i)) (mOf X) (bOf X) ac), kI (if seE P H N n best fin h = 0 then best else 0), kI (if seE P H N n best fin h = 0 then seF P best h else 0)], .v (sI .i64 (seE P H N n best fin h))]
def se1C : List (List FD) → List Prop
  | [[.x a n _ f, .i _, .i _], [.i _]] => [tfP a n f, tot (fun i => nAt (f i 2)) (mOf fun i => xAt (f i 2)) n ≤ 281474976710656]
  | _ => [False]
def se1G : List (List FD) → List RS
  | [[.x _ n _ f, .i best, .i fin], [.i h]] => se1R (fun i => iAt f i 0) (fun i => iAt f i 1) (fun i => nAt (f i 2)) (fun i => xAt (f i 2)) n best fin h
  | _ => []
def cSe1 : SSpec := specQ0 true [pqTr, .one (.i .i64)] se1C se1G
def slG1 : List (Nat × SSpec) := [(7, cCk), (19, cHs), (22, cSt), (20, cBe), (23, cOn)]
def slS1 : List (Nat × SSpec) := [(7, cCk), (26, cLi), (23, cOn)]
def cxG1 : Cx := ⟨[(1000000010, fun _ => none), (1000000012, fun _ => none), (1000000013, fun _ => none), (1000000014, fun _ => none), (1000000020, fun _ => none)], [], 0, []⟩
theorem vc_gr1 (a : Option Addr) (n cap : Nat) (P H : Nat → Int) (A : Nat → Option Addr) (N C : Nat → Nat) (X : Nat → Nat → Nat → SC) (best fin p : Int) (b : Option Addr) (m cb : Nat) (Y : Nat → Nat → SC) :
    OwesR Try.prog cxG1 slG1 [] 2 Try.f9 [sTr a n cap (blkF P H A N C X) best fin, sI .i64 p, .sc (.xs b m cb 109 Y)] true (gr1R P H N X n best fin p m Y) =
    (let x1 : Int := trE (fun (i : Nat) => iAt (blkF P H A N C X) i 0) (fun (i : Nat) => iAt (blkF P H A N C X) i 1) (fun (i : Nat) => nAt (blkF P H A N C X i 2)) n best fin; let x2 : Int := gwE P H N n best fin p m; let x3 : Prop := x2 = (0 : Int); let x4 : Nat := if x3 then n + 1 else 0; let x5 : Int := if x3 then gwB P H n fin p else (0 : Int); let x6 : Int := if x3 then fin else (0 : Int); let x7 : Prop := (↑n : Int) ≤ (↑n : Int); let x8 : Nat := (↑n : Int).toNat + 1; tfP a n (blkF P H A N C X) ∧ ((x1 != (0 : Int)) = Bool.true → (∃ (_ : List Nat → Option Go.Addr × Nat), True ∧ x4 = 0 ∧ ((0 : Int) = x5 ∧ True) ∧ ((0 : Int) = x6 ∧ True) ∧ True) ∧ x1 = x2) ∧ ((x1 != (0 : Int)) = Bool.false → n ≤ Go.maxLen ∧ ((!hsB n p) = Bool.true → (∃ (_ : List Nat → Option Go.Addr × Nat), True ∧ x4 = 0 ∧ ((0 : Int) = x5 ∧ True) ∧ ((0 : Int) = x6 ∧ True) ∧ True) ∧ (5 : Int) = x2) ∧ ((!hsB n p) = Bool.false → trP a n (blkF P H A N C X) ∧ (0 : Int) ≤ p ∧ p < (↑n : Int) ∧ (0 : Int) ≤ fin ∧ ((!stO (fun (i : Nat) => iAt (blkF P H A N C X) i 0) p fin) = Bool.true → (∃ (_ : List Nat → Option Go.Addr × Nat), True ∧ x4 = 0 ∧ ((0 : Int) = x5 ∧ True) ∧ ((0 : Int) = x6 ∧ True) ∧ True) ∧ (15 : Int) = x2) ∧ ((!stO (fun (i : Nat) => iAt (blkF P H A N C X) i 0) p fin) = Bool.false → (Decidable.decide ((↑m : Int) > (6 : Int)) = Bool.true → (∃ (_ : List Nat → Option Go.Addr × Nat), True ∧ x4 = 0 ∧ ((0 : Int) = x5 ∧ True) ∧ ((0 : Int) = x6 ∧ True) ∧ True) ∧ (1 : Int) = x2) ∧ (Decidable.decide ((↑m : Int) > (6 : Int)) = Bool.false → (((↑n : Int) == (40 : Int)) = Bool.true → (∃ (_ : List Nat → Option Go.Addr × Nat), True ∧ x4 = 0 ∧ ((0 : Int) = x5 ∧ True) ∧ ((0 : Int) = x6 ∧ True) ∧ True) ∧ (9 : Int) = x2) ∧ (((↑n : Int) == (40 : Int)) = Bool.false → ((0 : Int) ≤ p ∧ p < (↑n : Int)) ∧ ((0 : Int) ≤ (↑n : Int) ∧ x7 ∧ (↑n : Int) ≤ (↑cap : Int) ∧ x7) ∧ (↑n : Int).toNat ≠ 0 ∧ (↑n : Int).toNat = (↑n : Int).toNat ∧ (x8 ≤ Go.maxLen ∧ x8 * 40 ≤ 140737488355328) ∧ ∀ (c : Nat), x8 + c ≤ Go.maxLen → 0 + x8 ≤ x8 ∧ x8 ≤ x8 + c ∧ ∀ (a : Go.Addr), (trP (Option.some a) x8 fun (i c : Nat) => selC (Decidable.decide (0 + i < (↑n : Int).toNat)) (blkF P H A N C X (0 + i) c) (fixAt (flat [SK.c (SC.val (Go.Value.int Go.IntKind.i64 p)), SK.c (SC.val (Go.Value.int Go.IntKind.i64 (Go.IntKind.i64.wrap (H p.toNat + (1 : Int))))), SK.c (SC.xs b m cb 109 Y)]) 3 1 0 (0 + i - (↑n : Int).toNat) c)) ∧ (0 : Int) ≤ fin ∧ fin < (↑x8 : Int) ∧ ∀ (ad : Nat → Go.Addr), 0 + x8 ≤ x8 ∧ x8 ≤ x8 + c ∧ (onP (Option.some (ad 0)) x8 fun (i c : Nat) => selC (Decidable.decide (0 + i < (↑n : Int).toNat)) (blkF P H A N C X (0 + i) c) (fixAt (flat [SK.c (SC.val (Go.Value.int Go.IntKind.i64 p)), SK.c (SC.val (Go.Value.int Go.IntKind.i64 (Go.IntKind.i64.wrap (H p.toNat + (1 : Int))))), SK.c (SC.xs b m cb 109 Y)]) 3 1 0 (0 + i - (↑n : Int).toNat) c)) ∧ ∀ (ac : List Nat → Option Go.Addr × Nat), True → ∀ (a : Option Go.Addr) (cap : Nat), (a = Option.none → x8 = 0 ∧ cap = 0) → x8 ≤ cap → (∃ (ac_1 : List Nat → Option Go.Addr × Nat), True ∧ (x8 = x4 ∧ ∀ (i : Nat), i < x4 → allC 3 fun (c : Nat) => simC (cpF (fun (i : Nat) => iAt (fun (i c : Nat) => selC (Decidable.decide (0 + i < (↑n : Int).toNat)) (blkF P H A N C X (0 + i) c) (fixAt (flat [SK.c (SC.val (Go.Value.int Go.IntKind.i64 p)), SK.c (SC.val (Go.Value.int Go.IntKind.i64 (Go.IntKind.i64.wrap (H p.toNat + (1 : Int))))), SK.c (SC.xs b m cb 109 Y)]) 3 1 0 (0 + i - (↑n : Int).toNat) c)) i 0) (fun (i : Nat) => iAt (fun (i c : Nat) => selC (Decidable.decide (0 + i < (↑n : Int).toNat)) (blkF P H A N C X (0 + i) c) (fixAt (flat [SK.c (SC.val (Go.Value.int Go.IntKind.i64 p)), SK.c (SC.val (Go.Value.int Go.IntKind.i64 (Go.IntKind.i64.wrap (H p.toNat + (1 : Int))))), SK.c (SC.xs b m cb 109 Y)]) 3 1 0 (0 + i - (↑n : Int).toNat) c)) i 1) (fun (i : Nat) => nAt (selC (Decidable.decide (0 + i < (↑n : Int).toNat)) (blkF P H A N C X (0 + i) 2) (fixAt (flat [SK.c (SC.val (Go.Value.int Go.IntKind.i64 p)), SK.c (SC.val (Go.Value.int Go.IntKind.i64 (Go.IntKind.i64.wrap (H p.toNat + (1 : Int))))), SK.c (SC.xs b m cb 109 Y)]) 3 1 0 (0 + i - (↑n : Int).toNat) 2))) (fun (i : Nat) => iAt (xAt (selC (Decidable.decide (0 + i < (↑n : Int).toNat)) (blkF P H A N C X (0 + i) 2) (fixAt (flat [SK.c (SC.val (Go.Value.int Go.IntKind.i64 p)), SK.c (SC.val (Go.Value.int Go.IntKind.i64 (Go.IntKind.i64.wrap (H p.toNat + (1 : Int))))), SK.c (SC.xs b m cb 109 Y)]) 3 1 0 (0 + i - (↑n : Int).toNat) 2)))) (fun (i j : Nat) => nAt (xAt (selC (Decidable.decide (0 + i < (↑n : Int).toNat)) (blkF P H A N C X (0 + i) 2) (fixAt (flat [SK.c (SC.val (Go.Value.int Go.IntKind.i64 p)), SK.c (SC.val (Go.Value.int Go.IntKind.i64 (Go.IntKind.i64.wrap (H p.toNat + (1 : Int))))), SK.c (SC.xs b m cb 109 Y)]) 3 1 0 (0 + i - (↑n : Int).toNat) 2)) j 108)) (fun (i j r : Nat) => iAt (xAt (xAt (selC (Decidable.decide (0 + i < (↑n : Int).toNat)) (blkF P H A N C X (0 + i) 2) (fixAt (flat [SK.c (SC.val (Go.Value.int Go.IntKind.i64 p)), SK.c (SC.val (Go.Value.int Go.IntKind.i64 (Go.IntKind.i64.wrap (H p.toNat + (1 : Int))))), SK.c (SC.xs b m cb 109 Y)]) 3 1 0 (0 + i - (↑n : Int).toNat) 2)) j 108)) r 0) ac i c) (cpF (gwP P n p) (gwH H n p) (putN n N m) (fun (i : Nat) => iAt (putN n X Y i)) (mOf (putN n X Y)) (bOf (putN n X Y)) ac_1 i c)) ∧ (beD (fun (i : Nat) => iAt (fun (i c : Nat) => selC (Decidable.decide (0 + i < (↑n : Int).toNat)) (blkF P H A N C X (0 + i) c) (fixAt (flat [SK.c (SC.val (Go.Value.int Go.IntKind.i64 p)), SK.c (SC.val (Go.Value.int Go.IntKind.i64 (Go.IntKind.i64.wrap (H p.toNat + (1 : Int))))), SK.c (SC.xs b m cb 109 Y)]) 3 1 0 (0 + i - (↑n : Int).toNat) c)) i 0) (fun (i : Nat) => iAt (fun (i c : Nat) => selC (Decidable.decide (0 + i < (↑n : Int).toNat)) (blkF P H A N C X (0 + i) c) (fixAt (flat [SK.c (SC.val (Go.Value.int Go.IntKind.i64 p)), SK.c (SC.val (Go.Value.int Go.IntKind.i64 (Go.IntKind.i64.wrap (H p.toNat + (1 : Int))))), SK.c (SC.xs b m cb 109 Y)]) 3 1 0 (0 + i - (↑n : Int).toNat) c)) i 1) fin x8 = x5 ∧ True) ∧ (fin = x6 ∧ True) ∧ True) ∧ (0 : Int) = x2)))))) := by kernel_rfl
theorem vc_se1 (a : Option Addr) (n cap : Nat) (P H : Nat → Int) (A : Nat → Option Addr) (N C : Nat → Nat) (X : Nat → Nat → Nat → SC) (best fin h : Int) :
    OwesR Try.prog cxG1 slS1 [] 2 Try.f12 [sTr a n cap (blkF P H A N C X) best fin, sI .i64 h] true (se1R P H N X n best fin h) =
    (let x1 : Int := trE (fun (i : Nat) => iAt (blkF P H A N C X) i 0) (fun (i : Nat) => iAt (blkF P H A N C X) i 1) (fun (i : Nat) => nAt (blkF P H A N C X i 2)) n best fin; let x2 : Prop := seE P H N n best fin h = (0 : Int); let x3 : Nat := if x2 then n else 0; let x4 : Int := if x2 then best else (0 : Int); let x5 : Int := if x2 then seF P best h else (0 : Int); let x6 : Bool := Decidable.decide (h < H fin.toNat); let x7 : Prop := (!x6) = Bool.true; let x8 : Nat := lnN (fun (i : Nat) => iAt (blkF P H A N C X) i 0) best; tfP a n (blkF P H A N C X) ∧ ((x1 != (0 : Int)) = Bool.true → (∃ (_ : List Nat → Option Go.Addr × Nat), True ∧ x3 = 0 ∧ ((0 : Int) = x4 ∧ True) ∧ ((0 : Int) = x5 ∧ True) ∧ True) ∧ x1 = seE P H N n best fin h) ∧ ((x1 != (0 : Int)) = Bool.false → ((0 : Int) ≤ fin ∧ fin < (↑n : Int)) ∧ (x7 → x7) ∧ (x7 → x7) ∧ (x7 → x7) ∧ (x7 → x7) ∧ (x7 → (0 : Int) ≤ best ∧ best < (↑n : Int)) ∧ (x7 → x7) ∧ (x7 → x7) ∧ (x7 → x7) ∧ (x7 → x7) ∧ (x6 = Bool.false → x7) ∧ ((x6 || Decidable.decide (h > H best.toNat)) = Bool.true → (∃ (_ : List Nat → Option Go.Addr × Nat), True ∧ x3 = 0 ∧ ((0 : Int) = x4 ∧ True) ∧ ((0 : Int) = x5 ∧ True) ∧ True) ∧ (6 : Int) = seE P H N n best fin h) ∧ ((x6 || Decidable.decide (h > H best.toNat)) = Bool.false → trP a n (blkF P H A N C X) ∧ trR (fun (i : Nat) => iAt (blkF P H A N C X) i 0) (fun (i : Nat) => iAt (blkF P H A N C X) i 1) (fun (i : Nat) => nAt (blkF P H A N C X i 2)) n = (0 : Int) ∧ (0 : Int) ≤ best ∧ best < (↑n : Int) ∧ ∀ (a_3 : Option Go.Addr) (cap : Nat), (a_3 = Option.none → x8 = 0 ∧ cap = 0) → x8 ≤ cap → ((0 : Int) ≤ h ∧ h < (↑x8 : Int)) ∧ onP a n (blkF P H A N C X) ∧ ∀ (ac : List Nat → Option Go.Addr × Nat), True → ∀ (a : Option Go.Addr) (cap : Nat), (a = Option.none → n = 0 ∧ cap = 0) → n ≤ cap → (∃ (ac_1 : List Nat → Option Go.Addr × Nat), True ∧ (n = x3 ∧ ∀ (i : Nat), i < x3 → allC 3 fun (c : Nat) => simC (cpF (fun (i : Nat) => iAt (blkF P H A N C X) i 0) (fun (i : Nat) => iAt (blkF P H A N C X) i 1) (fun (i : Nat) => nAt (blkF P H A N C X i 2)) (fun (i : Nat) => iAt (xAt (blkF P H A N C X i 2))) (fun (i j : Nat) => nAt (xAt (blkF P H A N C X i 2) j 108)) (fun (i j r : Nat) => iAt (xAt (xAt (blkF P H A N C X i 2) j 108)) r 0) ac i c) (cpF P H N (fun (i : Nat) => iAt (X i)) (mOf X) (bOf X) ac_1 i c)) ∧ (best = x4 ∧ True) ∧ ((lineT (fun (i : Nat) => iAt (blkF P H A N C X) i 0) best).getD h.toNat (0 : Int) = x5 ∧ True) ∧ True) ∧ (0 : Int) = seE P H N n best fin h))) := by kernel_rfl
end Go.Proofs.Ytnomjdechekapaa
end

section
namespace Go.Proofs.Ytnomjdechekapaa
open Go.Sx
set_option maxRecDepth 100000
theorem tr_few {P H : Nat → Int} {N : Nat → Nat} : ∀ {m : Nat}, trR P H N m = 0 → ∀ j, j < m → N j ≤ 6
  | 0, _, j, hj => absurd hj (Nat.not_lt_zero _)
  | m + 1, h, j, hj => by
    unfold trR at h
    split at h
    · rename_i h1; exact absurd h h1
    · rename_i h1
      have h1 : trR P H N m = 0 := by omega
      split at h
      · cases h
      · rcases Nat.lt_or_ge j m with hl | hl
        · exact tr_few h1 j hl
        · have e : j = m := by omega
          subst e; omega
theorem flat_in {N : Nat → Nat} {M : Nat → Nat → Nat} {n k : Nat} (hk : k < n) : ∀ j, j ≤ N k → sm (cM N M n) (sm N k + j) = sm (cM N M n) (sm N k) + sm (M k) j
  | 0, _ => rfl
  | j + 1, h => by
    show sm (cM N M n) (sm N k + j) + cM N M n (sm N k + j) = sm (cM N M n) (sm N k) + (sm (M k) j + M k j)
    rw [flat_in hk j (by omega), cM_at hk (show j < N k by omega)]; omega
theorem flat_to {N : Nat → Nat} {M : Nat → Nat → Nat} {n : Nat} : ∀ k, k ≤ n → sm (cM N M n) (sm N k) = tot N M k
  | 0, _ => rfl
  | k + 1, h => by
    show sm (cM N M n) (sm N k + N k) = tot N M k + sm (M k) (N k)
    rw [flat_in (show k < n by omega) (N k) (Nat.le_refl _), flat_to k (by omega)]
theorem tot_congr {N N' : Nat → Nat} {M M' : Nat → Nat → Nat} {n : Nat} (hN : ∀ i, i < n → N i = N' i) (hM : ∀ i, i < n → ∀ j, j < N i → M i j = M' i j) : tot N M n = tot N' M' n :=
  sm_congr n fun i hi => by rw [← hN i hi]; exact sm_congr _ (hM i hi)
theorem cl_eq {V V' : Nat → Nat → Int} {A : Nat → Option Addr} {N N' C : Nat → Nat} {B B' : Nat → Nat → Int} {j c : Nat} (hV : c < 108 → V j c = V' j c) (hN : N j = N' j) (hB : ∀ r, B j r = B' j r) : simC (clF V A N C B j c) (clF V' A N' C B' j c) := by
  unfold clF
  cases hb : Nat.blt c 108
  · refine ⟨rfl, hN, rfl, fun r _ => ?_⟩
    show simC (.val (.int .u8 (B j r))) (.val (.int .u8 (B' j r)))
    rw [hB]; exact val_refl
  · show simC (.val (.int (clK c) (V j c))) (.val (.int (clK c) (V' j c)))
    rw [hV (by simpa [Nat.blt_eq] using hb)]; exact val_refl
section
variable {P H : Nat → Int} {A : Nat → Option Addr} {N C : Nat → Nat} {X : Nat → Nat → Nat → SC} {a b : Option Addr} {n m cb : Nat} {p best fin : Int} {Y : Nat → Nat → SC}
theorem gwX_eq (hX : ∀ i, clP (X i)) (hY : clP Y) (i j c : Nat) (hc : c < 109) : gwX n X Y i j c = putN n X Y i j c := by
  unfold gwX putN
  rw [(hX i).gf j c hc, hY.gf j c hc, sel_cl]
  by_cases h : i < n
  · rw [if_pos h, (hX i).gf j c hc, decide_eq_true h]; rfl
  · rw [if_neg h, hY.gf j c hc, decide_eq_false h]; rfl
theorem gw_own (ht : tfP a n (blkF P H A N C X)) (hk : OkT P H N n best fin) (h0 : 0 ≤ p) (h1 : p < (n : Int)) (hY : clP Y) (hm : m ≤ 6) (hT : tot N (mOf X) n + sm (fun j => nAt (Y j 108)) m ≤ 281474976710656) {G : Nat → Nat → SC} (hG : ∀ i c, c < 3 → G i c = selC (decide (i < n)) (blkF P H A N C X i c) (blkF (fun _ => p) (fun _ => IntKind.i64.wrap (H p.toNat + 1)) (fun _ => b) (fun _ => m) (fun _ => cb) (fun _ => Y) i c)) (a3 : Addr) :
    onP (some a3) (n + 1) G ∧ (fun i => iAt G i 0) = gwP P n p ∧ (fun i => iAt G i 1) = gwH H n p ∧ ∀ ac : List Nat → Option Addr × Nat, ∀ i, allC 3 fun c => simC (cpF (fun i => iAt G i 0) (fun i => iAt G i 1) (fun i => nAt (G i 2)) (fun i => iAt (xAt (G i 2))) (fun i j => nAt (xAt (G i 2) j 108)) (fun i j r => iAt (xAt (xAt (G i 2) j 108)) r 0) ac i c) (cpF (gwP P n p) (gwH H n p) (putN n N m) (fun i => iAt (putN n X Y i)) (mOf (putN n X Y)) (bOf (putN n X Y)) ac i c) := by
  have hX : ∀ i, clP (X i) := ht.tc
  have tr := (gw_key ht hk h0 h1 hY hG a3).1
  have few := hk.few
  have g0 : ∀ i, G i 0 = .val (.int .i64 (gwP P n p i)) := fun i => by
    rw [hG i 0 (by omega)]
    show SC.val (.int .i64 (cond (decide (i < n)) (P i) p)) = _
    rw [cond_put]; rfl
  have g1 : ∀ i, G i 1 = .val (.int .i64 (gwH H n p i)) := fun i => by
    rw [hG i 1 (by omega)]
    show SC.val (.int .i64 (cond (decide (i < n)) (H i) (IntKind.i64.wrap (H p.toNat + 1)))) = _
    rw [cond_put]; rfl
  have g2 : ∀ i, G i 2 = .xs (putN n A b i) (putN n N m i) (putN n C cb i) 109 (gwX n X Y i) := fun i => by
    rw [hG i 2 (by omega)]
    show SC.xs (cond (decide (i < n)) (A i) b) (cond (decide (i < n)) (N i) m) (cond (decide (i < n)) (C i) cb) 109 (fun j c => selC (decide (i < n)) (X i j c) (Y j c)) = _
    rw [cond_put, cond_put, cond_put]; rfl
  have e0 : (fun i => iAt G i 0) = gwP P n p := funext fun i => by unfold iAt; rw [g0]
  have e1 : (fun i => iAt G i 1) = gwH H n p := funext fun i => by unfold iAt; rw [g1]
  have e2 : (fun i => nAt (G i 2)) = putN n N m := funext fun i => by rw [g2]; rfl
  have ex : ∀ i, xAt (G i 2) = gwX n X Y i := fun i => by rw [g2]; rfl
  have nf := tr_few hk.row
  have hN6 : ∀ i, i < n + 1 → putN n N m i ≤ 6 := fun i hi => by
    unfold putN
    by_cases c : i < n
    · rw [if_pos c]; exact nf i c
    · rw [if_neg c]; exact hm
  refine ⟨⟨⟨by simp only [maxLen]; omega, fun e => (by cases e), tr.tf, fun i hi => ?_, tr.tc⟩, by omega, fun i hi => ?_, ?_⟩, e0, e1, fun ac i => ?_⟩
  · rw [show nAt (G i 2) = putN n N m i from congrFun e2 i]
    have := hN6 i hi
    simp only [maxLen]; omega
  · rw [show nAt (G i 2) = putN n N m i from congrFun e2 i]
    exact hN6 i hi
  · rw [flat_to (n + 1) (Nat.le_refl _), e2]
    show tot (putN n N m) _ n + sm _ (putN n N m n) ≤ _
    have t1 : tot (putN n N m) (fun i j => nAt (xAt (G i 2) j 108)) n = tot N (mOf X) n := tot_congr (fun i hi => by unfold putN; rw [if_pos hi]) fun i hi j _ => by
      show nAt (xAt (G i 2) j 108) = nAt (X i j 108)
      rw [ex i, gwX_eq hX hY i j 108 (by omega)]
      unfold putN; rw [if_pos hi]
    have t2 : sm ((fun i j => nAt (xAt (G i 2) j 108)) n) (putN n N m n) = sm (fun j => nAt (Y j 108)) m := by
      rw [show putN n N m n = m from if_neg (Nat.lt_irrefl _)]
      refine sm_congr m fun j _ => ?_
      show nAt (xAt (G n 2) j 108) = nAt (Y j 108)
      rw [ex n, gwX_eq hX hY n j 108 (by omega)]
      unfold putN; rw [if_neg (Nat.lt_irrefl _)]
    rw [t1, t2]; exact hT
  · have q0 := congrFun e0 i
    have q1 := congrFun e1 i
    refine ⟨?_, ?_, ?_⟩
    · show simC (.val (.int .i64 (iAt G i 0))) (.val (.int .i64 (gwP P n p i)))
      rw [q0]; rfl
    · show simC (.val (.int .i64 (iAt G i 1))) (.val (.int .i64 (gwH H n p i)))
      rw [q1]; rfl
    · refine ⟨rfl, congrFun e2 i, rfl, fun j _ => allC_of fun c hc => cl_eq (fun h8 => ?_) ?_ fun r => ?_⟩
      · show iAt (xAt (G i 2)) j c = iAt (putN n X Y i) j c
        rw [ex i]; unfold iAt; rw [gwX_eq hX hY i j c hc]
      · show nAt (xAt (G i 2) j 108) = nAt (putN n X Y i j 108)
        rw [ex i, gwX_eq hX hY i j 108 (by omega)]
      · show iAt (xAt (xAt (G i 2) j 108)) r 0 = iAt (xAt (putN n X Y i j 108)) r 0
        rw [ex i, gwX_eq hX hY i j 108 (by omega)]
end
theorem ok_gr1 (a : Option Addr) (n cap : Nat) (P H : Nat → Int) (A : Nat → Option Addr) (N C : Nat → Nat) (X : Nat → Nat → Nat → SC) (best fin p : Int) (b : Option Addr) (m cb : Nat) (Y : Nat → Nat → SC) (ht : tfP a n (blkF P H A N C X)) (hY : clP Y) (hc : n ≤ cap) (hT : tot N (mOf X) n + sm (fun j => nAt (Y j 108)) m ≤ 281474976710656) :
    OwesR Try.prog cxG1 slG1 [] 2 Try.f9 [sTr a n cap (blkF P H A N C X) best fin, sI .i64 p, .sc (.xs b m cb 109 Y)] true (gr1R P H N X n best fin p m Y) := by
  rw [vc_gr1]
  have hML : maxLen = 9223372036854775807 := rfl
  intro x1 x2 x3 x4 x5 x6 x7 x8
  have e1 : x1 = trE P H N n best fin := rfl
  have e2 : x2 = gwE P H N n best fin p m := rfl
  have bad : x2 ≠ 0 → (∃ _ac : List Nat → Option Go.Addr × Nat, True ∧ x4 = 0 ∧ ((0 : Int) = x5 ∧ True) ∧ ((0 : Int) = x6 ∧ True) ∧ True) := fun hc => ⟨fun _ => (none, 0), trivial, if_neg hc, ⟨(if_neg hc).symm, trivial⟩, ⟨(if_neg hc).symm, trivial⟩, trivial⟩
  refine ⟨ht, fun h1 => ?_, fun h1 => ?_⟩
  · have h1 : x1 ≠ 0 := by simpa using h1
    have es : x2 = x1 := if_pos (by rw [← e1]; exact h1)
    exact ⟨bad (by rw [es]; exact h1), es.symm⟩
  have h1 : x1 = 0 := by simpa using h1
  have h0 : trE P H N n best fin = 0 := by rw [← e1, h1]
  have hk := okT_of h0
  have few := hk.few
  have pos := hk.pos
  have es : x2 = if p < 0 ∨ (n : Int) ≤ p then 5 else if stO P p fin = false then 15 else if 6 < m then 1 else if 40 ≤ n then 9 else 0 := if_neg (fun c => c h0)
  refine ⟨by omega, fun hp => ?_, fun hp => ?_⟩
  · have hp : hsB n p = false := by have h := hp; rw [Bool.not_eq_true'] at h; exact h
    unfold hsB at hp
    simp only [Bool.and_eq_false_iff, decide_eq_false_iff_not] at hp
    have e : x2 = 5 := by rw [es, if_pos (by omega)]
    exact ⟨bad (by rw [e]; decide), e.symm⟩
  have hp : hsB n p = true := by have h := hp; rw [Bool.not_eq_false'] at h; exact h
  unfold hsB at hp
  simp only [Bool.and_eq_true, decide_eq_true_eq] at hp
  rw [if_neg (by omega)] at es
  refine ⟨OkT.tr (f := blkF P H A N C X) hk ht, hp.1, hp.2, hk.fin0, fun hs => ?_, fun hs => ?_⟩
  · have hs : stO P p fin = false := by have h := hs; rw [Bool.not_eq_true'] at h; exact h
    have e : x2 = 15 := by rw [es, if_pos hs]
    exact ⟨bad (by rw [e]; decide), e.symm⟩
  have hs : stO P p fin = true := by have h := hs; rw [Bool.not_eq_false'] at h; exact h
  rw [if_neg (by rw [hs]; decide)] at es
  refine ⟨fun h => ?_, fun h => ?_⟩
  · have h := of_decide_eq_true h
    have e : x2 = 1 := by rw [es, if_pos (by omega)]
    exact ⟨bad (by rw [e]; decide), e.symm⟩
  have h := of_decide_eq_false h
  have hm : m ≤ 6 := by omega
  rw [if_neg (by omega)] at es
  refine ⟨fun h9 => ?_, fun h9 => ?_⟩
  · have h9 : (n : Int) = 40 := by simpa using h9
    have e : x2 = 9 := by rw [es, if_pos (by omega)]
    exact ⟨bad (by rw [e]; decide), e.symm⟩
  have h9 : (n : Int) ≠ 40 := by simpa using h9
  have e : x2 = 0 := by rw [es, if_neg (by omega)]
  have en : (n : Int).toNat = n := Int.toNat_natCast n
  have e8 : x8 = n + 1 := by show (n : Int).toNat + 1 = _; rw [en]
  have e4 : x4 = n + 1 := if_pos e
  have e5 : x5 = gwB P H n fin p := if_pos e
  have e6 : x6 = fin := if_pos e
  have h7 : x7 := Int.le_refl _
  clear_value x7 x8 x6 x5 x4
  subst e8 e4
  have hG : ∀ i c, c < 3 → (fun i c => selC (decide (0 + i < (n : Int).toNat)) (blkF P H A N C X (0 + i) c) (fixAt (flat [SK.c (SC.val (.int .i64 p)), SK.c (SC.val (.int .i64 (IntKind.i64.wrap (H p.toNat + 1)))), SK.c (SC.xs b m cb 109 Y)]) 3 1 0 (0 + i - (n : Int).toNat) c)) i c = selC (decide (i < n)) (blkF P H A N C X i c) (blkF (fun _ => p) (fun _ => IntKind.i64.wrap (H p.toNat + 1)) (fun _ => b) (fun _ => m) (fun _ => cb) (fun _ => Y) i c) := fun i c hc => by
    show selC (decide (0 + i < (n : Int).toNat)) (blkF P H A N C X (0 + i) c) (fixAt (flat [SK.c (SC.val (.int .i64 p)), SK.c (SC.val (.int .i64 (IntKind.i64.wrap (H p.toNat + 1)))), SK.c (SC.xs b m cb 109 Y)]) 3 1 0 (0 + i - (n : Int).toNat) c) = _
    rw [Nat.zero_add, en]
    rcases c with _ | _ | _ | c
    · rfl
    · rfl
    · rfl
    · omega
  have key := fun a3 => gw_key ht hk hp.1 hp.2 hY hG a3
  have own := fun a3 => gw_own ht hk hp.1 hp.2 hY hm hT hG a3
  refine ⟨⟨by omega, by omega⟩, ⟨by omega, h7, by omega, h7⟩, by omega, rfl, ⟨by omega, by omega⟩, fun c hc => ⟨by omega, by omega, fun a1 => ⟨(key a1).1, hk.fin0, by have := hk.fin1; omega, fun ad => ⟨by omega, by omega, (own (ad 0)).1, fun ac _ a2 cap2 _ _ => ⟨⟨ac, trivial, ⟨rfl, fun i hi => (own (ad 0)).2.2.2 ac i⟩, ⟨?_, trivial⟩, ⟨e6.symm, trivial⟩, trivial⟩, e.symm⟩⟩⟩⟩⟩
  rw [e5]
  refine Eq.trans (be_bs (key a1).1.tp hk.fin0 (by have := hk.fin1; omega)) ?_
  exact (key a1).2.2
theorem okx_G1 : CxOK Try.prog cxG1 := okx_mark (okx_mark (okx_mark (okx_mark (okx_mark okx_nil))))
theorem ex_cl {n : Nat} {f : (List Nat → Option Addr × Nat) → Nat → Nat → SC} {x y e : Int} : ∀ r ∈ ([.ex (fun _ => True) fun ac => .st [.s n 3 (f ac), kI x, kI y], .v (sI .i64 e)] : List RS), r.closed := fun r hr => by
  rcases List.mem_cons.1 hr with rfl | hr
  · intro _ k hk
    rcases List.mem_cons.1 hk with rfl | hk
    · exact trivial
    · rcases List.mem_cons.1 hk with rfl | hk
      · exact trivial
      · rw [List.mem_singleton.1 hk]; exact trivial
  · rw [List.mem_singleton.1 hr]; exact trivial
theorem card_gr1 {gl : Globs} : FnOKs Try.prog gl 9 cGr1 := by
  refine FnOKs.up0 (FnOKs_R0 (cx := cxG1) okx_G1 (sl := slG1) (oks_cons card_ck (oks_cons card_hs (oks_cons card_std (oks_cons card_be (oks_cons card_on oks_nil))))) Try.func9 (by kernel_rfl) (by kernel_rfl) fun ls hc => ?_) gl
  unfold gr1C at hc
  split at hc
  · rename_i a n cap f best fin p b m cb Y
    obtain ⟨q, hY, hcap, hT, _⟩ := hc
    refine ⟨_, _, _, fun ρ => ?_, fun E hE x hx => ?_, ex_cl, ok_gr1 a n cap (fun i => iAt f i 0) (fun i => iAt f i 1) (fun i => aAt (f i 2)) (fun i => nAt (f i 2)) (fun i => cAt (f i 2)) (fun i => xAt (f i 2)) best fin p b m cb Y q.told hY hcap hT⟩
    · rfl
    · rcases List.mem_cons.1 hx with rfl | hx
      · exact tr_told (fun i _ c hc => q.tf i c hc) (hE (sTr a n cap f best fin) (List.mem_cons_self ..))
      · exact hE x (List.mem_cons_of_mem _ hx)
  · exact hc.1.elim
theorem ok_se1 (a : Option Addr) (n cap : Nat) (P H : Nat → Int) (A : Nat → Option Addr) (N C : Nat → Nat) (X : Nat → Nat → Nat → SC) (best fin h : Int) (ht : tfP a n (blkF P H A N C X)) (hT : tot N (mOf X) n ≤ 281474976710656) :
    OwesR Try.prog cxG1 slS1 [] 2 Try.f12 [sTr a n cap (blkF P H A N C X) best fin, sI .i64 h] true (se1R P H N X n best fin h) := by
  rw [vc_se1]
  intro x1 x2 x3 x4 x5 x6 x7 x8
  have e1 : x1 = trE P H N n best fin := rfl
  have e8 : x8 = lnN P best := rfl
  clear_value x1 x8
  have bad : seE P H N n best fin h ≠ 0 → (∃ _ac : List Nat → Option Go.Addr × Nat, True ∧ x3 = 0 ∧ ((0 : Int) = x4 ∧ True) ∧ ((0 : Int) = x5 ∧ True) ∧ True) := fun hc => ⟨fun _ => (none, 0), trivial, if_neg hc, ⟨(if_neg hc).symm, trivial⟩, ⟨(if_neg hc).symm, trivial⟩, trivial⟩
  refine ⟨ht, fun h1 => ?_, fun h1 => ?_⟩
  · have h1 : x1 ≠ 0 := by simpa using h1
    have es : seE P H N n best fin h = trE P H N n best fin := if_pos (by rw [← e1]; exact h1)
    exact ⟨bad (by rw [es, ← e1]; exact h1), by rw [es, e1]⟩
  have h1 : x1 = 0 := by simpa using h1
  have h0 : trE P H N n best fin = 0 := by rw [← e1, h1]
  have hk := okT_of h0
  have p := OkT.tr (f := blkF P H A N C X) hk ht
  have b0 := hk.bst0
  have b1 := hk.bst1
  have f0 := hk.fin0
  have f1 := hk.fin1
  have few := hk.few
  have es : seE P H N n best fin h = if h < H fin.toNat ∨ H best.toNat < h then 6 else 0 := if_neg (fun c => c h0)
  have lf := tr_line (by omega) hk.row f0 f1
  have lb := tr_line (by omega) hk.row b0 b1
  have lf1 := ln_step (tr_par hk.row) f0 f1
  refine ⟨⟨f0, f1⟩, id, id, id, id, fun _ => ⟨b0, b1⟩, id, id, id, id, fun hc => by show (!x6) = true; rw [hc]; rfl, fun hc => ?_, fun hc => ?_⟩
  · have hc : (decide (h < H fin.toNat) || decide (h > H best.toNat)) = true := hc
    simp only [Bool.or_eq_true, decide_eq_true_eq] at hc
    have e6 : seE P H N n best fin h = 6 := by rw [es, if_pos (by omega)]
    exact ⟨bad (by rw [e6]; decide), e6.symm⟩
  · have hc : (decide (h < H fin.toNat) || decide (h > H best.toNat)) = false := hc
    simp only [Bool.or_eq_false_iff, decide_eq_false_iff_not] at hc
    have e0 : seE P H N n best fin h = 0 := by rw [es, if_neg (by omega)]
    refine ⟨p, hk.row, b0, b1, fun _ _ _ _ => ⟨⟨by omega, by omega⟩, ⟨ht, by omega, tr_few hk.row, ?_⟩, fun ac _ _ _ _ _ => ⟨⟨ac, trivial, ⟨(if_pos e0).symm, fun i hi => ⟨rfl, rfl, ⟨rfl, rfl, rfl, fun j _ => allC_of fun c _ => cl_eq (fun _ => rfl) rfl fun _ => rfl⟩⟩⟩, ⟨(if_pos e0).symm, trivial⟩, ⟨(if_pos e0).symm, trivial⟩, trivial⟩, e0.symm⟩⟩⟩
    show sm (cM N (mOf X) n) (sm N n) ≤ _
    rw [flat_to n (Nat.le_refl _)]; exact hT
theorem card_se1 {gl : Globs} : FnOKs Try.prog gl 12 cSe1 := by
  refine FnOKs.up0 (FnOKs_R0 (cx := cxG1) okx_G1 (sl := slS1) (oks_cons card_ck (oks_cons card_li (oks_cons card_on oks_nil))) Try.func12 (by kernel_rfl) (by kernel_rfl) fun ls hc => ?_) gl
  unfold se1C at hc
  split at hc
  · rename_i a n cap f best fin h
    obtain ⟨q, hT, _⟩ := hc
    refine ⟨_, _, _, fun ρ => ?_, fun E hE x hx => ?_, ex_cl, ok_se1 a n cap (fun i => iAt f i 0) (fun i => iAt f i 1) (fun i => aAt (f i 2)) (fun i => nAt (f i 2)) (fun i => cAt (f i 2)) (fun i => xAt (f i 2)) best fin h q.told hT⟩
    · rfl
    · rcases List.mem_cons.1 hx with rfl | hx
      · exact tr_told (fun i _ c hc => q.tf i c hc) (hE (sTr a n cap f best fin) (List.mem_cons_self ..))
      · exact hE x (List.mem_cons_of_mem _ hx)
  · exact hc.1.elim
end Go.Proofs.Ytnomjdechekapaa
end

section
namespace Go.Proofs.Ytnomjdechekapaa
open Go.Sx
set_option maxRecDepth 100000
def byF (B : Nat → Int) (i _ : Nat) : SC := .val (.int .u8 (B i))
def sBy (a : Option Addr) (n cap : Nat) (B : Nat → Int) : SA := .sc (.xs a n cap 1 (byF B))
structure byP (n m : Nat) (f g : Nat → Nat → SC) : Prop where
  bn : n = m
  bf : f = byF fun i => iAt f i 0
  bg : g = byF fun i => iAt g i 0
  be : ∀ i, i < n → iAt f i 0 = iAt g i 0
  bl : n ≤ maxLen
def byC : List (List FD) → List Prop
  | [[.x _ n _ f], [.x _ m _ g]] => [byP n m f g]
  | _ => [False]
def byG : List (List FD) → List RS
  | [[.x _ _ _ _], [.x _ _ _ _]] => [.v (sB true)]
  | _ => []
def cBy : SSpec := specQ0 false [.one (.x 1), .one (.x 1)] byC byG
def slBy : List (Nat × SSpec) := [(31, cBy)]
def ksCa (V : Nat → Int) (a : Option Addr) (n cap : Nat) (B : Nat → Int) : List SK :=
  [.c (.val (.int .i64 (V 0))), .f .u8 32 (fun i => V (1 + i)), .f .u8 32 (fun i => V (33 + i)), .c (.val (.int .i64 (V 65))), .f .u64 4 (fun i => V (66 + i)), .f .u64 4 (fun i => V (70 + i)), .f .u8 32 (fun i => V (74 + i)), .c (.val (.int .i64 (V 106))), .c (.val (.int .i64 (V 107))), .c (.xs a n cap 1 (byF B))]
def caP (x y : List SK) : Prop := ∃ (V : Nat → Int) (a b : Option Addr) (n cap cb : Nat) (B B' : Nat → Int), flat x = flat (ksCa V a n cap B) ∧ flat y = flat (ksCa V b n cb B') ∧ (∀ i, i < n → B i = B' i) ∧ n ≤ maxLen
def cCa : SSpec := ⟨false, fun args => match args with
  | [.agg x, .agg y] => some ([caP x y], [.v (sB true)])
  | _ => none⟩
theorem vc_sby (a b : Option Addr) (n cap cb : Nat) (B B' : Nat → Int) :
    OwesR Try.prog .none [] [] 4 Try.f31 [sBy a n cap B, sBy b n cb B'] false [.v (sB true)] =
    ((∀ (_ : Nat), True) ∧ (∀ (_ : Nat), True) ∧ ((bytesI (List.map (fun (j : Nat) => B j) (List.range n))).toList == (bytesI (List.map (fun (j : Nat) => B' j) (List.range n))).toList) = Bool.true) := by kernel_rfl
theorem vc_sca (V : Nat → Int) (a b : Option Addr) (n cap cb : Nat) (B B' : Nat → Int) :
    OwesR Try.prog cxBo slBy [] 4 Try.f25 [.agg (ksCa V a n cap B), .agg (ksCa V b n cb B')] false [.v (sB true)] =
    (let x1 : Bool := V 0 == V 0; let x2 : Prop := x1 = Bool.true; let x3 : Bool := x1 && conj [(List.range 32).all fun (j : Nat) => intsC ((flat (toKs (SA.agg (ksCa V a n cap B)))).getD (1 + (0 + j)) (SC.bit Bool.false)) == intsC ((flat (toKs (SA.agg (ksCa V b n cb B')))).getD (1 + (0 + j)) (SC.bit Bool.false))]; let x4 : Prop := x3 = Bool.true; let x5 : Bool := x3 && conj [(List.range 32).all fun (j : Nat) => intsC ((flat (toKs (SA.agg (ksCa V a n cap B)))).getD (33 + (0 + j)) (SC.bit Bool.false)) == intsC ((flat (toKs (SA.agg (ksCa V b n cb B')))).getD (33 + (0 + j)) (SC.bit Bool.false))]; let x6 : Prop := x5 = Bool.true; let x7 : Bool := x5 && V 65 == V 65; let x8 : Prop := x7 = Bool.true; let x9 : Bool := x7 && conj [V 66 == V 66, V 67 == V 67, V 68 == V 68, V 69 == V 69]; let x10 : Prop := x9 = Bool.true; let x11 : Bool := x9 && conj [V 70 == V 70, V 71 == V 71, V 72 == V 72, V 73 == V 73]; let x12 : Prop := x11 = Bool.true; let x13 : Bool := x11 && conj [(List.range 32).all fun (j : Nat) => intsC ((flat (toKs (SA.agg (ksCa V a n cap B)))).getD (74 + (0 + j)) (SC.bit Bool.false)) == intsC ((flat (toKs (SA.agg (ksCa V b n cb B')))).getD (74 + (0 + j)) (SC.bit Bool.false))]; let x14 : Prop := x13 = Bool.true; let x15 : Bool := x13 && V 106 == V 106; let x16 : Prop := x15 = Bool.true; let x17 : Prop := (x15 && V 107 == V 107) = Bool.true; ∀ (_ _ : Go.Addr), (x2 → x2) ∧ (x2 → x2) ∧ (x2 → x2) ∧ (x2 → x2) ∧ (x2 → x2) ∧ (x4 → x4) ∧ (x4 → x4) ∧ (x4 → x4) ∧ (x4 → x4) ∧ (x4 → x4) ∧ (x6 → x6) ∧ (x6 → x6) ∧ (x6 → x6) ∧ (x6 → x6) ∧ (x6 → x6) ∧ (x8 → x8) ∧ (x8 → x8) ∧ (x8 → x8) ∧ (x8 → x8) ∧ (x8 → x8) ∧ (x10 → x10) ∧ (x10 → x10) ∧ (x10 → x10) ∧ (x10 → x10) ∧ (x10 → x10) ∧ (x12 → x12) ∧ (x12 → x12) ∧ (x12 → x12) ∧ (x12 → x12) ∧ (x12 → x12) ∧ (x14 → x14) ∧ (x14 → x14) ∧ (x14 → x14) ∧ (x14 → x14) ∧ (x14 → x14) ∧ (x16 → x16) ∧ (x16 → x16) ∧ (x16 → x16) ∧ (x16 → x16) ∧ (x16 → x16) ∧ (x17 → x17) ∧ (x17 → x17) ∧ (x17 → x17 ∧ x17 ∧ byP n n (byF B) (byF B') ∧ Bool.true = Bool.true) ∧ ((x15 && V 107 == V 107) = Bool.false → Bool.false = Bool.true)) := by kernel_rfl
end Go.Proofs.Ytnomjdechekapaa
end

section
namespace Go.Proofs.Ytnomjdechekapaa
open Go.Sx
set_option maxRecDepth 100000
theorem ok_sby (a b : Option Addr) (n cap cb : Nat) (B B' : Nat → Int) (h : ∀ i, i < n → B i = B' i) :
    OwesR Try.prog .none [] [] 4 Try.f31 [sBy a n cap B, sBy b n cb B'] false [.v (sB true)] := by
  rw [vc_sby]
  have e : List.map (fun j => B j) (List.range n) = List.map (fun j => B' j) (List.range n) := List.map_congr_left fun j hj => h j (List.mem_range.1 hj)
  rw [e]
  exact ⟨fun _ => trivial, fun _ => trivial, beq_self_eq_true _⟩
theorem card_by {gl : Globs} : FnOKs Try.prog gl 31 cBy := by
  refine FnOKs.up0 (FnOKs_R0 (cx := .none) okx_nil (sl := []) oks_nil Try.func31 (by kernel_rfl) (by kernel_rfl) fun ls hc => ?_) gl
  unfold byC at hc
  split at hc
  · rename_i a n cap f b m cb g
    obtain ⟨p, _⟩ := hc
    have hm := p.bn
    subst hm
    have := ok_sby a b n cap cb (fun i => iAt f i 0) (fun i => iAt g i 0) p.be
    unfold sBy at this
    rw [← p.bf, ← p.bg] at this
    refine ⟨_, _, _, fun ρ => rfl, fun E hE y hy => hE y hy, fun r hr => ?_, this⟩
    rw [List.mem_singleton.1 hr]; exact trivial
  · exact hc.1.elim
def caPre (V : Nat → Int) : List SC := flat ((ksCa V none 0 0 V).take 9)
theorem ca_flat (V : Nat → Int) (a : Option Addr) (n cap : Nat) (B : Nat → Int) : flat (toKs (.agg (ksCa V a n cap B))) = caPre V ++ [.xs a n cap 1 (byF B)] := rfl
theorem ca_len (V : Nat → Int) : (caPre V).length = 108 := rfl
theorem ca_row (V : Nat → Int) (a b : Option Addr) (n m cap cb : Nat) (B B' : Nat → Int) (k : Nat) (hk : k + 32 ≤ 108) :
    conj [(List.range 32).all fun j => intsC ((flat (toKs (.agg (ksCa V a n cap B)))).getD (k + (0 + j)) (.bit false)) == intsC ((flat (toKs (.agg (ksCa V b m cb B')))).getD (k + (0 + j)) (.bit false))] = true := by
  show List.all _ _ = true
  refine List.all_eq_true.2 fun j hj => ?_
  have hj := List.mem_range.1 hj
  have hl : k + (0 + j) < (caPre V).length := by rw [ca_len]; omega
  rw [ca_flat, ca_flat, List.getD_eq_getElem?_getD, List.getD_eq_getElem?_getD, List.getElem?_append_left hl, List.getElem?_append_left hl]
  exact beq_self_eq_true _
theorem ok_sca (V : Nat → Int) (a b : Option Addr) (n cap cb : Nat) (B B' : Nat → Int) (h : ∀ i, i < n → B i = B' i) (hn : n ≤ maxLen) :
    OwesR Try.prog cxBo slBy [] 4 Try.f25 [.agg (ksCa V a n cap B), .agg (ksCa V b n cb B')] false [.v (sB true)] := by
  rw [vc_sca]
  intro x1 x2 x3 x4 x5 x6 x7 x8 x9 x10 x11 x12 x13 x14 x15 x16 x17 _ _
  have h1 : x1 = true := beq_self_eq_true _
  have h3 : x3 = true := by show (x1 && _) = true; rw [h1, ca_row V a b n n cap cb B B' 1 (by omega)]; rfl
  have h5 : x5 = true := by show (x3 && _) = true; rw [h3, ca_row V a b n n cap cb B B' 33 (by omega)]; rfl
  have h7 : x7 = true := by show (x5 && _) = true; rw [h5, beq_self_eq_true]; rfl
  have h9 : x9 = true := by show (x7 && _) = true; rw [h7, beq_self_eq_true, beq_self_eq_true, beq_self_eq_true, beq_self_eq_true]; rfl
  have h11 : x11 = true := by show (x9 && _) = true; rw [h9, beq_self_eq_true, beq_self_eq_true, beq_self_eq_true, beq_self_eq_true]; rfl
  have h13 : x13 = true := by show (x11 && _) = true; rw [h11, ca_row V a b n n cap cb B B' 74 (by omega)]; rfl
  have h15 : x15 = true := by show (x13 && _) = true; rw [h13, beq_self_eq_true]; rfl
  have h17 : (x15 && V 107 == V 107) = true := by rw [h15, beq_self_eq_true]; rfl
  clear_value x1 x3 x5 x7 x9 x11 x13 x15
  have hby : byP n n (byF B) (byF B') := ⟨rfl, rfl, rfl, h, hn⟩
  have hlast : x17 → x17 ∧ x17 ∧ byP n n (byF B) (byF B') ∧ true = true := fun k => ⟨k, k, hby, rfl⟩
  have hno : (x15 && V 107 == V 107) = false → false = true := fun k => by rw [h17] at k; cases k
  repeat' (first | exact id | exact hno | exact fun k => ⟨k, k, hby, rfl⟩ | refine ⟨?_, ?_⟩)
theorem ca_bnd {x : List SK} {V : Nat → Int} {a : Option Addr} {n cap : Nat} {B : Nat → Int} {fz : Nat → Nat → Go.Value → Prop} (h : (SA.agg x).bnd ⟨fun _ => True, fz⟩) (e : flat x = flat (ksCa V a n cap B)) : (SA.agg (ksCa V a n cap B)).bnd ⟨fun _ => False, fz⟩ := by
  refine bnd_flat.2 fun c hc => ?_
  have hb : c.bnd ⟨fun _ => True, fz⟩ := bnd_flat.1 h c (by rw [e]; exact hc)
  exact SC.bndB_none (List.all_eq_true.1 (rfl : (flat (ksCa V a n cap B)).all (SC.bndB fun _ => false) = true) c hc) hb
theorem card_ca {gl : Globs} : FnOKs Try.prog gl 25 cCa := by
  refine FnOKs.up0 (FnOKs_owes (cx := cxBo) okx_Bo (sl := slBy) (oks_cons card_by oks_nil) Try.func25 (by kernel_rfl) (by kernel_rfl) fun args ps rs hs hp => ?_) gl
  unfold cCa at hs
  simp only at hs
  split at hs
  · rename_i x y
    simp only [Option.some.injEq, Prod.mk.injEq] at hs
    obtain ⟨rfl, rfl⟩ := hs
    obtain ⟨⟨V, a, b, n, cap, cb, B, B', e1, e2, h, hn⟩, _⟩ := hp
    refine ⟨_, _, _, fun ρ => ?_, fun fz hx z hz => ?_, fun r hr => ?_, ok_sca V a b n cap cb B B' h hn⟩
    · simp only [List.map_cons, List.map_nil, SA.conc, concs, e1, e2]
    · rcases List.mem_cons.1 hz with rfl | hz
      · exact ca_bnd (hx (.agg x) (List.mem_cons_self ..)) e1
      · rw [List.mem_singleton.1 hz]
        exact ca_bnd (hx (.agg y) (List.mem_cons_of_mem _ (List.mem_cons_self ..))) e2
    · rw [List.mem_singleton.1 hr]; exact trivial
  · cases hs
end Go.Proofs.Ytnomjdechekapaa
end

section
namespace Go.Proofs.Ytnomjdechekapaa
open Go.Sx
set_option maxRecDepth 100000
def pyT (_ a : Option Addr) (n cap : Nat) (f : Nat → Nat → SC) (best fin : Int) (d : Addr) : SA := .sc (.px d 3 (fun c => ([.xs a n cap 3 f, .val (.int .i64 best), .val (.int .i64 fin)] : List SC).getD c (.bit false)))
def invSm (a a' : Option Addr) (n cap cap' : Nat) (P H : Nat → Int) (A A' : Nat → Option Addr) (N C C' : Nat → Nat) (X X' : Nat → Nat → Nat → SC) (best fin : Int) : Inv where
  X := Nat × Addr × Addr
  tm y := slotsAt 87 [(2, .one (pyT a a n cap (blkF P H A N C X) best fin y.2.1)), (3, .one (pyT a' a' n cap' (blkF P H A' N C' X') best fin y.2.2)), (31, .one (.sc (.xs a n cap 3 (blkF P H A N C X)))), (32, .one (sI .i64 (n : Int))), (33, .one (sI .i64 (y.1 : Int)))]
  ob _ := []
  holds y := y.1 ≤ n
  less y := n - y.1
def invSu (a a' : Option Addr) (n cap cap' : Nat) (P H : Nat → Int) (A A' : Nat → Option Addr) (N C C' : Nat → Nat) (X X' : Nat → Nat → Nat → SC) (best fin : Int) : Inv where
  X := Nat × Nat × Addr × Addr
  tm y := slotsAt 87 [(2, .one (pyT a a n cap (blkF P H A N C X) best fin y.2.2.1)), (3, .one (pyT a' a' n cap' (blkF P H A' N C' X') best fin y.2.2.2)), (6, .one (.sc (.ptr 10 0))), (7, .one (.sc (.ptr 11 0))), (31, .one (.sc (.xs a n cap 3 (blkF P H A N C X)))), (32, .one (sI .i64 (n : Int))), (33, .one (sI .i64 (y.1 : Int))), (68, .one (.sc (.xs (A y.1) (N y.1) (C y.1) 109 (X y.1)))), (69, .one (sI .i64 (N y.1 : Int))), (70, .one (sI .i64 (y.2.1 : Int)))]
  ob y := List.replicate 10 .dead ++ [.cells 42 [.c (.val (.int .i64 (P y.1))), .c (.val (.int .i64 (H y.1))), .c (.xs (A y.1) (N y.1) (C y.1) 109 (X y.1))] 0, .cells 42 [.c (.val (.int .i64 (P y.1))), .c (.val (.int .i64 (H y.1))), .c (.xs (A' y.1) (N y.1) (C' y.1) 109 (X' y.1))] 0]
  holds y := y.1 < n ∧ y.2.1 ≤ N y.1
  less y := N y.1 - y.2.1
def cCaF : FSpec := fun args => match args with
  | [.agg x, .agg y] => some ([caP x y], .one (sB true))
  | _ => none
def cxSm : Cx := ⟨[(25, cCaF), (1000000008, fun _ => none), (1000000010, fun _ => none), (1000000012, fun _ => none), (1000000013, fun _ => none), (1000000014, fun _ => none), (1000000019, fun _ => none)], [], 0, []⟩
theorem vc_sm (a a' : Option Addr) (n cap cap' : Nat) (P H : Nat → Int) (A A' : Nat → Option Addr) (N C C' : Nat → Nat) (X X' : Nat → Nat → Nat → SC) (best fin : Int) :
    OwesR Try.prog cxSm [] [(4, .inv (invSm a a' n cap cap' P H A A' N C C' X X' best fin)), (10, .invR (invSu a a' n cap cap' P H A A' N C C' X X' best fin) (fun y0 y => y.1 = y0.1))] 4 Try.f11 [sTr a n cap (blkF P H A N C X) best fin, sTr a' n cap' (blkF P H A' N C' X') best fin] false [.v (sB true)] =
    (let x1 : Prop := (!best != best) = Bool.true; let x2 : Bool := best != best || fin != fin; let x3 : Prop := (!x2) = Bool.true; let x4 : Prop := simC ([SC.xs a n cap 3 (blkF P H A N C X), SC.val (Go.Value.int Go.IntKind.i64 best), SC.val (Go.Value.int Go.IntKind.i64 fin)].getD 0 (SC.bit Bool.false)) ([SC.xs a n cap 3 (blkF P H A N C X), SC.val (Go.Value.int Go.IntKind.i64 best), SC.val (Go.Value.int Go.IntKind.i64 fin)].getD 0 (SC.bit Bool.false)) ∧ simC ([SC.xs a n cap 3 (blkF P H A N C X), SC.val (Go.Value.int Go.IntKind.i64 best), SC.val (Go.Value.int Go.IntKind.i64 fin)].getD 1 (SC.bit Bool.false)) ([SC.xs a n cap 3 (blkF P H A N C X), SC.val (Go.Value.int Go.IntKind.i64 best), SC.val (Go.Value.int Go.IntKind.i64 fin)].getD 1 (SC.bit Bool.false)) ∧ fin = fin; let x5 : Prop := simC ([SC.xs a' n cap' 3 (blkF P H A' N C' X'), SC.val (Go.Value.int Go.IntKind.i64 best), SC.val (Go.Value.int Go.IntKind.i64 fin)].getD 0 (SC.bit Bool.false)) ([SC.xs a' n cap' 3 (blkF P H A' N C' X'), SC.val (Go.Value.int Go.IntKind.i64 best), SC.val (Go.Value.int Go.IntKind.i64 fin)].getD 0 (SC.bit Bool.false)) ∧ simC ([SC.xs a' n cap' 3 (blkF P H A' N C' X'), SC.val (Go.Value.int Go.IntKind.i64 best), SC.val (Go.Value.int Go.IntKind.i64 fin)].getD 1 (SC.bit Bool.false)) ([SC.xs a' n cap' 3 (blkF P H A' N C' X'), SC.val (Go.Value.int Go.IntKind.i64 best), SC.val (Go.Value.int Go.IntKind.i64 fin)].getD 1 (SC.bit Bool.false)) ∧ fin = fin; ∀ (a_1 a_2 : Go.Addr), (x1 → x1) ∧ (x1 → x1) ∧ (x1 → x1) ∧ (x1 → x1) ∧ ((best != best) = Bool.false → x1) ∧ (x3 → x3) ∧ (x3 → x3) ∧ (x3 → x3) ∧ (x3 → x3) ∧ (x3 → x3) ∧ (x3 → x3) ∧ (x2 = Bool.false → x3) ∧ ((x2 || (↑n : Int) != (↑n : Int)) = Bool.true → Bool.false = Bool.true) ∧ ((x2 || (↑n : Int) != (↑n : Int)) = Bool.false → (∀ (y : Nat × Go.Addr × Go.Addr), closedB (slotsAt 87 [(2, SV.one (pyT a a n cap (blkF P H A N C X) best fin y.snd.fst)), (3, SV.one (pyT a' a' n cap' (blkF P H A' N C' X') best fin y.snd.snd)), (31, SV.one (SA.sc (SC.xs a n cap 3 (blkF P H A N C X)))), (32, SV.one (sI Go.IntKind.i64 (↑n : Int))), (33, SV.one (sI Go.IntKind.i64 (↑y.fst : Int)))]) [] = Bool.true) ∧ ∃ (y : Nat × Go.Addr × Go.Addr), y.fst ≤ n ∧ (a_1 = y.snd.fst ∧ simC ((flat (toKs (sTr a n cap (blkF P H A N C X) best fin))).getD 0 (SC.bit Bool.false)) ([SC.xs a n cap 3 (blkF P H A N C X), SC.val (Go.Value.int Go.IntKind.i64 best), SC.val (Go.Value.int Go.IntKind.i64 fin)].getD 0 (SC.bit Bool.false)) ∧ simC ((flat (toKs (sTr a n cap (blkF P H A N C X) best fin))).getD 1 (SC.bit Bool.false)) ([SC.xs a n cap 3 (blkF P H A N C X), SC.val (Go.Value.int Go.IntKind.i64 best), SC.val (Go.Value.int Go.IntKind.i64 fin)].getD 1 (SC.bit Bool.false)) ∧ fin = fin) ∧ (a_2 = y.snd.snd ∧ simC ((flat (toKs (sTr a' n cap' (blkF P H A' N C' X') best fin))).getD 0 (SC.bit Bool.false)) ([SC.xs a' n cap' 3 (blkF P H A' N C' X'), SC.val (Go.Value.int Go.IntKind.i64 best), SC.val (Go.Value.int Go.IntKind.i64 fin)].getD 0 (SC.bit Bool.false)) ∧ simC ((flat (toKs (sTr a' n cap' (blkF P H A' N C' X') best fin))).getD 1 (SC.bit Bool.false)) ([SC.xs a' n cap' 3 (blkF P H A' N C' X'), SC.val (Go.Value.int Go.IntKind.i64 best), SC.val (Go.Value.int Go.IntKind.i64 fin)].getD 1 (SC.bit Bool.false)) ∧ fin = fin) ∧ simC (SC.xs a n cap 3 (blkF P H A N C X)) (SC.xs a n cap 3 (blkF P H A N C X)) ∧ (↑n : Int) = (↑n : Int) ∧ (0 : Int) = (↑y.fst : Int) ∧ ∀ (y : Nat × Go.Addr × Go.Addr), let x101 : Prop := (!P (↑y.fst : Int).toNat != P (↑y.fst : Int).toNat) = Bool.true; let x102 : Prop := (!(P (↑y.fst : Int).toNat != P (↑y.fst : Int).toNat || H (↑y.fst : Int).toNat != H (↑y.fst : Int).toNat)) = Bool.true; y.fst ≤ n → (Decidable.decide ((↑y.fst : Int) < (↑n : Int)) = Bool.true → ((0 : Int) ≤ (↑y.fst : Int) ∧ (↑y.fst : Int) < (↑n : Int)) ∧ ((0 : Int) ≤ (↑y.fst : Int) ∧ (↑y.fst : Int) < (↑n : Int)) ∧ (x101 → x101) ∧ (x101 → x101) ∧ (x101 → x101) ∧ (x101 → x101) ∧ ((P (↑y.fst : Int).toNat != P (↑y.fst : Int).toNat) = Bool.false → x101) ∧ (x102 → x102) ∧ (x102 → x102) ∧ (x102 → x102) ∧ (x102 → x102) ∧ (x102 → x102) ∧ (x102 → x102) ∧ ((P (↑y.fst : Int).toNat != P (↑y.fst : Int).toNat || H (↑y.fst : Int).toNat != H (↑y.fst : Int).toNat) = Bool.false → x102) ∧ ((P (↑y.fst : Int).toNat != P (↑y.fst : Int).toNat || H (↑y.fst : Int).toNat != H (↑y.fst : Int).toNat || (↑(N (↑y.fst : Int).toNat) : Int) != (↑(N (↑y.fst : Int).toNat) : Int)) = Bool.true → Bool.false = Bool.true) ∧ ((P (↑y.fst : Int).toNat != P (↑y.fst : Int).toNat || H (↑y.fst : Int).toNat != H (↑y.fst : Int).toNat || (↑(N (↑y.fst : Int).toNat) : Int) != (↑(N (↑y.fst : Int).toNat) : Int)) = Bool.false → (∀ (y : Nat × Nat × Go.Addr × Go.Addr), closedB (slotsAt 87 [(2, SV.one (pyT a a n cap (blkF P H A N C X) best fin y.snd.snd.fst)), (3, SV.one (pyT a' a' n cap' (blkF P H A' N C' X') best fin y.snd.snd.snd)), (6, SV.one (SA.sc (SC.ptr 10 0))), (7, SV.one (SA.sc (SC.ptr 11 0))), (31, SV.one (SA.sc (SC.xs a n cap 3 (blkF P H A N C X)))), (32, SV.one (sI Go.IntKind.i64 (↑n : Int))), (33, SV.one (sI Go.IntKind.i64 (↑y.fst : Int))), (68, SV.one (SA.sc (SC.xs (A y.fst) (N y.fst) (C y.fst) 109 (X y.fst)))), (69, SV.one (sI Go.IntKind.i64 (↑(N y.fst) : Int))), (70, SV.one (sI Go.IntKind.i64 (↑y.snd.fst : Int)))]) (List.replicate 10 SO.dead ++ [SO.cells (42 : Go.TypeId) [SK.c (SC.val (Go.Value.int Go.IntKind.i64 (P y.fst))), SK.c (SC.val (Go.Value.int Go.IntKind.i64 (H y.fst))), SK.c (SC.xs (A y.fst) (N y.fst) (C y.fst) 109 (X y.fst))] 0, SO.cells (42 : Go.TypeId) [SK.c (SC.val (Go.Value.int Go.IntKind.i64 (P y.fst))), SK.c (SC.val (Go.Value.int Go.IntKind.i64 (H y.fst))), SK.c (SC.xs (A' y.fst) (N y.fst) (C' y.fst) 109 (X' y.fst))] 0]) = Bool.true) ∧ ∃ (y0 : Nat × Nat × Go.Addr × Go.Addr), ((y0.fst < n ∧ y0.snd.fst ≤ N y0.fst) ∧ y0.fst = y0.fst) ∧ (y.snd.fst = y0.snd.snd.fst ∧ x4) ∧ (y.snd.snd = y0.snd.snd.snd ∧ x5) ∧ simC (SC.xs a n cap 3 (blkF P H A N C X)) (SC.xs a n cap 3 (blkF P H A N C X)) ∧ (↑n : Int) = (↑n : Int) ∧ (↑y.fst : Int) = (↑y0.fst : Int) ∧ (A (↑y.fst : Int).toNat = A y0.fst ∧ N (↑y.fst : Int).toNat = N y0.fst ∧ C (↑y.fst : Int).toNat = C y0.fst ∧ ∀ (i : Nat), i < N (↑y.fst : Int).toNat → allC 109 fun (c : Nat) => simC (X (↑y.fst : Int).toNat i c) (X y0.fst i c)) ∧ (↑(N (↑y.fst : Int).toNat) : Int) = (↑(N y0.fst) : Int) ∧ (0 : Int) = (↑y0.snd.fst : Int) ∧ P (↑y.fst : Int).toNat = P y0.fst ∧ H (↑y.fst : Int).toNat = H y0.fst ∧ (A (↑y.fst : Int).toNat = A y0.fst ∧ N (↑y.fst : Int).toNat = N y0.fst ∧ C (↑y.fst : Int).toNat = C y0.fst ∧ ∀ (i : Nat), i < N (↑y.fst : Int).toNat → allC 109 fun (c : Nat) => simC (X (↑y.fst : Int).toNat i c) (X y0.fst i c)) ∧ 0 = 0 ∧ P (↑y.fst : Int).toNat = P y0.fst ∧ H (↑y.fst : Int).toNat = H y0.fst ∧ (A' (↑y.fst : Int).toNat = A' y0.fst ∧ N (↑y.fst : Int).toNat = N y0.fst ∧ C' (↑y.fst : Int).toNat = C' y0.fst ∧ ∀ (i : Nat), i < N (↑y.fst : Int).toNat → allC 109 fun (c : Nat) => simC (X' (↑y.fst : Int).toNat i c) (X' y0.fst i c)) ∧ 0 = 0 ∧ ∀ (y_1 : Nat × Nat × Go.Addr × Go.Addr), let x103 : Prop := (↑y_1.snd.fst : Int) < (↑(N y_1.fst) : Int); y_1.fst < n ∧ y_1.snd.fst ≤ N y_1.fst → y_1.fst = y0.fst → (Decidable.decide x103 = Bool.true → ((0 : Int) ≤ (↑y_1.snd.fst : Int) ∧ x103) ∧ ((0 : Int) ≤ (↑y_1.snd.fst : Int) ∧ x103) ∧ (∃ (V : Nat → Int), ∃ (a : Option Go.Addr), ∃ (b : Option Go.Addr), ∃ (n : Nat), ∃ (cap : Nat), ∃ (cb : Nat), ∃ (B : Nat → Int), ∃ (B' : Nat → Int), flat (grpK (X y_1.fst (↑y_1.snd.fst : Int).toNat) 0 (segT Try.prog 8 55)) = flat (ksCa V a n cap B) ∧ flat (grpK (X' y_1.fst (↑y_1.snd.fst : Int).toNat) 0 (segT Try.prog 8 55)) = flat (ksCa V b n cb B') ∧ (∀ (i : Nat), i < n → B i = B' i) ∧ n ≤ Go.maxLen) ∧ ((!Bool.true) = Bool.true → Bool.false = Bool.true) ∧ ((!Bool.true) = Bool.false → ∃ (y' : Nat × Nat × Go.Addr × Go.Addr), ((y'.fst < n ∧ y'.snd.fst ≤ N y'.fst) ∧ y'.fst = y0.fst) ∧ (y_1.snd.snd.fst = y'.snd.snd.fst ∧ x4) ∧ (y_1.snd.snd.snd = y'.snd.snd.snd ∧ x5) ∧ simC (SC.xs a n cap 3 (blkF P H A N C X)) (SC.xs a n cap 3 (blkF P H A N C X)) ∧ (↑n : Int) = (↑n : Int) ∧ (↑y_1.fst : Int) = (↑y'.fst : Int) ∧ (A y_1.fst = A y'.fst ∧ N y_1.fst = N y'.fst ∧ C y_1.fst = C y'.fst ∧ ∀ (i : Nat), i < N y_1.fst → allC 109 fun (c : Nat) => simC (X y_1.fst i c) (X y'.fst i c)) ∧ (↑(N y_1.fst) : Int) = (↑(N y'.fst) : Int) ∧ Go.IntKind.i64.wrap ((↑y_1.snd.fst : Int) + (1 : Int)) = (↑y'.snd.fst : Int) ∧ P y_1.fst = P y'.fst ∧ H y_1.fst = H y'.fst ∧ (A y_1.fst = A y'.fst ∧ N y_1.fst = N y'.fst ∧ C y_1.fst = C y'.fst ∧ ∀ (i : Nat), i < N y_1.fst → allC 109 fun (c : Nat) => simC (X y_1.fst i c) (X y'.fst i c)) ∧ 0 = 0 ∧ P y_1.fst = P y'.fst ∧ H y_1.fst = H y'.fst ∧ (A' y_1.fst = A' y'.fst ∧ N y_1.fst = N y'.fst ∧ C' y_1.fst = C' y'.fst ∧ ∀ (i : Nat), i < N y_1.fst → allC 109 fun (c : Nat) => simC (X' y_1.fst i c) (X' y'.fst i c)) ∧ 0 = 0 ∧ (N y'.fst - y'.snd.fst).succ.le (N y_1.fst - y_1.snd.fst))) ∧ (Decidable.decide x103 = Bool.false → ∃ (y' : Nat × Go.Addr × Go.Addr), y'.fst ≤ n ∧ (y_1.snd.snd.fst = y'.snd.fst ∧ x4) ∧ (y_1.snd.snd.snd = y'.snd.snd ∧ x5) ∧ simC (SC.xs a n cap 3 (blkF P H A N C X)) (SC.xs a n cap 3 (blkF P H A N C X)) ∧ (↑n : Int) = (↑n : Int) ∧ Go.IntKind.i64.wrap ((↑y_1.fst : Int) + (1 : Int)) = (↑y'.fst : Int) ∧ (n - y'.fst).succ.le (n - y.fst)))) ∧ (Decidable.decide ((↑y.fst : Int) < (↑n : Int)) = Bool.false → Bool.true = Bool.true))) := by kernel_rfl
end Go.Proofs.Ytnomjdechekapaa
end

section
namespace Go.Proofs.Ytnomjdechekapaa
open Go.Sx
set_option maxRecDepth 100000
theorem ok_sm (a a' : Option Addr) (n cap cap' : Nat) (P H : Nat → Int) (A A' : Nat → Option Addr) (N C C' : Nat → Nat) (X X' : Nat → Nat → Nat → SC) (best fin : Int) (ht : tfP a n (blkF P H A N C X)) (ht' : tfP a' n (blkF P H A' N C' X'))
    (hs : ∀ i, i < n → ∀ j, j < N i → caP (grpK (X i j) 0 (segT Try.prog 8 55)) (grpK (X' i j) 0 (segT Try.prog 8 55))) :
    OwesR Try.prog cxSm [] [(4, .inv (invSm a a' n cap cap' P H A A' N C C' X X' best fin)), (10, .invR (invSu a a' n cap cap' P H A A' N C C' X X' best fin) (fun y0 y => y.1 = y0.1))] 4 Try.f11 [sTr a n cap (blkF P H A N C X) best fin, sTr a' n cap' (blkF P H A' N C' X') best fin] false [.v (sB true)] := by
  rw [vc_sm]
  have hML : maxLen = 9223372036854775807 := rfl
  have hn := ht.tn
  have hxs : simC (.xs a n cap 3 (blkF P H A N C X)) (.xs a n cap 3 (blkF P H A N C X)) := ⟨rfl, rfl, rfl, fun i hi => ⟨rfl, rfl, ht.ts i hi⟩⟩
  have hxs' : simC (.xs a' n cap' 3 (blkF P H A' N C' X')) (.xs a' n cap' 3 (blkF P H A' N C' X')) := ⟨rfl, rfl, rfl, fun i hi => ⟨rfl, rfl, ht'.ts i hi⟩⟩
  have hc : ∀ i j, allC 109 fun c => simC (X i j c) (X i j c) := fun i j => allC_of fun c hc => by
    have p : clP (X i) := ht.tc i
    rw [p.gf j c hc]; exact cl_refl
  have hc' : ∀ i j, allC 109 fun c => simC (X' i j c) (X' i j c) := fun i j => allC_of fun c hc => by
    have p : clP (X' i) := ht'.tc i
    rw [p.gf j c hc]; exact cl_refl
  intro x1 x2 x3 x4 x5 a1 a2
  have h4 : x4 := ⟨hxs, rfl, rfl⟩
  have h5 : x5 := ⟨hxs', rfl, rfl⟩
  have ne : ∀ u : Int, (u != u) = false := fun u => by simp
  have h2 : x2 = false := by show (_ || _) = false; rw [ne, ne]; rfl
  have h1 : x1 := by show (!_) = true; rw [ne]; rfl
  have h3 : x3 := by show (!x2) = true; rw [h2]; rfl
  refine ⟨id, id, id, id, fun _ => h1, id, id, id, id, id, id, fun _ => h3, fun h => ?_, fun _ => ⟨fun _ => rfl, (0, a1, a2), Nat.zero_le _, ⟨rfl, hxs, rfl, rfl⟩, ⟨rfl, hxs', rfl, rfl⟩, hxs, rfl, rfl, fun y => ?_⟩⟩
  · rw [h2, ne] at h; cases h
  intro x101 x102 hy
  refine ⟨fun hl => ?_, fun _ => rfl⟩
  have hl : y.1 < n := by have := of_decide_eq_true hl; omega
  have et : (y.1 : Int).toNat = y.1 := Int.toNat_natCast _
  have h101 : x101 := by show (!_) = true; rw [ne]; rfl
  have h102 : x102 := by show (!(_ || _)) = true; rw [ne, ne]; rfl
  refine ⟨⟨by omega, by omega⟩, ⟨by omega, by omega⟩, id, id, id, id, fun _ => h101, id, id, id, id, id, id, fun _ => h102, fun h => ?_, fun _ => ⟨fun _ => rfl, (y.1, 0, y.2.1, y.2.2), ⟨⟨hl, Nat.zero_le _⟩, rfl⟩, ⟨rfl, h4⟩, ⟨rfl, h5⟩, hxs, rfl, rfl, ?_, ?_, rfl, ?_, ?_, ?_, rfl, ?_, ?_, ?_, rfl, fun z => ?_⟩⟩
  · rw [ne, ne, ne] at h; cases h
  · rw [et]; exact ⟨rfl, rfl, rfl, fun i _ => hc _ i⟩
  · rw [et]
  · rw [et]
  · rw [et]
  · rw [et]; exact ⟨rfl, rfl, rfl, fun i _ => hc _ i⟩
  · rw [et]
  · rw [et]
  · rw [et]; exact ⟨rfl, rfl, rfl, fun i _ => hc' _ i⟩
  intro x103 hz hr
  obtain ⟨hz1, hz2⟩ := hz
  have hr : z.1 = y.1 := hr
  refine ⟨fun h => ?_, fun h => ?_⟩
  · have h : (z.2.1 : Int) < (N z.1 : Int) := of_decide_eq_true h
    have ez : (z.2.1 : Int).toNat = z.2.1 := Int.toNat_natCast _
    refine ⟨⟨by omega, h⟩, ⟨by omega, h⟩, ?_, fun h => (by cases h), fun _ => ⟨(z.1, z.2.1 + 1, z.2.2.1, z.2.2.2), ⟨⟨hz1, (show z.2.1 + 1 ≤ N z.1 by omega)⟩, hr⟩, ⟨rfl, h4⟩, ⟨rfl, h5⟩, hxs, rfl, rfl, ⟨rfl, rfl, rfl, fun i _ => hc _ i⟩, rfl, ?_, rfl, rfl, ⟨rfl, rfl, rfl, fun i _ => hc _ i⟩, rfl, rfl, rfl, ⟨rfl, rfl, rfl, fun i _ => hc' _ i⟩, rfl, ?_⟩⟩
    · rw [ez]; exact hs z.1 hz1 z.2.1 (by omega)
    · show _ = ((z.2.1 + 1 : Nat) : Int)
      rw [IntKind.wrap_i64]
      have := ht.tm z.1 hz1
      have : N z.1 ≤ maxLen := this
      omega
    · show (N z.1 - (z.2.1 + 1)) + 1 ≤ N z.1 - z.2.1
      omega
  · refine ⟨(z.1 + 1, z.2.2.1, z.2.2.2), hz1, ⟨rfl, h4⟩, ⟨rfl, h5⟩, hxs, rfl, ?_, ?_⟩
    · show _ = ((z.1 + 1 : Nat) : Int)
      rw [IntKind.wrap_i64]; omega
    · show (n - (z.1 + 1)) + 1 ≤ _
      omega
theorem card_caF : FnOK Try.prog 25 cCaF :=
  FnOKs.plain Try.func25 (by kernel_rfl) (by kernel_rfl) (card_ca (gl := [])) fun args ps sv h => by
    unfold cCaF at h
    split at h
    · rename_i x y
      simp only [Option.some.injEq, Prod.mk.injEq] at h
      obtain ⟨rfl, rfl⟩ := h
      exact ⟨_, rfl, trivial, rfl⟩
    · cases h
structure stPr (a : Option Addr) (n : Nat) (f : Nat → Nat → SC) (b : Option Addr) (m : Nat) (g : Nat → Nat → SC) : Prop where
  pf : tfP a n f
  pg : tfP b n g
  nm : n = m
  pp : ∀ i, i < n → iAt g i 0 = iAt f i 0
  ph : ∀ i, i < n → iAt g i 1 = iAt f i 1
  pn : ∀ i, i < n → nAt (g i 2) = nAt (f i 2)
  pc : ∀ i, i < n → ∀ j, j < nAt (f i 2) → caP (grpK (xAt (f i 2) j) 0 (segT Try.prog 8 55)) (grpK (xAt (g i 2) j) 0 (segT Try.prog 8 55))
def smC : List (List FD) → List Prop
  | [[.x a n _ f, .i b, .i x], [.x a' m _ g, .i c, .i y]] => [stPr a n f a' m g, b = c, x = y]
  | _ => [False]
def smG : List (List FD) → List RS
  | [[.x _ _ _ _, .i _, .i _], [.x _ _ _ _, .i _, .i _]] => [.v (sB true)]
  | _ => []
def cSm : SSpec := specQ0 false [pqTr, pqTr] smC smG
theorem okx_Sm : CxOK Try.prog cxSm := okx_cons card_caF (okx_mark (okx_mark (okx_mark (okx_mark (okx_mark (okx_mark okx_nil))))))
theorem card_sm {gl : Globs} : FnOKs Try.prog gl 11 cSm := by
  refine FnOKs.up0 (FnOKs_R0 (cx := cxSm) okx_Sm (sl := []) oks_nil Try.func11 (by kernel_rfl) (by kernel_rfl) fun ls hc => ?_) gl
  unfold smC at hc
  split at hc
  · rename_i a n cap f best fin a' m cap' g best' fin'
    obtain ⟨p, rfl, rfl, _⟩ := hc
    have hm := p.nm
    subst hm
    refine ⟨_, _, _, fun ρ => ?_, fun E hE x hx => ?_, fun r hr => ?_, ok_sm a a' n cap cap' (fun i => iAt f i 0) (fun i => iAt f i 1) (fun i => aAt (f i 2)) (fun i => aAt (g i 2)) (fun i => nAt (f i 2)) (fun i => cAt (f i 2)) (fun i => cAt (g i 2)) (fun i => xAt (f i 2)) (fun i => xAt (g i 2)) best fin p.pf.told ⟨p.pg.tn, p.pg.ta, fun i c hc => ?_, fun i hi => p.pf.tm i hi, fun i => p.pg.tc i⟩ p.pc⟩
    · rfl
    · rcases List.mem_cons.1 hx with rfl | hx
      · exact tr_told (fun i _ c hc => p.pf.tf i c hc) (hE (sTr a n cap f best fin) (List.mem_cons_self ..))
      · rw [List.mem_singleton.1 hx]
        refine tr_told (fun i hi c hc => ?_) (hE (sTr a' n cap' g best fin) (List.mem_cons_of_mem _ (List.mem_cons_self ..)))
        rw [p.pg.tf i c hc]
        rcases c with _ | _ | _ | c
        · show SC.val (.int .i64 (iAt g i 0)) = .val (.int .i64 (iAt f i 0))
          rw [p.pp i hi]
        · show SC.val (.int .i64 (iAt g i 1)) = .val (.int .i64 (iAt f i 1))
          rw [p.ph i hi]
        · show SC.xs (aAt (g i 2)) (nAt (g i 2)) (cAt (g i 2)) 109 (xAt (g i 2)) = .xs (aAt (g i 2)) (nAt (f i 2)) (cAt (g i 2)) 109 (xAt (g i 2))
          rw [p.pn i hi]
        · omega
    · rw [List.mem_singleton.1 hr]; exact trivial
    · rcases c with _ | _ | _ | c
      · rfl
      · rfl
      · rfl
      · omega
  · exact hc.1.elim
end Go.Proofs.Ytnomjdechekapaa
end

section
namespace Go.Proofs.Ytnomjdechekapaa
open Go.Sx
set_option maxRecDepth 100000
def slFg : List (Nat × SSpec) := [(9, cGr1), (10, cGw), (11, cSm)]
def slFs : List (Nat × SSpec) := [(12, cSe1), (13, cSe), (11, cSm)]
theorem vc_lfg (a : Option Addr) (n cap : Nat) (P H : Nat → Int) (A : Nat → Option Addr) (N C : Nat → Nat) (X : Nat → Nat → Nat → SC) (best fin p : Int) (b : Option Addr) (m cb : Nat) (Y : Nat → Nat → SC) :
    OwesV Try.prog cxBo slFg [] 4 Try.f4 [sTr a n cap (blkF P H A N C X) best fin, sI .i64 p, .sc (.xs b m cb 109 Y)] yes =
    (let x1 : Int := gwE (fun (i : Nat) => iAt (blkF P H A N C X) i 0) (fun (i : Nat) => iAt (blkF P H A N C X) i 1) (fun (i : Nat) => nAt (blkF P H A N C X i 2)) n best fin p m; let x2 : Prop := x1 = (0 : Int); let x3 : Nat := if x2 then n + 1 else 0; let x4 : Int := if x2 then gwB (fun (i : Nat) => iAt (blkF P H A N C X) i 0) (fun (i : Nat) => iAt (blkF P H A N C X) i 1) n fin p else (0 : Int); let x5 : Int := if x2 then fin else (0 : Int); ∀ (_ : Go.Addr), tfP a n (blkF P H A N C X) ∧ clP Y ∧ n ≤ cap ∧ tot (fun (i : Nat) => nAt (blkF P H A N C X i 2)) (mOf fun (i : Nat) => xAt (blkF P H A N C X i 2)) n + sm (fun (j : Nat) => nAt (Y j 108)) m ≤ 281474976710656 ∧ ∀ (ac : List Nat → Option Go.Addr × Nat), True → ∀ (a_3 : Option Go.Addr) (cap : Nat), (a_3 = Option.none → x3 = 0 ∧ cap = 0) → x3 ≤ cap → tfP a n (blkF P H A N C X) ∧ clP Y ∧ ∀ (_ : List Nat → Option Go.Addr × Nat), True → ∀ (a : Option Go.Addr) (cap : Nat), (a = Option.none → x3 = 0 ∧ cap = 0) → x3 ≤ cap → stPr a_3 x3 (cpF (gwP (fun (i : Nat) => iAt (blkF P H A N C X) i 0) n p) (gwH (fun (i : Nat) => iAt (blkF P H A N C X) i 1) n p) (putN n (fun (i : Nat) => nAt (blkF P H A N C X i 2)) m) (fun (i : Nat) => iAt (putN n (fun (i : Nat) => xAt (blkF P H A N C X i 2)) Y i)) (mOf (putN n (fun (i : Nat) => xAt (blkF P H A N C X i 2)) Y)) (bOf (putN n (fun (i : Nat) => xAt (blkF P H A N C X i 2)) Y)) ac) a x3 (gwF (fun (i : Nat) => iAt (blkF P H A N C X) i 0) (fun (i : Nat) => iAt (blkF P H A N C X) i 1) (fun (i : Nat) => aAt (blkF P H A N C X i 2)) (fun (i : Nat) => nAt (blkF P H A N C X i 2)) (fun (i : Nat) => cAt (blkF P H A N C X i 2)) (fun (i : Nat) => xAt (blkF P H A N C X i 2)) n p b m cb Y) ∧ x4 = x4 ∧ x5 = x5 ∧ (Bool.true = Bool.true → Bool.true = Bool.true) ∧ (Bool.true = Bool.true → Bool.true = Bool.true) ∧ (Bool.true = Bool.true → Bool.true = Bool.true) ∧ (Bool.true && x1 == x1) = Bool.true) := by kernel_rfl
theorem vc_lfs (a : Option Addr) (n cap : Nat) (P H : Nat → Int) (A : Nat → Option Addr) (N C : Nat → Nat) (X : Nat → Nat → Nat → SC) (best fin h : Int) :
    OwesV Try.prog cxBo slFs [] 4 Try.f5 [sTr a n cap (blkF P H A N C X) best fin, sI .i64 h] yes =
    (let x1 : Int := seE (fun (i : Nat) => iAt (blkF P H A N C X) i 0) (fun (i : Nat) => iAt (blkF P H A N C X) i 1) (fun (i : Nat) => nAt (blkF P H A N C X i 2)) n best fin h; let x2 : Prop := x1 = (0 : Int); let x3 : Nat := if x2 then n else 0; let x4 : Int := if x2 then best else (0 : Int); let x5 : Int := if x2 then seF (fun (i : Nat) => iAt (blkF P H A N C X) i 0) best h else (0 : Int); ∀ (_ : Go.Addr), tfP a n (blkF P H A N C X) ∧ tot (fun (i : Nat) => nAt (blkF P H A N C X i 2)) (mOf fun (i : Nat) => xAt (blkF P H A N C X i 2)) n ≤ 281474976710656 ∧ ∀ (ac : List Nat → Option Go.Addr × Nat), True → ∀ (a_3 : Option Go.Addr) (cap : Nat), (a_3 = Option.none → x3 = 0 ∧ cap = 0) → x3 ≤ cap → tfP a n (blkF P H A N C X) ∧ ∀ (_ : List Nat → Option Go.Addr × Nat), True → ∀ (a : Option Go.Addr) (cap : Nat), (a = Option.none → x3 = 0 ∧ cap = 0) → x3 ≤ cap → stPr a_3 x3 (cpF (fun (i : Nat) => iAt (blkF P H A N C X) i 0) (fun (i : Nat) => iAt (blkF P H A N C X) i 1) (fun (i : Nat) => nAt (blkF P H A N C X i 2)) (fun (i : Nat) => iAt (xAt (blkF P H A N C X i 2))) (mOf fun (i : Nat) => xAt (blkF P H A N C X i 2)) (bOf fun (i : Nat) => xAt (blkF P H A N C X i 2)) ac) a x3 (fTr (blkF P H A N C X)) ∧ x4 = x4 ∧ x5 = x5 ∧ (Bool.true = Bool.true → Bool.true = Bool.true) ∧ (Bool.true = Bool.true → Bool.true = Bool.true) ∧ (Bool.true = Bool.true → Bool.true = Bool.true) ∧ (Bool.true && x1 == x1) = Bool.true) := by kernel_rfl
end Go.Proofs.Ytnomjdechekapaa
end

section
namespace Go.Proofs.Ytnomjdechekapaa
open Go.Sx
set_option maxRecDepth 100000
theorem ca_seg : segL (segT Try.prog 8 55) = 109 := by kernel_rfl
theorem ca_some : ((segT Try.prog 8 55).all fun x => Nat.blt 0 x.2) = true := by kernel_rfl
theorem ca_grp (V : Nat → Nat → Int) (A : Nat → Option Addr) (N C : Nat → Nat) (B : Nat → Nat → Int) (j : Nat) : flat (grpK (clF V A N C B j) 0 (segT Try.prog 8 55)) = flat (ksCa (V j) (A j) (N j) (C j) (B j)) := by kernel_rfl
theorem cells_congr {h h' : Nat → SC} {off n : Nat} (e : ∀ c, off ≤ c → c < off + n → h c = h' c) : cellsK h off n = cellsK h' off n := by
  unfold cellsK
  refine List.map_congr_left fun j hj => ?_
  rw [e (off + j) (by omega) (by have := List.mem_range.1 hj; omega)]
theorem row_congr2 {h h' : Nat → SC} {off n : Nat} (hn : 0 < n) (e : ∀ c, off ≤ c → c < off + n → h c = h' c) : flat (rowK h off n) = flat (rowK h' off n) := by
  unfold rowK
  rw [e off (Nat.le_refl _) (by omega)]
  have hc := cells_congr e
  split
  · rename_i k _
    have ha : ((List.range n).all fun j => kindC (h (off + j)) == some k) = ((List.range n).all fun j => kindC (h' (off + j)) == some k) := by
      rw [Bool.eq_iff_iff, List.all_eq_true, List.all_eq_true]
      constructor <;> intro q j hj
      · rw [← e (off + j) (by omega) (by have := List.mem_range.1 hj; omega)]; exact q j hj
      · rw [e (off + j) (by omega) (by have := List.mem_range.1 hj; omega)]; exact q j hj
    rw [ha]
    split
    · show (SK.f k n _).cells ++ [] = (SK.f k n _).cells ++ []
      refine congrArg (· ++ []) ?_
      unfold SK.cells
      refine List.map_congr_left fun j hj => ?_
      show SC.val (.int k (intsC (h (off + j)))) = SC.val (.int k (intsC (h' (off + j))))
      rw [e (off + j) (by omega) (by have := List.mem_range.1 hj; omega)]
    · rw [hc]
  · rw [hc]
theorem grp_congr {h h' : Nat → SC} : ∀ (l : List (Bool × Nat)) (off : Nat), (l.all fun x => Nat.blt 0 x.2) = true → (∀ c, off ≤ c → c < off + segL l → h c = h' c) → flat (grpK h off l) = flat (grpK h' off l)
  | [], _, _, _ => rfl
  | (b, n) :: r, off, hl, e => by
    simp only [List.all_cons, Bool.and_eq_true] at hl
    have hn : 0 < n := by simpa [Nat.blt_eq] using hl.1
    have ih := grp_congr r (off + n) hl.2 fun c h1 h2 => e c (by omega) (by simp only [segL]; omega)
    have ec : ∀ c, off ≤ c → c < off + n → h c = h' c := fun c h1 h2 => e c h1 (by simp only [segL]; omega)
    cases b
    · show flat (cellsK h off n ++ grpK h (off + n) r) = flat (cellsK h' off n ++ grpK h' (off + n) r)
      rw [flat_append, flat_append, ih, cells_congr ec]
    · show flat (rowK h off n ++ grpK h (off + n) r) = flat (rowK h' off n ++ grpK h' (off + n) r)
      rw [flat_append, flat_append, ih, row_congr2 hn ec]
theorem ca_copy {g : Nat → Nat → SC} (hg : clP g) {A : Nat → Option Addr} {C : Nat → Nat} {j : Nat} (hl : nAt (g j 108) ≤ maxLen) :
    caP (grpK (clF (iAt g) A (fun j => nAt (g j 108)) C (fun j r => iAt (xAt (g j 108)) r 0) j) 0 (segT Try.prog 8 55)) (grpK (g j) 0 (segT Try.prog 8 55)) := by
  refine ⟨iAt g j, A j, aAt (g j 108), nAt (g j 108), C j, cAt (g j 108), fun r => iAt (xAt (g j 108)) r 0, fun r => iAt (xAt (g j 108)) r 0, ca_grp (iAt g) A (fun j => nAt (g j 108)) C (fun j r => iAt (xAt (g j 108)) r 0) j, ?_, fun _ _ => rfl, hl⟩
  rw [grp_congr (h' := fCl g j) _ 0 ca_some fun c _ hc => hg.gf j c (by rw [ca_seg] at hc; omega)]
  exact ca_grp (iAt g) (fun j => aAt (g j 108)) (fun j => nAt (g j 108)) (fun j => cAt (g j 108)) (fun j r => iAt (xAt (g j 108)) r 0) j
theorem st_copy {a b : Option Addr} {n : Nat} {P H : Nat → Int} {A : Nat → Option Addr} {N C : Nat → Nat} {X : Nat → Nat → Nat → SC} {ac : List Nat → Option Addr × Nat} (hn : n ≤ maxLen) (ha : a = none → n = 0) (hb : b = none → n = 0) (hN : ∀ i, i < n → N i ≤ maxLen) (hX : ∀ i, clP (X i)) (hs : ∀ i, i < n → ∀ j, j < N i → nAt (X i j 108) ≤ maxLen) :
    stPr a n (cpF P H N (fun i => iAt (X i)) (mOf X) (bOf X) ac) b n (blkF P H A N C X) where
  pf := ⟨hn, ha, fun i c hc => by
    rcases c with _ | _ | _ | c
    · rfl
    · rfl
    · rfl
    · omega, hN, fun i => clP_cl⟩
  pg := ⟨hn, hb, fun i c hc => by
    rcases c with _ | _ | _ | c
    · rfl
    · rfl
    · rfl
    · omega, hN, hX⟩
  nm := rfl
  pp := fun _ _ => rfl
  ph := fun _ _ => rfl
  pn := fun _ _ => rfl
  pc := fun i hi j hj => by
    have e1 : xAt (cpF P H N (fun i => iAt (X i)) (mOf X) (bOf X) ac i 2) = clF (iAt (X i)) (fun j => (ac [i, j]).1) (fun j => nAt (X i j 108)) (fun j => (ac [i, j]).2) (fun j r => iAt (xAt (X i j 108)) r 0) := rfl
    have e2 : xAt (blkF P H A N C X i 2) = X i := rfl
    rw [e1, e2]
    exact ca_copy (hX i) (hs i hi j hj)
theorem okl_ForkGrows (a : Option Addr) (n cap : Nat) (P H : Nat → Int) (A : Nat → Option Addr) (N C : Nat → Nat) (X : Nat → Nat → Nat → SC) (best fin p : Int) (b : Option Addr) (m cb : Nat) (Y : Nat → Nat → SC) (ht : tfP a n (blkF P H A N C X)) (hY : clP Y) (hc : n ≤ cap) (hT : tot N (mOf X) n + sm (fun j => nAt (Y j 108)) m ≤ 281474976710656) :
    OwesV Try.prog cxBo slFg [] 4 Try.f4 [sTr a n cap (blkF P H A N C X) best fin, sI .i64 p, .sc (.xs b m cb 109 Y)] yes := by
  rw [vc_lfg]
  intro x1 x2 x3 x4 x5 _
  have hML : maxLen = 9223372036854775807 := rfl
  have e1 : x1 = gwE P H N n best fin p m := rfl
  have hX : ∀ i, clP (X i) := ht.tc
  have h3 : ∀ i, i < x3 → x3 = n + 1 ∧ trE P H N n best fin = 0 ∧ m ≤ 6 := fun i hi => by
    have hz : x1 = 0 := by
      by_cases h : x1 = 0
      · exact h
      · have : x3 = 0 := if_neg h
        omega
    have h0 : trE P H N n best fin = 0 := by
      by_cases h : trE P H N n best fin = 0
      · exact h
      · rw [e1] at hz; unfold gwE at hz; rw [if_pos h] at hz; exact absurd hz h
    refine ⟨if_pos hz, h0, ?_⟩
    rw [e1] at hz; unfold gwE at hz
    rw [if_neg (fun c => c h0)] at hz
    by_cases h6 : 6 < m
    · by_cases q1 : p < 0 ∨ (n : Int) ≤ p
      · rw [if_pos q1] at hz; cases hz
      · rw [if_neg q1] at hz
        by_cases q2 : stO P p fin = false
        · rw [if_pos q2] at hz; cases hz
        · rw [if_neg q2, if_pos h6] at hz; cases hz
    · omega
  have hl : x3 ≤ 41 := by
    rcases Nat.eq_zero_or_pos x3 with h | h
    · omega
    · have k := h3 0 h
      have := (okT_of k.2.1).few
      omega
  have hN : ∀ i, i < x3 → putN n N m i ≤ 6 := fun i hi => by
    have k := h3 i hi
    unfold putN
    by_cases c : i < n
    · rw [if_pos c]; exact tr_few (okT_of k.2.1).row i c
    · rw [if_neg c]; exact k.2.2
  have hp : ∀ i, clP (putN n X Y i) := fun i => by
    unfold putN
    by_cases c : i < n
    · rw [if_pos c]; exact hX i
    · rw [if_neg c]; exact hY
  have hs : ∀ i, i < x3 → ∀ j, j < putN n N m i → nAt (putN n X Y i j 108) ≤ maxLen := fun i hi j hj => by
    have k := h3 i hi
    unfold putN at hj ⊢
    by_cases c : i < n
    · rw [if_pos c] at hj ⊢
      have u1 := sm_up (fun i => sm (mOf X i) (N i)) c
      have u2 := sm_up (mOf X i) hj
      have : mOf X i j ≤ maxLen := by
        have : sm (fun i => sm (mOf X i) (N i)) n = tot N (mOf X) n := rfl
        omega
      exact this
    · rw [if_neg c] at hj ⊢
      have u2 := sm_up (fun j => nAt (Y j 108)) hj
      omega
  clear_value x3 x4 x5 x1
  refine ⟨ht, hY, hc, hT, fun ac _ a3 cap3 q3 _ => ⟨ht, hY, fun ac1 _ a4 cap4 q4 _ => ⟨?_, rfl, rfl, id, id, id, ?_⟩⟩⟩
  · exact st_copy (P := gwP P n p) (H := gwH H n p) (A := putN n A b) (N := putN n N m) (C := putN n C cb) (X := putN n X Y) (ac := ac) (by omega) (fun h => (q3 h).1) (fun h => (q4 h).1) (fun i hi => by have := hN i hi; omega) hp hs
  · rw [Bool.true_and, beq_self_eq_true]
theorem oks_Fg : ∀ p ∈ slFg, FnOKs Try.prog cxBo.gl p.1 p.2 := oks_cons card_gr1 (oks_cons card_gw (oks_cons card_sm oks_nil))
theorem okl_ForkSettles (a : Option Addr) (n cap : Nat) (P H : Nat → Int) (A : Nat → Option Addr) (N C : Nat → Nat) (X : Nat → Nat → Nat → SC) (best fin h : Int) (ht : tfP a n (blkF P H A N C X)) (hT : tot N (mOf X) n ≤ 281474976710656) :
    OwesV Try.prog cxBo slFs [] 4 Try.f5 [sTr a n cap (blkF P H A N C X) best fin, sI .i64 h] yes := by
  rw [vc_lfs]
  intro x1 x2 x3 x4 x5 _
  have hML : maxLen = 9223372036854775807 := rfl
  have e1 : x1 = seE P H N n best fin h := rfl
  have hX : ∀ i, clP (X i) := ht.tc
  have h3 : ∀ i, i < x3 → x3 = n := fun i hi => by
    by_cases h : x1 = 0
    · exact if_pos h
    · have : x3 = 0 := if_neg h
      omega
  have tn : n ≤ maxLen := ht.tn
  have hl : x3 ≤ maxLen := by
    rcases Nat.eq_zero_or_pos x3 with h | h
    · omega
    · have k := h3 0 h
      omega
  have hN : ∀ i, i < x3 → N i ≤ maxLen := fun i hi => ht.tm i (by have := h3 i hi; omega)
  have hs : ∀ i, i < x3 → ∀ j, j < N i → nAt (X i j 108) ≤ maxLen := fun i hi j hj => by
    have k := h3 i hi
    have u1 := sm_up (fun i => sm (mOf X i) (N i)) (show i < n by omega)
    have u2 := sm_up (mOf X i) hj
    have : mOf X i j ≤ maxLen := by
      have : sm (fun i => sm (mOf X i) (N i)) n = tot N (mOf X) n := rfl
      omega
    exact this
  clear_value x3 x4 x5 x1
  refine ⟨ht, hT, fun ac _ a3 cap3 q3 _ => ⟨ht, fun ac1 _ a4 cap4 q4 _ => ⟨?_, rfl, rfl, id, id, id, ?_⟩⟩⟩
  · exact st_copy (P := P) (H := H) (A := A) (N := N) (C := C) (X := X) (ac := ac) hl (fun h => (q3 h).1) (fun h => (q4 h).1) hN hX hs
  · rw [Bool.true_and, beq_self_eq_true]
theorem oks_Fs : ∀ p ∈ slFs, FnOKs Try.prog cxBo.gl p.1 p.2 := oks_cons card_se1 (oks_cons card_se (oks_cons card_sm oks_nil))
end Go.Proofs.Ytnomjdechekapaa
end
