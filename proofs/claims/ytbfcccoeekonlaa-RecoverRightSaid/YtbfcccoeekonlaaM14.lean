/-
  Texts: P81, P82, P83, P84.
-/
import Derived.Test.YtbfcccoeekonlaaM1
import Derived.Test.YtbfcccoeekonlaaM2
import Derived.Test.YtbfcccoeekonlaaM3
import Derived.Test.YtbfcccoeekonlaaM4
import Derived.Test.YtbfcccoeekonlaaM5
import Derived.Test.YtbfcccoeekonlaaM6
import Derived.Test.YtbfcccoeekonlaaM7
import Derived.Test.YtbfcccoeekonlaaM8
import Derived.Test.YtbfcccoeekonlaaM9
import Derived.Test.YtbfcccoeekonlaaM10
import Derived.Test.YtbfcccoeekonlaaM11
import Derived.Test.YtbfcccoeekonlaaM12
import Derived.Test.YtbfcccoeekonlaaM13
section
/-
  Signatures on small curves: the numbers' side.
-/
namespace Go.Proofs.Ytbfcccoeekonlaa
open Go.Sx

def maskOf : List (Nat × Nat) → Nat
  | [] => 0
  | p :: r => maskOf r ||| 2 ^ (2 * p.1 + p.2 % 2)
theorem mask_bit : ∀ {T : List (Nat × Nat)} {i : Nat}, (maskOf T).testBit i = true → ∃ k, k < T.length ∧ 2 * (T.getD k (0, 0)).1 + (T.getD k (0, 0)).2 % 2 = i
  | [], i, h => by
    rw [maskOf, Nat.zero_testBit] at h
    cases h
  | p :: r, i, h => by
    rw [maskOf, Nat.testBit_or, Bool.or_eq_true, Nat.testBit_two_pow, decide_eq_true_eq] at h
    rcases h with h | h
    · obtain ⟨k, hk, e⟩ := mask_bit h
      exact ⟨k + 1, by simp only [List.length_cons]; omega, e⟩
    · exact ⟨0, by simp only [List.length_cons]; omega, h⟩
/-- The points of the eight curves: for each its first number, twice, and one more if its second is odd. -/
def maskN (i : Nat) : Nat := [61943042216213499145666608,16350755386209670637837268068732563946736,278317824748488038108415795075368563390443371520,371748300639222274833588721256350589995660647350489427555730583502168421269979856832,26139121896523509934180959486650982931616814117354699440113715184384803129958051456990037171974156,136869605310890499577081601113157077800854084472896922355310342895398424947205738590738252438926392329117689693292887668621564,1142725630746375391907508529639141481907567457297698098862260461548743259221795697286422896323692448805038250324667508868570637085633937817954221448128428121822220940529290582908684325477304794541396774291320799429041055327861760,410765636653253766367752136886031397979840515713510672906121187891044624975986473525505468496405969802336867381627825178855163522009025774872468804686458048434157417270924682328090837681092033992840297201089404488215555271698182687092069584818089369154746063884620300765740005458906469603892117770933210512231106116325320836232983018158051888045187422575038211194374973686745314215972626545468950744926406750449868].getD i 0
theorem mask_all : (List.range 8).all (fun i => Nat.beq (maskOf ((tabOf i).drop 1)) (maskN i)) = true := by kernel_rfl
theorem lift_allB : (List.range 8).all (fun i => (List.range (cP i)).all fun x => (!liftB (cP i) 0 (cB i) x false || Nat.testBit (maskN i) (2 * x)) && (!liftB (cP i) 0 (cB i) x true || Nat.testBit (maskN i) (2 * x + 1))) = true := by kernel_rfl
theorem lift_bit {i x : Nat} {odd : Bool} (hi : i < 8) (hx : x < cP i) (h : liftB (cP i) 0 (cB i) x odd = true) : ∃ k, k < ((tabOf i).drop 1).length ∧ 2 * (((tabOf i).drop 1).getD k (0, 0)).1 + (((tabOf i).drop 1).getD k (0, 0)).2 % 2 = 2 * x + odd.toNat := by
  have h1 := List.all_eq_true.1 (List.all_eq_true.1 lift_allB i (List.mem_range.2 hi)) x (List.mem_range.2 hx)
  have hm := Nat.eq_of_beq_eq_true (List.all_eq_true.1 mask_all i (List.mem_range.2 hi))
  rw [← hm, Bool.and_eq_true] at h1
  cases odd with
  | false =>
    have h2 := h1.1
    rw [h, Bool.not_true, Bool.false_or] at h2
    exact mask_bit h2
  | true =>
    have h2 := h1.2
    rw [h, Bool.not_true, Bool.false_or] at h2
    exact mask_bit h2
/-- What is lifted is a point by its place. -/
theorem lift_some {i x : Nat} {odd : Bool} (hi : i < 8) (hx : x < cP i) (h : liftB (cP i) 0 (cB i) x odd = true) : ∃ K, 1 ≤ K ∧ K < cN i ∧ (x, liftY (cP i) 0 (cB i) x odd, false) = ptOf i K := by
  obtain ⟨k, hk, e⟩ := lift_bit hi hx h
  have hl := len_of hi
  rw [List.length_drop, hl] at hk
  have eg : ((tabOf i).drop 1).getD k (0, 0) = (tabOf i).getD (k + 1) (0, 0) := by
    rw [List.getD_eq_getElem?_getD, List.getElem?_drop, List.getD_eq_getElem?_getD, Nat.add_comm]
  rw [eg] at e
  have hK : k + 1 < cN i := by omega
  have hp := pt_pos i (show 1 ≤ k + 1 by omega)
  have hb : odd.toNat ≤ 1 := by cases odd <;> decide
  have e1 : ((tabOf i).getD (k + 1) (0, 0)).1 = x := by omega
  have e2 : ((tabOf i).getD (k + 1) (0, 0)).2 % 2 = odd.toNat := by omega
  have hy := lift_pt hi (show 1 ≤ k + 1 by omega) hK
  rw [hp] at hy
  dsimp only at hy
  have e3 : (((tabOf i).getD (k + 1) (0, 0)).2 % 2 == 1) = odd := by
    rw [e2]
    cases odd <;> rfl
  rw [e1, e3] at hy
  refine ⟨k + 1, by omega, hK, ?_⟩
  rw [hp, hy, e1]
theorem far_pt {i a : Nat} (h : (ptOf i a).2.2 = true) : a = 0 := by
  rcases Nat.eq_zero_or_pos a with e | e
  · exact e
  · rw [pt_pos i e] at h
    cases h
theorem near_pt {i a : Nat} (h : (ptOf i a).2.2 = false) : 1 ≤ a := by
  rcases Nat.eq_zero_or_pos a with e | e
  · subst e
    cases h
  · exact e
/-- Two points are not the same. -/
theorem pt_inj {i a b : Nat} (hi : i < 8) (ha : a < cN i) (hb : b < cN i) (h : ptOf i a = ptOf i b) : a = b := by
  rcases Nat.eq_zero_or_pos b with e | e
  · subst e
    exact far_pt (by rw [h]; rfl)
  · have h1 := (csum_pt hi ha (show cN i - b < cN i by omega)).2
    have h2 := (csum_pt hi hb (show cN i - b < cN i by omega)).2
    rw [h, h2] at h1
    rw [show b + (cN i - b) = cN i by omega, Nat.mod_self] at h1
    have h3 : (a + (cN i - b)) % cN i = 0 := far_pt (by rw [← h1]; rfl)
    obtain ⟨k, hk⟩ := Nat.dvd_of_mod_eq_zero h3
    have : k = 1 := by
      rcases Nat.lt_or_ge k 1 with g | g
      · have : k = 0 := by omega
        subst this; omega
      · rcases Nat.lt_or_ge 1 k with g' | g'
        · have := Nat.mul_le_mul_left (cN i) g'
          omega
        · omega
    subst this
    omega

/-! ## Numbers by the order -/
theorem cN_M {I : Nat} (hi : I < 8) : cN I % M256 = cN I := small_mod (by have := (cN_range hi).2; omega)
theorem lt_M {I v : Nat} (hi : I < 8) (h : v < cN I) : v % M256 = v := small_mod (by have := (cN_range hi).2; omega)
theorem rest_is {I : Nat} (hi : I < 8) (v : Nat) : restN (cN I) v = v % M256 % cN I := by
  have := (cN_range hi).1
  unfold restN
  rw [cN_M hi, if_neg (by omega)]
theorem mul_is {I a b : Nat} (hi : I < 8) (ha : a < cN I) (hb : b < cN I) : mulN (cN I) a b = a * b % cN I := by
  unfold mulN
  rw [if_pos (fE_ok (cN_M hi) ha hb), cN_M hi, lt_M hi ha, lt_M hi hb]
theorem min_is {I a : Nat} (hi : I < 8) (ha : a < cN I) : minN (cN I) a = (0 + cN I - a) % cN I := by
  have := (cN_range hi).1
  unfold minN
  rw [if_pos (fE_ok (cN_M hi) (by omega) ha), cN_M hi, lt_M hi ha]
theorem sec_is {I a : Nat} (hi : I < 8) (h : secB (cN I) a = true) : 1 ≤ a % M256 ∧ a % M256 < cN I := by
  unfold secB at h
  rw [cN_M hi, Bool.and_eq_true] at h
  obtain ⟨h1, h2⟩ := h
  have h2 := of_decide_eq_true h2
  have h1 : ¬ a % M256 = 0 := by simpa using h1
  omega
theorem sec_of {I a : Nat} (hi : I < 8) (h1 : 1 ≤ a) (h2 : a < cN I) : secB (cN I) a = true := by
  unfold secB
  rw [cN_M hi, lt_M hi h2, decide_eq_true h2, Bool.and_true, beq_eq_false_iff_ne.2 (by omega)]
  rfl
theorem high_is {I s : Nat} (hi : I < 8) (h1 : 1 ≤ s) (h2 : s < cN I) : highB (cN I) s = decide (cN I - s < s) := by
  unfold highB
  rw [min_is hi h2, Nat.zero_add, Nat.mod_eq_of_lt (show cN I - s < cN I by omega), lt_M hi (show cN I - s < cN I by omega), lt_M hi h2]
theorem inv_sec {I a : Nat} (hi : I < 8) (h1 : 1 ≤ a) (h2 : a < cN I) : oinvE (cN I) a = 0 ∧ oinvN (cN I) a < cN I ∧ ((cN I : Nat) : Int) ∣ (a : Int) * ((oinvN (cN I) a : Nat) : Int) - 1 := by
  have hr := (cN_range hi).1
  have gc := (one_of hi h1 h2).gc
  have fe : finvE a (cN I) = 0 := by
    unfold finvE
    rw [cN_M hi, lt_M hi h2, if_neg (by omega), if_pos h2, invE_gcd, if_pos gc]
  have en : oinvN (cN I) a = invN a (cN I) := by
    unfold oinvN
    rw [if_pos fe, cN_M hi, lt_M hi h2]
  refine ⟨by unfold oinvE; rw [if_pos fe], ?_, ?_⟩
  · rw [en]
    exact (invN_spec h2 gc).1
  · rw [en]
    exact inv_cg h2 gc (Cg.self _ _)
theorem may_is {I R S : Nat} {o : Int} (hi : I < 8) (h : mayB (cN I) R S o = true) : 1 ≤ R % M256 ∧ R % M256 < cN I ∧ 1 ≤ S % M256 ∧ S % M256 < cN I ∧ 0 ≤ o ∧ o ≤ 3 := by
  unfold mayB at h
  simp only [Bool.and_eq_true] at h
  obtain ⟨⟨⟨⟨a, b⟩, _⟩, d⟩, e⟩ := h
  obtain ⟨a1, a2⟩ := sec_is hi a
  obtain ⟨b1, b2⟩ := sec_is hi b
  exact ⟨a1, a2, b1, b2, of_decide_eq_true d, of_decide_eq_true e⟩
theorem may_of {I R S : Nat} {o : Int} (hi : I < 8) (h1 : 1 ≤ R) (h2 : R < cN I) (h3 : 1 ≤ S) (h4 : 2 * S ≤ cN I) (h5 : 0 ≤ o) (h6 : o ≤ 3) : mayB (cN I) R S o = true := by
  unfold mayB
  rw [sec_of hi h1 h2, sec_of hi h3 (by omega), high_is hi h3 (by omega), decide_eq_true h5, decide_eq_true h6, decide_eq_false (by omega)]
  rfl
/-- Base so often, and a point so often, added, by places. -/
theorem both_pt {I j k l : Nat} (hi : I < 8) (hj : j < cN I) (hk : k < M256) (hl : l < M256) : bothOK (cP I) 0 (cB I) (cN I) (ptOf I 1) k (ptOf I j) l ∧ bothP (cP I) 0 (ptOf I 1) k (ptOf I j) l = ptOf I ((k + l * j) % cN I) := by
  have hr := (cN_range hi).1
  have lt : ∀ v, v % cN I < cN I := fun v => Nat.mod_lt v (by omega)
  obtain ⟨k1, k2⟩ := cmul_pt hi (show 1 < cN I by omega) hk
  obtain ⟨l1, l2⟩ := cmul_pt hi hj hl
  obtain ⟨s1, s2⟩ := csum_pt hi (lt (k * 1)) (lt (l * j))
  obtain ⟨_, _, _, _, _, _, fg⟩ := cx_facts hi
  refine ⟨⟨fg, onP_pt hi hj, k1, l1, ?_, ?_, ?_⟩, ?_⟩
  · rw [k2]; exact ⟨inM_pt hi (lt _), onP_pt hi (lt _)⟩
  · rw [l2]; exact ⟨inM_pt hi (lt _), onP_pt hi (lt _)⟩
  · rw [k2, l2]; exact s1
  · unfold bothP
    rw [k2, l2, s2, ← Nat.add_mod, Nat.mul_one]
/-! ## The point of a signature -/
theorem P_2N {I : Nat} (hi : I < 8) : cP I < 2 * cN I := by
  have : ∀ i : Fin 8, cP i.val < 2 * cN i.val := by decide
  exact this ⟨I, hi⟩
theorem tmod_odd {o : Int} (h1 : 0 ≤ o) : (o.tmod 2 == 1) = decide (o % 2 = 1) := by
  rw [Int.tmod_eq_emod_of_nonneg h1, Bool.eq_iff_iff, beq_iff_eq, decide_eq_true_eq]
theorem pof_of {I K R : Nat} {o : Int} (hi : I < 8) (h1 : 1 ≤ K) (h2 : K < cN I) (hR : R = (ptOf I K).1 % cN I) (ho : o = ((ptOf I K).2.1 % 2 : Nat) + if cN I ≤ (ptOf I K).1 then 2 else 0) :
    pofE (cP I) 0 (cB I) (cN I) R o = 0 ∧ pofP (cP I) 0 (cB I) (cN I) R o = ptOf I K := by
  obtain ⟨_, r2⟩ := cN_range hi
  obtain ⟨p1, p2⟩ := cP_range hi
  have hPN := P_2N hi
  obtain ⟨_, _, _, g4, g5, g6, g7⟩ := neg_pt hi h1 h2
  have on := (onP_pt hi h2).near g4
  have ly := lift_pt hi h1 h2
  have mM := M256_eq
  have hX : pofX (cN I) R o % M256 = (ptOf I K).1 := by
    unfold pofX
    have hy := Nat.mod_lt (ptOf I K).2.1 (show 0 < 2 by decide)
    by_cases hc : cN I ≤ (ptOf I K).1
    · rw [if_pos hc] at ho
      have ho2 : 2 ≤ o := by omega
      have e1 : (ptOf I K).1 % cN I = (ptOf I K).1 - cN I := by rw [Nat.mod_eq_sub_mod hc, Nat.mod_eq_of_lt (show (ptOf I K).1 - cN I < cN I by omega)]
      rw [if_pos ho2, hR, e1, show (ptOf I K).1 - cN I + cN I = (ptOf I K).1 by omega]
      exact small_mod (show (ptOf I K).1 < 18446744073709551616 by omega)
    · rw [if_neg hc] at ho
      have ho2 : ¬ 2 ≤ o := by omega
      rw [if_neg ho2, hR, Nat.mod_eq_of_lt (show (ptOf I K).1 < cN I by omega)]
      exact small_mod (show (ptOf I K).1 < 18446744073709551616 by omega)
  have hO : pofO (cN I) R o = false := by
    unfold pofO
    have hr : R < cN I := by rw [hR]; exact Nat.mod_lt _ (by omega)
    rw [decide_eq_false (show ¬ M256 ≤ R % M256 + cN I % M256 by rw [lt_M hi hr, cN_M hi]; omega), Bool.and_false]
  have hodd : (o.tmod 2 == 1) = ((ptOf I K).2.1 % 2 == 1) := by
    rw [tmod_odd (by rw [ho]; split <;> omega), Bool.eq_iff_iff, decide_eq_true_eq, beq_iff_eq, ho]
    split <;> omega
  have hE : pofE (cP I) 0 (cB I) (cN I) R o = 0 := by
    unfold pofE
    rw [if_neg (by rw [hO]; exact Bool.false_ne_true), hX, hodd, if_pos]
    unfold liftE liftB
    rw [if_neg (by omega), ly, if_pos]
    rw [Bool.and_eq_true, beq_iff_eq, beq_iff_eq]
    exact ⟨rfl, on.2.2⟩
  refine ⟨hE, ?_⟩
  unfold pofP
  rw [if_pos hE, if_pos hE, hX, hodd, ly, ← g4]
theorem pof_ok {I R : Nat} {o : Int} (hi : I < 8) (h2 : R < cN I) (h : pofE (cP I) 0 (cB I) (cN I) R o = 0) :
    ∃ K, 1 ≤ K ∧ K < cN I ∧ pofP (cP I) 0 (cB I) (cN I) R o = ptOf I K ∧ (ptOf I K).1 % cN I = R := by
  obtain ⟨r1, r2⟩ := cN_range hi
  obtain ⟨p1, p2⟩ := cP_range hi
  have e : liftE (cP I) 0 (cB I) (pofX (cN I) R o % M256) (o.tmod 2 == 1) = 0 := by
    unfold pofE at h
    split at h
    · cases h
    · split at h
      · assumption
      · cases h
  have hx : pofX (cN I) R o % M256 < cP I := by
    unfold liftE at e
    split at e
    · cases e
    · omega
  have hb : liftB (cP I) 0 (cB I) (pofX (cN I) R o % M256) (o.tmod 2 == 1) = true := by
    unfold liftE at e
    rw [if_neg (by omega)] at e
    split at e
    · assumption
    · cases e
  obtain ⟨K, k1, k2, hk⟩ := lift_some hi hx hb
  refine ⟨K, k1, k2, ?_, ?_⟩
  · unfold pofP
    rw [if_pos h, if_pos h, hk]
  · rw [← hk]
    dsimp only
    unfold pofX
    split
    · rw [small_mod (by omega), Nat.add_mod_right, Nat.mod_eq_of_lt h2]
    · rw [small_mod (by omega), Nat.mod_eq_of_lt h2]
end Go.Proofs.Ytbfcccoeekonlaa
end

section
/-
  Package sign: checking and recovering; a law.
-/
namespace Go.Proofs.Ytbfcccoeekonlaa
open Go.Sx

theorem ok_Recover : ∀ (ls : List (List At)) (vs : List (Option Addr)), Ok (recC ls) → Owes Try.prog cxRec [] 100 Try.f7 (mkArgs [.str pCv, .str [.y 32], .str pSg] ls vs) (recG ls) := by
  intro ls vs hc
  unfold recC at hc
  split at hc
  · rename_i P A B N X Y F g R S o
    have h : Owes Try.prog cxRec [] 100 Try.f7 [sCv P A B N X Y F, sBy 32 g, sSg R S o] (recG [[.u P, .u A, .u B, .u N, .u X, .u Y, .b F], [.y 32 g], [.u R, .u S, .i o]]) := by
      rw [vc_Recover]
      obtain ⟨hk, _⟩ := hc
      have bo := hk.both
      intro x1 x2 x3 x4 x5 x6 x7 x8 x9 x10 x11 x12
      have E8 : x8 = recE x1 x2 x3 N (red X Y F) g R S o := rfl
      have E9 : x9 = pofE x1 x2 x3 N R o := rfl
      have E12 : x12 = (recQ x1 x2 x3 N (red X Y F) g R S o).2.2 := rfl
      have bad : x8 ≠ 0 → 0 = x5 ∧ 0 = x6 ∧ false = x7 ∧ True := by
        intro h
        simp only [x5, x6, x7]
        unfold recA
        rw [← E8, if_neg h]
        exact ⟨(Nat.zero_mod _).symm, (Nat.zero_mod _).symm, rfl, trivial⟩
      have good : x8 = 0 → (recQ x1 x2 x3 N (red X Y F) g R S o).1 % M256 = x5 ∧ (recQ x1 x2 x3 N (red X Y F) g R S o).2.1 % M256 = x6 ∧ x12 = x7 ∧ True := by
        intro h
        simp only [x5, x6, x7]
        unfold recA
        rw [← E8, if_pos h]
        exact ⟨rfl, rfl, E12, trivial⟩
      have bad10 : x8 = 10 → (0 = x5 ∧ 0 = x6 ∧ false = x7 ∧ True) ∧ (10 : Int) = x8 := fun e => ⟨bad (by rw [e]; decide), e.symm⟩
      refine ⟨hk.good, fun h => (by cases h), fun _ => ⟨fun h => bad10 ?_, fun h => ⟨hk.good, fun h2 => ?_, fun h2 => ⟨fun h3 => ?_, fun h3 => ⟨hk.b32, ?_, id, id, fun h4 => bad10 ?_, fun h4 => ?_⟩⟩⟩⟩⟩
      · have e : mayB N R S o = false := by simpa using h
        rw [E8]; unfold recE
        rw [if_neg (by rw [e]; exact Bool.false_ne_true)]
      · have e : mayB N R S o = true := by simpa using h
        have e2 : ¬ x9 = 0 := by simpa using h2
        have e3 : x8 = 10 := by rw [E8]; unfold recE; rw [if_pos e, ← E9, if_neg e2]
        have e4 : x9 = 10 := by
          rw [E9] at e2 ⊢
          unfold pofE at e2 ⊢
          split
          · rfl
          · rename_i g1
            rw [if_neg g1] at e2
            split
            · rename_i g2
              rw [if_pos g2] at e2
              exact absurd rfl e2
            · rfl
        rw [e4]
        exact bad10 e3
      · have e : mayB N R S o = true := by simpa using h
        have e2 : x9 = 0 := by simpa using h2
        have := (bo e e2).1
        rw [this] at h3
        cases h3
      · have e : mayB N R S o = true := by simpa using h
        have e2 : x9 = 0 := by simpa using h2
        exact (bo e e2).2
      · have e : mayB N R S o = true := by simpa using h
        have e2 : x9 = 0 := by simpa using h2
        have e4 : x12 = true := by simpa [x11] using h4
        rw [E8]; unfold recE
        rw [if_pos e, ← E9, if_pos e2, if_pos (bo e e2).1, ← E12, if_pos e4]
      · have e : mayB N R S o = true := by simpa using h
        have e2 : x9 = 0 := by simpa using h2
        have e4 : x12 = false := by simpa [x11] using h4
        have e8 : x8 = 0 := by
          rw [E8]; unfold recE
          rw [if_pos e, ← E9, if_pos e2, if_pos (bo e e2).1, ← E12, if_neg (by rw [e4]; exact Bool.false_ne_true)]
        exact ⟨good e8, e8.symm⟩
    exact h
  · exact hc.1.elim
theorem ok_Check : ∀ (ls : List (List At)) (vs : List (Option Addr)), Ok (chkC ls) → Owes Try.prog cxChk [] 100 Try.f10 (mkArgs [.str pCv, .str pPt, .str [.y 32], .str pSg] ls vs) (chkG ls) := by
  intro ls vs hc
  unfold chkC at hc
  split at hc
  · rename_i P A B N X Y F x y f g R S o
    have h : Owes Try.prog cxChk [] 100 Try.f10 [sCv P A B N X Y F, sPt x y f, sBy 32 g, sSg R S o] (chkG [[.u P, .u A, .u B, .u N, .u X, .u Y, .b F], [.u x, .u y, .b f], [.y 32 g], [.u R, .u S, .i o]]) := by
      rw [vc_Check]
      obtain ⟨hk, _⟩ := hc
      have bo := hk.both
      have hon := hk.on
      intro x1 x2 x3 x4 x5 x6 x7 x8 x9 x10
      have E8 : x8 = chkE x1 x2 N (red X Y F) (red x y f) g R S o := rfl
      have E10 : x10 = (chkQ x1 x2 N (red X Y F) (red x y f) g R S).2.2 := rfl
      have E7 : x7 = 0 := by
        simp only [x7]
        unfold onE
        split
        · rfl
        · rename_i hf
          have hf : (red x y f).2.2 = false := by simpa using hf
          rw [if_pos (hon.near hf).2.2]
      rw [E7, beq_conj1]
      refine ⟨hk.good, fun h => hon.far h, fun h => ⟨(hon.near h).1, (hon.near h).2.1⟩, fun h => (by cases h), fun _ => ⟨id, id, id, fun h => by rw [h]; rfl, fun h => ?_, fun h => ⟨fun h2 => ?_, fun h2 => ⟨hk.b32, ?_, fun h3 => (by cases h3), fun _ => ⟨id, id, id, id, id, id, fun h => by rw [h]; rfl, fun h3 => ?_, fun h3 => ?_⟩⟩⟩⟩⟩
      · rw [E8]; unfold chkE
        exact (if_pos h).symm
      · rw [Bool.or_eq_false_iff] at h
        have e : mayB N R S o = true := by simpa using h.2
        rw [(bo h.1 e).1] at h2
        cases h2
      · rw [Bool.or_eq_false_iff] at h
        have e : mayB N R S o = true := by simpa using h.2
        exact (bo h.1 e).2
      · rw [E8]; unfold chkE
        have e := h
        rw [Bool.or_eq_false_iff] at e
        have e1 : mayB N R S o = true := by simpa using e.2
        rw [if_neg (by rw [show (red x y f).2.2 = f from rfl, h]; exact Bool.false_ne_true), if_pos (bo e.1 e1).1]
        exact (if_pos h3).symm
      · rw [E8]; unfold chkE
        have e := h
        rw [Bool.or_eq_false_iff] at e
        have e1 : mayB N R S o = true := by simpa using e.2
        rw [if_neg (by rw [show (red x y f).2.2 = f from rfl, h]; exact Bool.false_ne_true), if_pos (bo e.1 e1).1]
        exact (if_neg (by rw [Bool.not_eq_true]; exact h3)).symm
    exact h
  · exact hc.1.elim
theorem card_Recover : FnOK Try.prog 7 cRec :=
  FnOK_A (CxOK_cons card_cCheck (CxOK_cons card_mayBe (CxOK_cons card_pointOf (CxOK_cons card_oInv (CxOK_cons card_ofSum (CxOK_cons card_oMul (CxOK_cons card_oMinus (CxOK_cons card_both CxOK_nil)))))))) (iv := fun _ => []) (N := 100) Try.func7 (by kernel_rfl) (by kernel_rfl) (fun ls => by
    unfold recG
    split
    · exact bnd_two (bnd_pt _) (bnd_I _ _)
    · exact bnd_none) ok_Recover
theorem card_Check : FnOK Try.prog 10 cChk :=
  FnOK_A (CxOK_cons card_cOn (CxOK_cons card_mayBe (CxOK_cons card_oRest (CxOK_cons card_oInv (CxOK_cons card_ofSum (CxOK_cons card_oMul (CxOK_cons card_both CxOK_nil))))))) (iv := fun _ => []) (N := 100) Try.func10 (by kernel_rfl) (by kernel_rfl) (fun ls => by
    unfold chkG
    split
    · exact bnd_one (bnd_I _ _)
    · exact bnd_none) ok_Check
/-- A sum made of a thing. -/
def sumF (a b : Int) (s : ByteArray) (j : Nat) : Int :=
  IntKind.u8.wrap (((BitVec.ofInt 8 (wordF a b s j) ^^^ BitVec.ofInt 8 (IntKind.u8.wrap (IntKind.u8.wrap (a.fdiv (2 ^ Min.min (IntKind.i64.wrap ((j : Int).tmod 7 * 8)).toNat 64)) + IntKind.u8.wrap (IntKind.i64.wrap ((j : Int) * b))))).toNat : Nat) : Int)
theorem ok_sumR : ∀ k a b s, i64ok k → i64ok a → i64ok b → Owes Try.prog cxSumR [(3, .inv (invSumR k a b s (sumF a b s)))] 100 Try.f8 [sRaw k a b s] (.one (sBy 32 (sumF a b s))) := by
  intro k a b s hk ha hb
  rw [vc_sumR]
  refine ⟨hk, ha, hb, fun y => rfl, 0, by decide, rfl, rfl, rfl, rfl, rfl, rfl, rfl, ⟨fun j _ => ?_, trivial⟩, rfl, fun y hy => ⟨fun hc => ?_, fun hc => ?_⟩⟩
  · rw [if_neg (by omega)]
  · have hy2 : (y : Int) < 32 := of_decide_eq_true hc
    have h1 : (0 : Int) ≤ (y : Int) ∧ (y : Int) < 32 := by omega
    have hm : (y : Int).tmod 7 = ((y % 7 : Nat) : Int) := by
      rw [Int.tmod_eq_emod_of_nonneg (by omega)]
      omega
    have hw : 0 ≤ IntKind.i64.wrap ((y : Int).tmod 7 * 8) := by
      rw [hm, IntWalk.i64_in _ (by omega)]
      omega
    refine ⟨h1, h1, hw, h1, h1, y + 1, by omega, ?_, rfl, rfl, rfl, rfl, rfl, rfl, ⟨fun j hj => ?_, trivial⟩, rfl, by omega⟩
    · rw [IntWalk.i64_in _ (by omega)]; omega
    · rw [Int.toNat_natCast]
      by_cases e : j = y
      · subst e
        rw [if_pos rfl, if_neg (Nat.lt_irrefl _), if_pos (by omega)]
        rfl
      · rw [if_neg e]
        by_cases e2 : j < y
        · rw [if_pos e2, if_pos (by omega)]
        · rw [if_neg e2, if_neg (by omega)]
  · have hy2 : ¬ (y : Int) < 32 := of_decide_eq_false hc
    refine ⟨fun j hj => ?_, trivial⟩
    rw [if_pos (by omega)]
theorem u8_in (n : Int) : 0 ≤ IntKind.u8.wrap n ∧ IntKind.u8.wrap n < 256 := by
  have e : IntKind.u8.wrap n = n % 256 := rfl
  rw [e]
  omega
theorem sumF_ok (a b : Int) (s : ByteArray) : byteOK 32 (sumF a b s) := fun _ _ => u8_in _
theorem card_sumR : FnOK Try.prog 8 (cSumR sumF) := by
  refine FnOK_of Try.func8 (by kernel_rfl) (by kernel_rfl) fun args ps sv hs hp => ?_
  unfold cSumR specRaw at hs
  split at hs
  · rename_i k a b s
    simp only [Option.some.injEq, Prod.mk.injEq] at hs
    obtain ⟨rfl, rfl⟩ := hs
    obtain ⟨h1, h2, h3, _⟩ := hp
    have hb : SV.bnd none0 (.one (sBy 32 (sumF a b s))) := by intro k hk; simp only [List.mem_singleton] at hk; subst hk; trivial
    refine ⟨hb, fun ρ w hzz hgg _ => ?_⟩
    refine (calls_of_owes0 (CxOK_cons card_word CxOK_nil) Try.func8 (by kernel_rfl) (args := [sRaw k a b s]) ?_ (ok_sumR k a b s h1 h2 h3) ρ w hzz hgg).mono ?_
    · intro z hz
      simp only [List.mem_singleton] at hz
      subst hz
      intro q hq
      simp only [List.mem_cons, List.not_mem_nil, or_false] at hq
      rcases hq with rfl | rfl | rfl | rfl <;> trivial
    · rintro e w' ⟨v, rfl, ⟨ρ', hr⟩, hbl⟩
      exact ⟨v, rfl, rep_none0 hb hr, hbl⟩
  · cases hs
theorem ok_sTells : Owes Try.prog cxSTells [] 100 Try.f9 [] yes := by
  rw [vc_sTells]
  have hi : (0 : Nat) < 8 := by decide
  have hr : red 2 12 false = ptOf 0 1 := by
    unfold red
    rw [small_mod (by decide), small_mod (by decide)]
    rfl
  obtain ⟨_, _, _, _, _, _, fg⟩ := cx_facts hi
  have hg : goodP 43 0 7 31 (ptOf 0 1) := fg
  obtain ⟨k1, k2⟩ := cmul_pt hi (show 1 < cN 0 by decide) (show 1 < M256 by rw [M256_eq]; decide)
  have k1 : mulOK 43 0 1 (ptOf 0 1) := k1
  have k2 : cmulR 43 0 1 (ptOf 0 1) 256 = ptOf 0 1 := k2
  have sc : secB 31 1 = true := sec_of hi (show 1 ≤ 1 by decide) (show 1 < cN 0 by decide)
  rw [hr, k2]
  intro x1
  exact ⟨by decide, hg, sc, k1, id, id, id, id, rfl⟩
theorem card_sTells : FnOK Try.prog 9 (spec0 yes) :=
  FnOK_0 (CxOK_cons card_Curve (CxOK_cons card_sPoint CxOK_nil)) (iv := []) (N := 100) Try.func9 (by kernel_rfl) (by kernel_rfl) (bnd_one (bnd_B _)) ok_sTells
end Go.Proofs.Ytbfcccoeekonlaa
end

section
/-
  Signatures on small curves: who has signed, and whether it is right.
-/
namespace Go.Proofs.Ytbfcccoeekonlaa
open Go.Sx

theorem to_int_lt {a b c N : Nat} (h : a * b % N = c % N) : ((N : Nat) : Int) ∣ (a : Int) * b - c := by
  have h1 := Cg.self N (a * b)
  have := Cg.of_eq h (Cg.self N (a * b)) (Cg.self N c)
  rw [Int.natCast_mul] at this
  exact this
/-- Who is told is he by whom it is right. -/
theorem ring_K {h R S u v K d N : Int} (a : N ∣ R * u - 1) (b : N ∣ S * v - 1) (c : N ∣ (0 - h * u + S * u * K) - d) : N ∣ (h * v + R * v * d) - K := by
  obtain ⟨x, hx⟩ := a
  obtain ⟨y, hy⟩ := b
  obtain ⟨z, hz⟩ := c
  refine ⟨-(R * v * z) - h * v * x + S * v * x * K + y * K, ?_⟩
  have e1 : d = (0 - h * u + S * u * K) - N * z := by omega
  have e2 : R * u = 1 + N * x := by omega
  have e3 : S * v = 1 + N * y := by omega
  have e4 : R * v * d = -(h * v * (R * u)) + S * v * (R * u) * K - N * (R * v * z) := by rw [e1]; grind
  rw [e4, e2]
  have e5 : S * v * (1 + N * x) * K = S * v * K + N * (S * v * x * K) := by grind
  rw [e5]
  have e6 : S * v * K = K + N * (y * K) := by rw [e3]; grind
  rw [e6]
  grind
/-- Who has signed is told. -/
theorem ring_d {h R S u K d N : Int} (a : N ∣ R * u - 1) (c : N ∣ S * K - (h + R * d)) : N ∣ (0 - h * u + S * u * K) - d := by
  obtain ⟨x, hx⟩ := a
  obtain ⟨z, hz⟩ := c
  refine ⟨u * z + x * d, ?_⟩
  have e1 : S * K = h + R * d + N * z := by omega
  have e2 : R * u = 1 + N * x := by omega
  have e3 : S * u * K = u * (S * K) := by grind
  rw [e3, e1]
  have e4 : u * (h + R * d + N * z) = h * u + R * u * d + N * (u * z) := by grind
  rw [e4, e2]
  grind
/-- A number of 32 bytes, by the order. -/
def hS (I : Nat) (g : Nat → Int) : Nat := fromN g 32 % M256 % cN I
theorem hS_lt {I : Nat} (hi : I < 8) (g : Nat → Int) : hS I g < cN I := Nat.mod_lt _ (by have := (cN_range hi).1; omega)
/-- Recovering, by places. -/
theorem rec_at {I R S K : Nat} {o : Int} {g : Nat → Int} (hi : I < 8) (r1 : 1 ≤ R) (r2 : R < cN I) (s2 : S < cN I) (k1 : 1 ≤ K) (k2 : K < cN I) (hp : pofP (cP I) 0 (cB I) (cN I) R o = ptOf I K) :
    oinvE (cN I) R = 0 ∧ bothOK (cP I) 0 (cB I) (cN I) (ptOf I 1) (minN (cN I) (mulN (cN I) (restN (cN I) (fromN g 32)) (oinvN (cN I) R)) % M256) (red (pofP (cP I) 0 (cB I) (cN I) R o).1 (pofP (cP I) 0 (cB I) (cN I) R o).2.1 (pofP (cP I) 0 (cB I) (cN I) R o).2.2) (mulN (cN I) S (oinvN (cN I) R) % M256) ∧
    ∃ d, d < cN I ∧ recQ (cP I) 0 (cB I) (cN I) (ptOf I 1) g R S o = ptOf I d ∧ Cg (cN I) d (0 - (hS I g : Int) * ((oinvN (cN I) R : Nat) : Int) + (S : Int) * ((oinvN (cN I) R : Nat) : Int) * K) := by
  have hr := (cN_range hi).1
  have lt : ∀ v, v % cN I < cN I := fun v => Nat.mod_lt v (by omega)
  have hM := M256_eq
  have hr2 := (cN_range hi).2
  obtain ⟨i1, i2, _⟩ := inv_sec hi r1 r2
  have hh := hS_lt hi g
  have e1 : restN (cN I) (fromN g 32) = hS I g := rest_is hi _
  have e2 : mulN (cN I) (hS I g) (oinvN (cN I) R) = hS I g * oinvN (cN I) R % cN I := mul_is hi hh i2
  have e3 := min_is hi (lt (hS I g * oinvN (cN I) R))
  have e4 : mulN (cN I) S (oinvN (cN I) R) = S * oinvN (cN I) R % cN I := mul_is hi s2 i2
  have e5 : red (pofP (cP I) 0 (cB I) (cN I) R o).1 (pofP (cP I) 0 (cB I) (cN I) R o).2.1 (pofP (cP I) 0 (cB I) (cN I) R o).2.2 = ptOf I K := by
    rw [hp]
    exact red_pt hi k2
  obtain ⟨b1, b2⟩ := both_pt (j := K) (k := (0 + cN I - hS I g * oinvN (cN I) R % cN I) % cN I) (l := S * oinvN (cN I) R % cN I) hi k2 (by have := lt (0 + cN I - hS I g * oinvN (cN I) R % cN I); omega) (by have := lt (S * oinvN (cN I) R); omega)
  refine ⟨i1, ?_, _, lt ((0 + cN I - hS I g * oinvN (cN I) R % cN I) % cN I + S * oinvN (cN I) R % cN I * K), ?_, ?_⟩
  · rw [e1, e2, e3, e4, e5, lt_M hi (lt _), lt_M hi (lt _)]
    exact b1
  · unfold recQ
    rw [e1, e2, e3, e4, e5, lt_M hi (lt _), lt_M hi (lt _)]
    exact b2
  · have c1 : Cg (cN I) ((0 + cN I - hS I g * oinvN (cN I) R % cN I) % cN I) (0 - (hS I g : Int) * ((oinvN (cN I) R : Nat) : Int)) :=
      ((Cg.self (cN I) 0).sub ((Cg.self (cN I) (hS I g)).mul (Cg.self _ _)).md (Nat.le_of_lt (lt _))).md
    exact (c1.add ((((Cg.self (cN I) S).mul (Cg.self (cN I) (oinvN (cN I) R))).md).mul (Cg.self (cN I) K))).md
/-- Checking, by places. -/
theorem chk_at {I R S d : Nat} {g : Nat → Int} (hi : I < 8) (r2 : R < cN I) (s1 : 1 ≤ S) (s2 : S < cN I) (d2 : d < cN I) :
    oinvE (cN I) S = 0 ∧ bothOK (cP I) 0 (cB I) (cN I) (ptOf I 1) (mulN (cN I) (restN (cN I) (fromN g 32)) (oinvN (cN I) S) % M256) (ptOf I d) (mulN (cN I) R (oinvN (cN I) S) % M256) ∧
    ∃ K, K < cN I ∧ chkQ (cP I) 0 (cN I) (ptOf I 1) (ptOf I d) g R S = ptOf I K ∧ Cg (cN I) K ((hS I g : Int) * ((oinvN (cN I) S : Nat) : Int) + (R : Int) * ((oinvN (cN I) S : Nat) : Int) * d) := by
  have hr := (cN_range hi).1
  have lt : ∀ v, v % cN I < cN I := fun v => Nat.mod_lt v (by omega)
  have hM := M256_eq
  have hr2 := (cN_range hi).2
  obtain ⟨i1, i2, _⟩ := inv_sec hi s1 s2
  have hh := hS_lt hi g
  have e1 : restN (cN I) (fromN g 32) = hS I g := rest_is hi _
  have e2 : mulN (cN I) (hS I g) (oinvN (cN I) S) = hS I g * oinvN (cN I) S % cN I := mul_is hi hh i2
  have e4 : mulN (cN I) R (oinvN (cN I) S) = R * oinvN (cN I) S % cN I := mul_is hi r2 i2
  obtain ⟨b1, b2⟩ := both_pt (j := d) (k := hS I g * oinvN (cN I) S % cN I) (l := R * oinvN (cN I) S % cN I) hi d2 (by have := lt (hS I g * oinvN (cN I) S); omega) (by have := lt (R * oinvN (cN I) S); omega)
  refine ⟨i1, ?_, _, lt (hS I g * oinvN (cN I) S % cN I + R * oinvN (cN I) S % cN I * d), ?_, ?_⟩
  · rw [e1, e2, e4, lt_M hi (lt _), lt_M hi (lt _)]
    exact b1
  · unfold chkQ
    rw [e1, e2, e4, lt_M hi (lt _), lt_M hi (lt _)]
    exact b2
  · exact ((((Cg.self (cN I) (hS I g)).mul (Cg.self (cN I) (oinvN (cN I) S))).md).add ((((Cg.self (cN I) R).mul (Cg.self (cN I) (oinvN (cN I) S))).md).mul (Cg.self (cN I) d))).md
/-- Each call of Recover on a small curve is one that its card speaks of. -/
theorem recOK_all {I R S : Nat} {o : Int} {g : Nat → Int} (hi : I < 8) (hR : R < M256) (hS' : S < M256) (hg : byteOK 32 g) : recOK (cP I) 0 (cB I) (cN I) (ptOf I 1) g R S o := by
  obtain ⟨_, _, _, _, _, _, fg⟩ := cx_facts hi
  refine ⟨by rw [cN_M hi]; exact fg, hg, fun hm hp => ?_⟩
  obtain ⟨a1, a2, b1, b2, _, _⟩ := may_is hi hm
  rw [Nat.mod_eq_of_lt hR] at a1 a2
  rw [Nat.mod_eq_of_lt hS'] at b1 b2
  obtain ⟨K, k1, k2, hk, _⟩ := pof_ok hi a2 hp
  obtain ⟨r1, r2, _⟩ := rec_at (g := g) hi a1 a2 b2 k1 k2 hk
  rw [cN_M hi]
  exact ⟨r1, r2⟩
theorem chkOK_all {I R S d : Nat} {o : Int} {g : Nat → Int} (hi : I < 8) (hR : R < M256) (hS' : S < M256) (hg : byteOK 32 g) (hd : d < cN I) : chkOK (cP I) 0 (cB I) (cN I) (ptOf I 1) (ptOf I d) g R S o := by
  obtain ⟨_, _, _, _, _, _, fg⟩ := cx_facts hi
  refine ⟨by rw [cN_M hi]; exact fg, onP_pt hi hd, hg, fun _ hm => ?_⟩
  obtain ⟨a1, a2, b1, b2, _, _⟩ := may_is hi hm
  rw [Nat.mod_eq_of_lt hR] at a1 a2
  rw [Nat.mod_eq_of_lt hS'] at b1 b2
  obtain ⟨r1, r2, _⟩ := chk_at (g := g) (d := d) hi a2 b1 b2 hd
  rw [cN_M hi]
  exact ⟨r1, r2⟩
/-- What Recover answers on a small curve. -/
theorem recE_cases {I R S : Nat} {o : Int} {g : Nat → Int} (hi : I < 8) (hR : R < M256) (hS' : S < M256) :
    recE (cP I) 0 (cB I) (cN I) (ptOf I 1) g R S o = 10 ∨
    (recE (cP I) 0 (cB I) (cN I) (ptOf I 1) g R S o = 0 ∧ mayB (cN I) R S o = true ∧ ∃ K d, 1 ≤ K ∧ K < cN I ∧ 1 ≤ d ∧ d < cN I ∧ (ptOf I K).1 % cN I = R ∧ recA (cP I) 0 (cB I) (cN I) (ptOf I 1) g R S o = ptOf I d ∧ Cg (cN I) d (0 - (hS I g : Int) * ((oinvN (cN I) R : Nat) : Int) + (S : Int) * ((oinvN (cN I) R : Nat) : Int) * K)) := by
  by_cases hm : mayB (cN I) R S o = true
  · by_cases hp : pofE (cP I) 0 (cB I) (cN I) R o = 0
    · obtain ⟨a1, a2, b1, b2, _, _⟩ := may_is hi hm
      rw [Nat.mod_eq_of_lt hR] at a1 a2
      rw [Nat.mod_eq_of_lt hS'] at b1 b2
      obtain ⟨K, k1, k2, hk, hx⟩ := pof_ok hi a2 hp
      obtain ⟨i1, _, d, d2, hq, hc⟩ := rec_at (g := g) hi a1 a2 b2 k1 k2 hk
      by_cases hf : (recQ (cP I) 0 (cB I) (cN I) (ptOf I 1) g R S o).2.2 = true
      · refine .inl ?_
        unfold recE
        rw [if_pos hm, if_pos hp, if_pos i1, if_pos hf]
      · have e : recE (cP I) 0 (cB I) (cN I) (ptOf I 1) g R S o = 0 := by
          unfold recE
          rw [if_pos hm, if_pos hp, if_pos i1, if_neg hf]
        refine .inr ⟨e, hm, K, d, k1, k2, ?_, d2, hx, ?_, hc⟩
        · rw [hq] at hf
          exact near_pt (by simpa using hf)
        · unfold recA
          rw [if_pos e, hq]
    · refine .inl ?_
      unfold recE
      rw [if_pos hm, if_neg hp]
  · refine .inl ?_
    unfold recE
    rw [if_neg hm]
/-- By whom it is right. -/
theorem chkE_ok {I R S d K : Nat} {o : Int} {g : Nat → Int} (hi : I < 8) (hm : mayB (cN I) R S o = true) (r2 : R < cN I) (s1 : 1 ≤ S) (s2 : S < cN I) (d1 : 1 ≤ d) (d2 : d < cN I) (k1 : 1 ≤ K) (k2 : K < cN I) (hx : (ptOf I K).1 % cN I = R)
    (hc : ((cN I : Nat) : Int) ∣ ((hS I g : Int) * ((oinvN (cN I) S : Nat) : Int) + (R : Int) * ((oinvN (cN I) S : Nat) : Int) * d) - K) : chkE (cP I) 0 (cN I) (ptOf I 1) (ptOf I d) g R S o = 0 := by
  obtain ⟨i1, _, K', kk, hq, hcg⟩ := chk_at (g := g) (R := R) (d := d) hi r2 s1 s2 d2
  have e : K' = K := (hcg.to hc).eq (Cg.self _ _) kk k2
  subst e
  have hP := (cP_range hi).2
  obtain ⟨_, _, _, g4, _, _, g7⟩ := neg_pt hi k1 k2
  have hr := (cN_range hi)
  unfold chkE
  rw [hq, hm, i1, if_pos rfl, g4, rest_is hi, small_mod (show (ptOf I K').1 < 18446744073709551616 by omega), hx, pt_pos I d1]
  simp
end Go.Proofs.Ytbfcccoeekonlaa
end

section
/-
  A law of signatures: whatever point is told, the signature is right by it.
-/
namespace Go.Proofs.Ytbfcccoeekonlaa
open Go.Sx

theorem cxok_RR : CxOK Try.prog (cxRR sumF) := CxOK_cons card_Curve (CxOK_cons card_pickBig (CxOK_cons card_Secret (CxOK_cons card_sumR (CxOK_cons card_sTells (CxOK_cons card_Recover (CxOK_cons card_Check CxOK_nil))))))
theorem ok_RecoverRight : ∀ (n k a b : Int) (s : ByteArray) (i j o : Int), i64ok n → i64ok k → i64ok a → i64ok b → i64ok i → i64ok j → i64ok o → Owes Try.prog (cxRR sumF) [] 100 Try.f3 [sI .i64 n, sRaw k a b s, sI .i64 i, sI .i64 j, sI .i64 o] yes := by
  intro n k a b s i j o hn hk ha hb hi hj ho
  rw [vc_RecoverRight]
  have hI := ixN_lt n
  generalize ixN n = I at *
  obtain ⟨fP, fB, fN, fb, fx, fcv, fg⟩ := cx_facts hI
  obtain ⟨n1, n2⟩ := cN_range hI
  have hM := M256_eq
  obtain ⟨_, R, R1, R2, _, _, R5⟩ := pick_one hI i
  have m1 := Int.emod_nonneg j (show (((cN I / 2 : Nat) : Int)) ≠ 0 by omega)
  have m2 := Int.emod_lt_of_pos j (show (0 : Int) < ((cN I / 2 : Nat) : Int) by omega)
  obtain ⟨t, ht⟩ := Int.eq_ofNat_of_zero_le m1
  obtain ⟨S, hS⟩ : ∃ S, S = 1 + t := ⟨_, rfl⟩
  have S1 : 1 ≤ S := by omega
  have S2 : 2 * S ≤ cN I := by omega
  have hsel : ∀ g : Nat → Int, selG [SK.f .u8 32 g] = g := fun _ => rfl
  rw [hsel]
  have hgb := sumF_ok a b s
  generalize sumF a b s = g at *
  have o1 := Int.emod_nonneg o (show (5 : Int) ≠ 0 by decide)
  intro x1 x2 x3 x4 x5 x6 x7 x8 x9
  have E1 : x1 = cP I := fP
  have E2 : x2 = I := by simp only [x2]; rw [E1]; exact fx
  have E3 : x3 = ((cN I / 2 : Nat) : Int) := by
    simp only [x3]
    rw [limb_small (by omega), IntWalk.i64_in ((cN I : Nat) : Int) (by omega), Int.tdiv_eq_ediv_of_nonneg (by omega), IntWalk.i64_in _ (by omega)]
    omega
  have E4 : x4 = ((S : Nat) : Int) := by
    simp only [x4]
    rw [E3, ht, wrap_id (n := (t : Int)) (by omega), wrap_id (by omega)]
    omega
  have E5 : x5 = cB I := fB
  have E6 : x6 = R := by
    simp only [x6]
    rw [E2]
    exact R5
  have E7 : x7 = S := by
    simp only [x7]
    rw [E4]
    unfold join
    simp
  have E8 : x8 = o % 5 := rfl
  have E9 : x9 = recE (cP I) 0 (cB I) (cN I) (ptOf I 1) g R S x8 := by
    simp only [x9]
    rw [E1, E5, E6, E7, fb]
  clear_value x9 x8 x7 x6 x5 x4 x3 x2 x1
  subst E1 E2 E3 E4 E5 E6 E7
  rw [fb]
  have hz : (0 : Int) ≤ 0 ∧ (0 : Int) < 18446744073709551616 := by decide
  have hs4 : (0 : Int) ≤ ((x7 : Nat) : Int) ∧ ((x7 : Nat) : Int) < 18446744073709551616 := by omega
  have h3 : (0 : Int) < ((cN x2 / 2 : Nat) : Int) ∧ ((cN x2 / 2 : Nat) : Int) ≤ 1048576 := by omega
  have rM : x6 < M256 := by omega
  have sM : x7 < M256 := by omega
  have hrec := recOK_all (o := x8) hI rM sM hgb
  refine ⟨hn, fcv, hi, hj, h3, ho, by decide, hk, ha, hb, hs4, hz, hz, hz, hrec, fun h => ?_, fun h => ?_⟩
  · rcases recE_cases (o := x8) (g := g) hI rM sM with e | ⟨e, _⟩
    · rw [E9, e]
      exact ⟨id, id, rfl⟩
    · rw [E9, e] at h
      cases h
  · rcases recE_cases (o := x8) (g := g) hI rM sM with e | ⟨e, hm, K, d, k1, k2, d1, d2, hx, hA, hc⟩
    · rw [E9, e] at h
      cases h
    · obtain ⟨_, _, iu⟩ := inv_sec hI R1 R2
      obtain ⟨_, _, iv⟩ := inv_sec hI S1 (show x7 < cN x2 by omega)
      have hck := chkE_ok (g := g) hI hm R2 S1 (show x7 < cN x2 by omega) d1 d2 k1 k2 hx (ring_K iu iv (by
        obtain ⟨z, hz⟩ := hc.d
        exact ⟨-z, by rw [Int.mul_neg, ← hz]; omega⟩))
      have hco := chkOK_all (o := x8) hI rM sM hgb d2
      rw [hA, red_pt hI d2, hck]
      exact ⟨id, fun _ => hk, fun _ => ha, fun _ => hb, id, id, id, id, fun _ => hs4, fun _ => hz, fun _ => hz, fun _ => hz, fun _ => hco, id, id, rfl⟩
end Go.Proofs.Ytbfcccoeekonlaa
end
