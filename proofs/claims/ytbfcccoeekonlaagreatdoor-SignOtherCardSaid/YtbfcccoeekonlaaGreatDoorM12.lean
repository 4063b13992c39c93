/-
  Texts: P41, Ptab, P37, P38, P38s, P42, V15, V50, P43, P44, P80, P11.
-/
import Derived.Test.YtbfcccoeekonlaaGreatDoorM1
import Derived.Test.YtbfcccoeekonlaaGreatDoorM2
import Derived.Test.YtbfcccoeekonlaaGreatDoorM3
import Derived.Test.YtbfcccoeekonlaaGreatDoorM4
import Derived.Test.YtbfcccoeekonlaaGreatDoorM5
import Derived.Test.YtbfcccoeekonlaaGreatDoorM6
import Derived.Test.YtbfcccoeekonlaaGreatDoorM7
import Derived.Test.YtbfcccoeekonlaaGreatDoorM8
import Derived.Test.YtbfcccoeekonlaaGreatDoorM9
import Derived.Test.YtbfcccoeekonlaaGreatDoorM10
import Derived.Test.YtbfcccoeekonlaaGreatDoorM11
import Init
import Derived.KernelRfl
import Derived.Laws.Strings
section
/-
  Package curve: its faces, on curves and points that may be.
-/
namespace Go.Proofs.YtbfcccoeekonlaaGreatDoor
open Go.Sx

theorem ok_cAdd : ∀ (ls : List (List At)) (vs : List (Option Addr)), Ok (cAddC ls) → Owes Tryz.prog cxCAdd [] 100 Tryz.f53 (mkArgs [.str pCv, .str pPt, .str pPt] ls vs) (cAddG ls) := by
  intro ls vs hc
  unfold cAddC at hc
  split at hc
  · rename_i P A B N X Y F x y f z w g
    have h : Owes Tryz.prog cxCAdd [] 100 Tryz.f53 [sCv P A B N X Y F, sPt x y f, sPt z w g] (cAddG [[.u P, .u A, .u B, .u N, .u X, .u Y, .b F], [.u x, .u y, .b f], [.u z, .u w, .b g]]) := by
      rw [vc_cAdd]
      obtain ⟨hg, hp, hq, hs, _⟩ := hc
      exact ⟨rfl, hg, hg.A0, hg.B0, hp, hg.A0, hg.B0, hq, hs, rfl, ⟨rfl, rfl, rfl, trivial⟩, rfl⟩
    exact h
  · exact hc.1.elim
theorem ok_cOn : ∀ (ls : List (List At)) (vs : List (Option Addr)), Ok (cOnC ls) → Owes Tryz.prog cxCOn [] 100 Tryz.f34 (mkArgs [.str pCv, .str pPt] ls vs) (cOnG ls) := by
  intro ls vs hc
  unfold cOnC at hc
  split at hc
  · rename_i P A B N X Y F x y f
    have h : Owes Tryz.prog cxCOn [] 100 Tryz.f34 [sCv P A B N X Y F, sPt x y f] (cOnG [[.u P, .u A, .u B, .u N, .u X, .u Y, .b F], [.u x, .u y, .b f]]) := by
      rw [vc_cOn]
      obtain ⟨hg, hf, hn, _⟩ := hc
      have mM := md_M (lt_pos hg.A0)
      intro x1 x2 x3 x4 x5 x6
      have E6 : x6 = onE x1 x2 x3 (x4, x5, f) := rfl
      refine ⟨rfl, hg, fun h => ?_, fun h => ?_⟩
      · obtain ⟨e1, e2⟩ := hf h
        have e1 : x4 = 0 := e1
        have e2 : x5 = 0 := e2
        have e : onE x1 x2 x3 (x4, x5, f) = 0 := by unfold onE; rw [if_pos h]
        rw [E6, e, e1, e2, h]
        exact ⟨fun h => absurd h (by decide), fun _ => rfl⟩
      · obtain ⟨l1, l2⟩ := hn h
        have m1 : x5 * x5 % x1 % M256 = x5 * x5 % x1 := mM _
        have m2 : rhsN x1 x2 x3 x4 % M256 = rhsN x1 x2 x3 x4 := mM _
        have e : onE x1 x2 x3 (x4, x5, f) = if x5 * x5 % x1 = rhsN x1 x2 x3 x4 then 0 else 16 := by unfold onE; rw [if_neg (by rw [h]; exact Bool.false_ne_true)]
        rw [E6, e, m1, m2]
        refine ⟨l2, l2, hg.A0, hg.B0, l1, fun hb => ?_, fun hb => ?_⟩
        · rw [if_neg]
          intro e
          rw [beq_iff_eq.2 e] at hb
          exact absurd hb (by decide)
        · rw [if_pos]
          rcases Classical.em (x5 * x5 % x1 = rhsN x1 x2 x3 x4) with e | e
          · exact e
          · rw [beq_eq_false_iff_ne.2 e] at hb
            exact absurd hb (by decide)
    exact h
  · exact hc.1.elim
structure inM (p : Pt) : Prop where
  x : p.1 < M256
  y : p.2.1 < M256
theorem red_inM (x y : Nat) (f : Bool) : inM (red x y f) := ⟨Nat.mod_lt _ M_pos, Nat.mod_lt _ M_pos⟩
theorem red_same {p : Pt} (h : inM p) : red p.1 p.2.1 p.2.2 = p := by
  unfold red
  rw [Nat.mod_eq_of_lt h.x, Nat.mod_eq_of_lt h.y]
theorem csum_inM {m A : Nat} {p q : Pt} (h0 : 0 < m) (hm : m < M256) (hp : inM p) (hq : inM q) : inM (csum m A p q) := by
  unfold csum
  split
  · exact hq
  · split
    · exact hp
    · split
      · exact ⟨M_pos, M_pos⟩
      · exact ⟨Nat.lt_trans (Nat.mod_lt _ h0) hm, Nat.lt_trans (Nat.mod_lt _ h0) hm⟩
theorem cmulR_inM {m A k : Nat} {p : Pt} (h0 : 0 < m) (hm : m < M256) (hp : inM p) : ∀ n, inM (cmulR m A k p n)
  | 0 => ⟨M_pos, M_pos⟩
  | n + 1 => by
    have ih := cmulR_inM (A := A) (k := k) h0 hm hp n
    rw [cmulR]
    split
    · exact csum_inM h0 hm (csum_inM h0 hm ih ih) hp
    · exact csum_inM h0 hm ih ih
set_option maxHeartbeats 1000000 in
theorem ok_cMult : ∀ (P A B N X Y : Nat) (F : Bool) (k x y : Nat) (f : Bool), goodP (P % M256) (A % M256) (B % M256) (N % M256) (red X Y F) → onP (P % M256) (A % M256) (B % M256) (red x y f) → mulOK (P % M256) (A % M256) (k % M256) (red x y f) →
    Owes Tryz.prog cxCMult [(7, .inv (invMult P A B N X Y F k x y f))] 100 Tryz.f21 [sCv P A B N X Y F, sU k, sPt x y f] (cMultG [[.u P, .u A, .u B, .u N, .u X, .u Y, .b F], [.u k], [.u x, .u y, .b f]]) := by
  intro P A B N X Y F k x y f hg hp hk
  rw [vc_cMult]
  have hbit := fun j hj => limb_bit k j hj
  have h0 := lt_pos hg.A0
  have hm : P % M256 < M256 := Nat.mod_lt _ M_pos
  have RS := fun n => red_same (cmulR_inM (A := A % M256) (k := k % M256) h0 hm (red_inM x y f) n)
  have RC := fun n => red_same (csum_inM (A := A % M256) h0 hm (cmulR_inM (A := A % M256) (k := k % M256) h0 hm (red_inM x y f) n) (cmulR_inM (A := A % M256) (k := k % M256) h0 hm (red_inM x y f) n))
  have kd := hk.dbl
  have ka := hk.add
  have step1 := fun n (h : (k % M256).testBit (255 - n) = true) => (show cmulR (P % M256) (A % M256) (k % M256) (red x y f) (n + 1) = csum (P % M256) (A % M256) (csum (P % M256) (A % M256) (cmulR (P % M256) (A % M256) (k % M256) (red x y f) n) (cmulR (P % M256) (A % M256) (k % M256) (red x y f) n)) (red x y f) by rw [cmulR, if_pos h])
  have step0 := fun n (h : (k % M256).testBit (255 - n) = false) => (show cmulR (P % M256) (A % M256) (k % M256) (red x y f) (n + 1) = csum (P % M256) (A % M256) (cmulR (P % M256) (A % M256) (k % M256) (red x y f) n) (cmulR (P % M256) (A % M256) (k % M256) (red x y f) n) by rw [cmulR, if_neg (by rw [h]; exact Bool.false_ne_true)])
  intro x1 x2 x3 x4 x5 x6 x7 x8 x9
  refine ⟨rfl, hg, hg.A0, hg.B0, hp, fun y => rfl, 0, by decide, rfl, rfl, rfl, rfl, rfl, rfl, rfl, rfl, rfl, rfl, rfl, rfl, rfl, rfl, rfl, rfl, rfl, rfl, rfl, rfl, rfl, rfl, rfl, fun n hn => ⟨id, id, fun hc => ?_, fun hc => ?_⟩⟩
  · rw [Bool.and_eq_true] at hc
    have hn' : n ≤ 255 := by have := of_decide_eq_true hc.1; omega
    obtain ⟨j, hj⟩ : ∃ j : Nat, j = 255 - n := ⟨_, rfl⟩
    have hjI : (255 : Int) - (n : Int) = (j : Int) := by omega
    have t1 : IntKind.i64.wrap ((j : Int).tdiv 64) = ((j / 64 : Nat) : Int) := by
      have e : (j : Int).tdiv 64 = ((j / 64 : Nat) : Int) := tdiv_nat j 64
      rw [e, IntWalk.i64_in _ (by omega)]
    have t2 : (j : Int).tmod 64 = ((j % 64 : Nat) : Int) := by
      rw [Int.tmod_eq_emod_of_nonneg (Int.natCast_nonneg _)]
      exact (Int.natCast_emod j 64).symm
    have t3 : IntKind.i64.wrap ((j : Int) - 1) = 255 - ((n + 1 : Nat) : Int) := by
      rw [IntWalk.i64_in _ (by omega)]
      omega
    have hq : (0 : Int) ≤ ((j / 64 : Nat) : Int) ∧ ((j / 64 : Nat) : Int) < 4 := by omega
    have kd := kd n (by omega)
    have ka := ka n (by omega)
    have s1 := step1 n
    have s0 := step0 n
    rw [← hj] at ka s1 s0
    rw [hjI, t1, t2, t3, two_min _ (by omega), Int.toNat_natCast, hbit j (by omega), RS n, RC n]
    refine ⟨kd, hq, hq, nn _, fun hb => ⟨ka hb, n + 1, by omega, rfl, rfl, rfl, rfl, rfl, rfl, rfl, rfl, rfl, rfl, rfl, rfl, rfl, rfl, rfl, rfl, rfl, rfl, rfl, ?_, ?_, ?_, rfl, by omega⟩, fun hb => ⟨n + 1, by omega, rfl, rfl, rfl, rfl, rfl, rfl, rfl, rfl, rfl, rfl, rfl, rfl, rfl, rfl, rfl, rfl, rfl, rfl, rfl, ?_, ?_, ?_, rfl, by omega⟩⟩
    · rw [s1 hb]
    · rw [s1 hb]
    · rw [s1 hb]
    · rw [s0 hb]
    · rw [s0 hb]
    · rw [s0 hb]
  · have hn' : n = 256 := by
      rcases Nat.lt_or_ge n 256 with e | e
      · rw [decide_eq_true (show (255 : Int) - (n : Int) ≥ 0 by omega)] at hc
        exact absurd hc (by decide)
      · omega
    rw [hn']
    exact ⟨rfl, ⟨rfl, rfl, rfl, trivial⟩, rfl⟩
def cAddS : FSpec := specA [.str pCv, .str pPt, .str pPt] cAddC cAddG
def cMultS : FSpec := specA [.str pCv, .str [.u], .str pPt] cMultC cMultG
def cOnS : FSpec := specA [.str pCv, .str pPt] cOnC cOnG
theorem card_cAdd : FnOK Tryz.prog 53 cAddS :=
  FnOK_A (CxOK_cons card_be (CxOK_cons card_have (CxOK_cons card_sumP (CxOK_cons card_told CxOK_nil)))) (iv := fun _ => []) (N := 100) Tryz.func53 (by kernel_rfl) (by kernel_rfl) (fun ls => by
    unfold cAddG
    split
    · exact bnd_two (bnd_pt _) trivial
    · exact bnd_none) ok_cAdd
theorem card_cOn : FnOK Tryz.prog 34 cOnS :=
  FnOK_A (CxOK_cons card_be (CxOK_cons card_hmul (CxOK_cons card_right (CxOK_cons card_far CxOK_nil)))) (iv := fun _ => []) (N := 100) Tryz.func34 (by kernel_rfl) (by kernel_rfl) (fun ls => by
    unfold cOnG
    split
    · exact bnd_one (bnd_I _ _)
    · exact bnd_none) ok_cOn
theorem card_cMult : FnOK Tryz.prog 21 cMultS :=
  FnOK_A (CxOK_cons card_be (CxOK_cons card_have (CxOK_cons card_sumP (CxOK_cons card_told (CxOK_cons card_far CxOK_nil))))) (iv := fun ls => match ls with
    | [[.u P, .u A, .u B, .u N, .u X, .u Y, .b F], [.u k], [.u x, .u y, .b f]] => [(7, .inv (invMult P A B N X Y F k x y f))]
    | _ => []) (N := 100) Tryz.func21 (by kernel_rfl) (by kernel_rfl) (fun ls => by
    unfold cMultG
    split
    · exact bnd_two (bnd_pt _) trivial
    · exact bnd_none) (fun ls vs hc => by
    unfold cMultC at hc
    split at hc
    · rename_i P A B N X Y F k x y f
      exact ok_cMult P A B N X Y F k x y f hc.1 hc.2.1 hc.2.2.1
    · exact hc.1.elim)
end Go.Proofs.YtbfcccoeekonlaaGreatDoor
end

section
/-
  The points of the small curves, each so often the base as its place says (at place 0 a mark).
-/
namespace Go.Proofs.YtbfcccoeekonlaaGreatDoor
def tab0 : List (Nat × Nat) :=
  [(0, 0), (2, 12), (7, 7), (35, 21), (21, 18), (12, 12), (29, 31), (25, 18), (32, 40), (20, 40), (42, 7), (40, 25), (37, 36), (13, 21), (34, 40), (38, 21), (38, 22), (34, 3), (13, 22), (37, 7), (40, 18), (42, 36), (20, 3), (32, 3), (25, 25), (29, 12), (12, 31), (21, 25), (35, 22), (7, 36), (2, 31)]
def tab1 : List (Nat × Nat) :=
  [(0, 0), (2, 12), (13, 16), (25, 4), (50, 28), (30, 1), (39, 48), (6, 33), (7, 12), (58, 55), (40, 33), (17, 52), (3, 30), (51, 44), (61, 11), (26, 52), (12, 16), (21, 34), (42, 51), (59, 48), (27, 11), (35, 59), (22, 59), (44, 30), (54, 4), (36, 19), (24, 15), (55, 63), (66, 1), (5, 44), (10, 59), (11, 44), (41, 28), (38, 66), (46, 56), (20, 37), (43, 39), (43, 28), (20, 30), (46, 11), (38, 1), (41, 39), (11, 23), (10, 8), (5, 23), (66, 66), (55, 4), (24, 52), (36, 48), (54, 63), (44, 37), (22, 8), (35, 8), (27, 56), (59, 19), (42, 16), (21, 33), (12, 51), (26, 15), (61, 56), (51, 23), (3, 37), (17, 15), (40, 34), (58, 12), (7, 55), (6, 34), (39, 19), (30, 66), (50, 39), (25, 63), (13, 51), (2, 55)]
def tab2 : List (Nat × Nat) :=
  [(0, 0), (5, 17), (63, 27), (75, 69), (8, 53), (52, 51), (58, 64), (68, 27), (57, 55), (27, 52), (51, 75), (11, 51), (60, 40), (37, 40), (45, 53), (78, 20), (16, 28), (59, 8), (26, 26), (24, 20), (66, 69), (30, 64), (67, 75), (17, 10), (14, 8), (61, 39), (6, 8), (70, 15), (54, 55), (36, 17), (38, 62), (47, 55), (40, 4), (56, 20), (56, 59), (40, 75), (47, 24), (38, 17), (36, 62), (54, 24), (70, 64), (6, 71), (61, 40), (14, 71), (17, 69), (67, 4), (30, 15), (66, 10), (24, 59), (26, 53), (59, 71), (16, 51), (78, 59), (45, 26), (37, 39), (60, 39), (11, 28), (51, 4), (27, 27), (57, 24), (68, 52), (58, 15), (52, 28), (8, 26), (75, 10), (63, 52), (5, 62)]
def tab3 : List (Nat × Nat) :=
  [(0, 0), (3, 53), (59, 56), (29, 30), (6, 94), (116, 117), (119, 8), (81, 18), (134, 4), (33, 76), (71, 108), (4, 30), (105, 69), (85, 5), (106, 109), (41, 37), (74, 72), (68, 4), (51, 73), (90, 15), (27, 15), (70, 111), (26, 8), (35, 64), (117, 125), (76, 135), (138, 1), (28, 39), (133, 131), (109, 78), (24, 64), (7, 117), (107, 90), (110, 76), (50, 72), (99, 130), (16, 22), (64, 39), (118, 101), (22, 124), (91, 101), (43, 1), (135, 63), (108, 97), (72, 69), (115, 56), (9, 133), (104, 83), (95, 5), (82, 97), (15, 67), (49, 125), (39, 78), (80, 75), (127, 130), (44, 37), (101, 70), (100, 133), (10, 53), (126, 86), (30, 133), (98, 134), (63, 108), (125, 90), (47, 100), (21, 111), (31, 73), (97, 138), (46, 90), (20, 94), (54, 102), (88, 97), (5, 31), (113, 45), (52, 130), (112, 14), (66, 18), (48, 111), (69, 38), (57, 73), (131, 18), (130, 61), (130, 78), (131, 121), (57, 66), (69, 101), (48, 28), (66, 121), (112, 125), (52, 9), (113, 94), (5, 108), (88, 42), (54, 37), (20, 45), (46, 49), (97, 1), (31, 66), (21, 28), (47, 39), (125, 49), (63, 31), (98, 5), (30, 6), (126, 53), (10, 86), (100, 6), (101, 69), (44, 102), (127, 9), (80, 64), (39, 61), (49, 14), (15, 72), (82, 42), (95, 134), (104, 56), (9, 6), (115, 83), (72, 70), (108, 42), (135, 76), (43, 138), (91, 38), (22, 15), (118, 38), (64, 100), (16, 117), (99, 9), (50, 67), (110, 63), (107, 49), (7, 22), (24, 75), (109, 61), (133, 8), (28, 100), (138, 138), (76, 4), (117, 14), (35, 75), (26, 131), (70, 28), (27, 124), (90, 124), (51, 66), (68, 135), (74, 67), (41, 102), (106, 30), (85, 134), (105, 70), (4, 109), (71, 31), (33, 63), (134, 135), (81, 121), (119, 131), (116, 22), (6, 45), (29, 109), (59, 83), (3, 86)]
def tab4 : List (Nat × Nat) :=
  [(0, 0), (1, 2), (131, 145), (86, 149), (47, 22), (36, 82), (78, 148), (54, 160), (10, 5), (134, 8), (15, 66), (118, 22), (128, 117), (72, 12), (136, 80), (161, 141), (65, 138), (155, 119), (13, 154), (74, 160), (6, 43), (145, 56), (91, 5), (48, 154), (157, 90), (20, 4), (35, 3), (51, 102), (115, 96), (24, 102), (62, 158), (139, 94), (114, 140), (89, 117), (142, 149), (34, 137), (138, 134), (98, 14), (126, 80), (140, 86), (75, 94), (102, 9), (124, 4), (27, 146), (21, 138), (109, 46), (8, 134), (147, 109), (58, 2), (104, 161), (129, 109), (16, 137), (64, 83), (93, 66), (108, 122), (22, 43), (88, 61), (84, 56), (70, 122), (132, 82), (77, 25), (120, 140), (133, 86), (55, 97), (158, 81), (37, 146), (141, 90), (19, 159), (125, 148), (148, 122), (111, 8), (112, 69), (146, 119), (99, 146), (123, 15), (135, 120), (61, 96), (150, 96), (97, 107), (81, 155), (53, 86), (101, 12), (17, 29), (95, 145), (50, 109), (100, 18), (113, 26), (153, 12), (92, 140), (25, 44), (28, 73), (28, 90), (25, 119), (92, 23), (153, 151), (113, 137), (100, 145), (50, 54), (95, 18), (17, 134), (101, 151), (53, 77), (81, 8), (97, 56), (150, 67), (61, 67), (135, 43), (123, 148), (99, 17), (146, 44), (112, 94), (111, 155), (148, 41), (125, 15), (19, 4), (141, 73), (37, 17), (158, 82), (55, 66), (133, 77), (120, 23), (77, 138), (132, 81), (70, 41), (84, 107), (88, 102), (22, 120), (108, 41), (93, 97), (64, 80), (16, 26), (129, 54), (104, 2), (58, 161), (147, 54), (8, 29), (109, 117), (21, 25), (27, 17), (124, 159), (102, 154), (75, 69), (140, 77), (126, 83), (98, 149), (138, 29), (34, 26), (142, 14), (89, 46), (114, 23), (139, 69), (62, 5), (24, 61), (115, 67), (51, 61), (35, 160), (20, 159), (157, 73), (48, 9), (91, 158), (145, 107), (6, 120), (74, 3), (13, 9), (155, 44), (65, 25), (161, 22), (136, 83), (72, 151), (128, 46), (118, 141), (15, 97), (134, 155), (10, 158), (54, 3), (78, 15), (36, 81), (47, 141), (86, 14), (131, 18), (1, 161)]
def tab5 : List (Nat × Nat) :=
  [(0, 0), (1, 2), (170, 135), (9, 164), (44, 24), (131, 10), (40, 80), (174, 74), (205, 118), (60, 192), (112, 84), (118, 191), (187, 152), (59, 135), (66, 180), (193, 76), (31, 26), (129, 191), (160, 55), (97, 177), (156, 188), (47, 196), (176, 159), (89, 77), (92, 177), (78, 207), (194, 24), (179, 28), (175, 20), (32, 53), (184, 187), (71, 144), (155, 192), (113, 90), (103, 159), (35, 16), (108, 16), (25, 196), (117, 45), (138, 80), (181, 125), (207, 19), (23, 115), (22, 34), (42, 36), (33, 131), (69, 14), (133, 74), (161, 45), (192, 188), (191, 77), (204, 90), (127, 118), (20, 14), (115, 137), (72, 186), (143, 52), (49, 97), (139, 15), (164, 186), (90, 93), (2, 125), (145, 10), (37, 207), (132, 55), (91, 84), (201, 144), (146, 201), (3, 36), (74, 23), (109, 97), (68, 195), (53, 97), (142, 134), (111, 115), (8, 127), (185, 28), (76, 164), (86, 152), (168, 26), (126, 47), (153, 53), (130, 156), (77, 115), (105, 121), (186, 186), (144, 166), (166, 36), (96, 4), (26, 53), (149, 59), (80, 180), (196, 2), (14, 209), (65, 180), (12, 185), (58, 28), (150, 67), (28, 125), (122, 197), (122, 14), (28, 86), (150, 144), (58, 183), (12, 26), (65, 31), (14, 2), (196, 209), (80, 31), (149, 152), (26, 158), (96, 207), (166, 175), (144, 45), (186, 25), (105, 90), (77, 96), (130, 55), (153, 158), (126, 164), (168, 185), (86, 59), (76, 47), (185, 183), (8, 84), (111, 96), (142, 77), (53, 114), (68, 16), (109, 114), (74, 188), (3, 175), (146, 10), (201, 67), (91, 127), (132, 156), (37, 4), (145, 201), (2, 86), (90, 118), (164, 25), (139, 196), (49, 114), (143, 159), (72, 25), (115, 74), (20, 197), (127, 93), (204, 121), (191, 134), (192, 23), (161, 166), (133, 137), (69, 197), (33, 80), (42, 175), (22, 177), (23, 96), (207, 192), (181, 86), (138, 131), (117, 166), (25, 15), (108, 195), (35, 195), (103, 52), (113, 121), (155, 19), (71, 67), (184, 24), (32, 158), (175, 191), (179, 183), (194, 187), (78, 4), (92, 34), (89, 134), (176, 52), (47, 15), (156, 23), (97, 34), (160, 156), (129, 20), (31, 185), (193, 135), (66, 31), (59, 76), (187, 59), (118, 20), (112, 127), (60, 19), (205, 93), (174, 137), (40, 131), (131, 201), (44, 187), (9, 47), (170, 76), (1, 209)]
def tab6 : List (Nat × Nat) :=
  [(0, 0), (5, 49), (157, 175), (144, 130), (310, 125), (312, 338), (182, 14), (215, 121), (264, 317), (203, 90), (290, 70), (110, 43), (109, 206), (83, 307), (284, 136), (295, 317), (44, 226), (77, 149), (10, 302), (332, 5), (184, 266), (196, 361), (236, 36), (199, 62), (305, 95), (21, 181), (350, 42), (246, 24), (179, 282), (124, 16), (365, 226), (353, 121), (26, 12), (95, 272), (250, 123), (210, 183), (66, 255), (61, 290), (190, 258), (287, 36), (228, 347), (138, 35), (320, 44), (90, 199), (274, 212), (58, 95), (349, 153), (79, 290), (193, 66), (141, 229), (180, 221), (122, 228), (46, 47), (119, 49), (255, 330), (72, 47), (212, 59), (201, 218), (91, 368), (214, 88), (164, 12), (235, 343), (82, 136), (337, 137), (361, 295), (280, 91), (281, 354), (289, 137), (56, 90), (16, 284), (260, 16), (198, 190), (252, 71), (301, 253), (202, 353), (272, 347), (13, 243), (120, 289), (330, 212), (60, 110), (378, 378), (276, 93), (316, 190), (165, 149), (239, 89), (186, 14), (302, 88), (362, 375), (360, 250), (19, 163), (197, 66), (11, 365), (189, 367), (142, 361), (69, 353), (67, 225), (263, 160), (291, 110), (45, 181), (374, 363), (137, 230), (334, 255), (211, 163), (217, 209), (245, 13), (346, 59), (174, 175), (261, 332), (48, 204), (158, 228), (367, 13), (220, 276), (126, 375), (366, 272), (41, 18), (258, 32), (64, 307), (308, 354), (147, 92), (315, 92), (178, 295), (80, 70), (154, 167), (313, 198), (33, 282), (53, 93), (335, 217), (306, 225), (25, 35), (232, 72), (132, 242), (9, 309), (42, 199), (148, 160), (14, 217), (161, 71), (238, 302), (358, 124), (368, 313), (373, 338), (93, 368), (229, 276), (86, 209), (248, 229), (73, 41), (242, 291), (297, 107), (288, 266), (191, 253), (30, 217), (52, 378), (371, 42), (167, 97), (244, 189), (131, 77), (98, 183), (168, 250), (309, 276), (160, 218), (92, 130), (99, 151), (200, 320), (143, 249), (84, 221), (76, 209), (230, 250), (265, 123), (286, 113), (108, 26), (216, 344), (253, 206), (257, 91), (296, 92), (221, 91), (344, 43), (247, 180), (28, 269), (37, 337), (39, 24), (328, 378), (347, 160), (36, 44), (17, 173), (169, 25), (219, 84), (304, 336), (23, 44), (6, 225), (266, 253), (170, 5), (71, 196), (149, 216), (369, 150), (271, 125), (18, 218), (146, 13), (115, 221), (177, 254), (195, 11), (270, 4), (243, 256), (256, 5), (345, 71), (50, 93), (94, 24), (94, 355), (50, 286), (345, 308), (256, 374), (243, 123), (270, 375), (195, 368), (177, 125), (115, 158), (146, 366), (18, 161), (271, 254), (369, 229), (149, 163), (71, 183), (170, 374), (266, 126), (6, 154), (23, 335), (304, 43), (219, 295), (169, 354), (17, 206), (36, 335), (347, 219), (328, 1), (39, 355), (37, 42), (28, 110), (247, 199), (344, 336), (221, 288), (296, 287), (257, 288), (253, 173), (216, 35), (108, 353), (286, 266), (265, 256), (230, 129), (76, 170), (84, 158), (143, 130), (200, 59), (99, 228), (92, 249), (160, 161), (309, 103), (168, 129), (98, 196), (131, 302), (244, 190), (167, 282), (371, 337), (52, 1), (30, 162), (191, 126), (288, 113), (297, 272), (242, 88), (73, 338), (248, 150), (86, 170), (229, 103), (93, 11), (373, 41), (368, 66), (358, 255), (238, 77), (161, 308), (14, 162), (148, 219), (42, 180), (9, 70), (132, 137), (232, 307), (25, 344), (306, 154), (335, 162), (53, 286), (33, 97), (313, 181), (154, 212), (80, 309), (178, 84), (315, 287), (147, 287), (308, 25), (64, 72), (258, 347), (41, 361), (366, 107), (126, 4), (220, 103), (367, 366), (158, 151), (48, 175), (261, 47), (174, 204), (346, 320), (245, 366), (217, 170), (211, 216), (334, 124), (137, 149), (374, 16), (45, 198), (291, 269), (263, 219), (67, 154), (69, 26), (142, 18), (189, 12), (11, 14), (197, 313), (19, 216), (360, 129), (362, 4), (302, 291), (186, 365), (239, 290), (165, 230), (316, 189), (276, 286), (378, 1), (60, 269), (330, 167), (120, 90), (13, 136), (272, 32), (202, 26), (301, 126), (252, 308), (198, 189), (260, 363), (16, 95), (56, 289), (289, 242), (281, 25), (280, 288), (361, 84), (337, 242), (82, 243), (235, 36), (164, 367), (214, 291), (91, 11), (201, 161), (212, 320), (72, 332), (255, 49), (119, 330), (46, 332), (122, 151), (180, 158), (141, 150), (193, 313), (79, 89), (349, 226), (58, 284), (274, 167), (90, 180), (320, 335), (138, 344), (228, 32), (287, 343), (190, 121), (61, 89), (66, 124), (210, 196), (250, 256), (95, 107), (26, 367), (353, 258), (365, 153), (124, 363), (179, 97), (246, 355), (350, 337), (21, 198), (305, 284), (199, 317), (236, 343), (196, 18), (184, 113), (332, 374), (10, 77), (77, 230), (44, 153), (295, 62), (284, 243), (83, 72), (109, 173), (110, 336), (290, 309), (203, 289), (264, 62), (215, 258), (182, 365), (312, 41), (310, 254), (144, 249), (157, 204), (5, 330)]
def tab7 : List (Nat × Nat) :=
  [(0, 0), (1, 2), (560, 97), (441, 545), (63, 245), (388, 231), (415, 669), (493, 357), (195, 417), (238, 613), (596, 228), (245, 630), (613, 190), (490, 322), (263, 372), (642, 364), (630, 19), (432, 640), (486, 630), (87, 126), (228, 201), (578, 655), (496, 524), (514, 638), (397, 489), (542, 172), (137, 60), (163, 437), (288, 443), (651, 61), (670, 236), (116, 593), (563, 6), (297, 350), (181, 384), (301, 513), (417, 524), (66, 46), (666, 292), (406, 263), (540, 357), (509, 548), (451, 559), (108, 79), (685, 623), (105, 340), (466, 387), (349, 334), (536, 123), (13, 592), (196, 430), (532, 172), (259, 13), (83, 32), (513, 350), (343, 273), (236, 129), (211, 502), (469, 167), (209, 155), (96, 556), (136, 520), (208, 79), (638, 649), (683, 466), (46, 245), (148, 448), (468, 546), (242, 682), (582, 446), (273, 229), (396, 306), (555, 623), (6, 520), (665, 584), (174, 656), (308, 519), (379, 237), (212, 439), (658, 540), (225, 372), (312, 601), (78, 23), (41, 364), (90, 540), (373, 358), (465, 453), (572, 341), (446, 305), (126, 666), (404, 273), (35, 6), (74, 152), (55, 313), (203, 319), (219, 299), (477, 554), (127, 299), (8, 327), (680, 259), (32, 374), (111, 60), (659, 430), (210, 175), (220, 230), (375, 612), (570, 415), (3, 220), (130, 448), (619, 545), (329, 166), (534, 77), (322, 146), (31, 682), (405, 54), (482, 415), (142, 68), (328, 286), (155, 65), (114, 46), (371, 655), (522, 242), (115, 37), (93, 685), (51, 453), (358, 606), (529, 237), (443, 631), (340, 180), (597, 1), (274, 417), (526, 263), (661, 45), (64, 286), (549, 171), (91, 230), (501, 574), (172, 123), (222, 274), (584, 503), (79, 475), (433, 36), (304, 502), (314, 266), (205, 305), (635, 418), (503, 37), (24, 207), (590, 126), (636, 228), (117, 170), (336, 180), (527, 261), (28, 656), (498, 244), (361, 155), (511, 645), (664, 475), (485, 277), (150, 463), (94, 443), (653, 495), (672, 259), (634, 151), (541, 313), (504, 224), (215, 236), (14, 565), (499, 277), (569, 503), (450, 428), (488, 387), (377, 125), (660, 229), (413, 243), (491, 77), (640, 288), (253, 2), (437, 689), (516, 288), (317, 166), (418, 9), (650, 466), (278, 360), (251, 548), (674, 568), (382, 1), (579, 170), (309, 248), (141, 640), (179, 95), (162, 601), (345, 392), (227, 23), (372, 95), (305, 190), (497, 455), (123, 207), (85, 242), (176, 189), (247, 513), (67, 80), (573, 13), (474, 454), (164, 374), (60, 495), (118, 51), (464, 501), (510, 224), (65, 152), (175, 238), (339, 32), (367, 80), (134, 638), (121, 536), (17, 65), (11, 45), (428, 304), (313, 669), (561, 360), (411, 649), (330, 276), (302, 306), (23, 125), (654, 22), (622, 143), (581, 574), (614, 175), (489, 35), (48, 489), (257, 80), (187, 384), (40, 386), (473, 666), (668, 266), (143, 178), (43, 53), (652, 244), (332, 584), (380, 461), (152, 559), (543, 360), (42, 231), (449, 462), (620, 220), (197, 54), (49, 225), (261, 460), (291, 125), (307, 340), (299, 405), (492, 556), (232, 244), (246, 202), (550, 678), (280, 606), (393, 358), (95, 378), (611, 322), (140, 95), (460, 19), (30, 432), (50, 439), (53, 606), (269, 659), (323, 307), (400, 266), (282, 129), (73, 654), (249, 593), (368, 224), (281, 369), (217, 90), (458, 554), (447, 554), (386, 668), (292, 672), (669, 495), (470, 437), (15, 511), (153, 592), (300, 574), (88, 132), (333, 42), (89, 54), (243, 546), (357, 614), (106, 97), (226, 288), (25, 594), (45, 525), (671, 546), (68, 220), (684, 385), (279, 351), (19, 45), (585, 292), (639, 216), (132, 201), (544, 207), (326, 98), (552, 539), (616, 358), (429, 439), (495, 317), (58, 254), (686, 170), (97, 613), (229, 188), (131, 292), (519, 65), (103, 135), (385, 107), (558, 175), (525, 592), (403, 690), (356, 78), (398, 277), (331, 490), (84, 449), (173, 129), (92, 666), (92, 25), (173, 562), (84, 242), (331, 201), (398, 414), (356, 613), (403, 1), (525, 99), (558, 516), (385, 584), (103, 556), (519, 626), (131, 399), (229, 503), (97, 78), (686, 521), (58, 437), (495, 374), (429, 252), (616, 333), (552, 152), (326, 593), (544, 484), (132, 490), (639, 475), (585, 399), (19, 646), (279, 340), (684, 306), (68, 471), (671, 145), (45, 166), (25, 97), (226, 403), (106, 594), (357, 77), (243, 145), (89, 637), (333, 649), (88, 559), (300, 117), (153, 99), (15, 180), (470, 254), (669, 196), (292, 19), (386, 23), (447, 137), (458, 137), (217, 601), (281, 322), (368, 467), (249, 98), (73, 37), (282, 562), (400, 425), (323, 384), (269, 32), (53, 85), (50, 252), (30, 259), (460, 672), (140, 596), (611, 369), (95, 313), (393, 333), (280, 85), (550, 13), (246, 489), (232, 447), (492, 135), (299, 286), (307, 351), (291, 566), (261, 231), (49, 466), (197, 637), (620, 471), (449, 229), (42, 460), (543, 331), (152, 132), (380, 230), (332, 107), (652, 447), (43, 638), (143, 513), (668, 425), (473, 25), (40, 305), (187, 307), (257, 611), (48, 202), (489, 656), (614, 516), (581, 117), (622, 548), (654, 669), (23, 566), (302, 385), (330, 415), (411, 42), (561, 331), (313, 22), (428, 387), (11, 646), (17, 626), (121, 155), (134, 53), (367, 611), (339, 659), (175, 453), (65, 539), (510, 467), (464, 190), (118, 640), (60, 196), (164, 317), (474, 237), (573, 678), (67, 611), (247, 178), (176, 502), (85, 449), (123, 484), (497, 236), (305, 501), (372, 596), (227, 668), (345, 299), (162, 90), (179, 596), (141, 51), (309, 443), (579, 521), (382, 690), (674, 123), (251, 143), (278, 331), (650, 225), (418, 682), (317, 525), (516, 403), (437, 2), (253, 689), (640, 403), (491, 614), (413, 448), (660, 462), (377, 566), (488, 304), (450, 263), (569, 188), (499, 414), (14, 126), (215, 455), (504, 467), (541, 378), (634, 540), (672, 432), (653, 196), (94, 248), (150, 228), (485, 414), (664, 216), (511, 46), (361, 536), (498, 447), (28, 35), (527, 430), (336, 511), (117, 521), (636, 463), (590, 565), (24, 484), (503, 654), (635, 273), (205, 386), (314, 425), (304, 189), (433, 655), (79, 216), (584, 188), (222, 417), (172, 568), (501, 117), (91, 461), (549, 520), (64, 405), (661, 646), (526, 428), (274, 274), (597, 690), (340, 511), (443, 60), (529, 454), (358, 85), (51, 238), (93, 6), (115, 654), (522, 449), (371, 36), (114, 645), (155, 626), (328, 405), (142, 623), (482, 276), (405, 637), (31, 9), (322, 545), (534, 614), (329, 525), (619, 146), (130, 243), (3, 471), (570, 276), (375, 79), (220, 461), (210, 516), (659, 261), (111, 631), (32, 317), (680, 432), (8, 364), (127, 392), (477, 137), (219, 392), (203, 372), (55, 378), (74, 539), (35, 685), (404, 418), (126, 25), (446, 386), (572, 350), (465, 238), (373, 333), (90, 151), (41, 327), (78, 668), (312, 90), (225, 319), (658, 151), (212, 252), (379, 454), (308, 172), (174, 35), (665, 107), (6, 171), (555, 68), (396, 385), (273, 462), (582, 245), (242, 9), (468, 145), (148, 243), (46, 446), (683, 225), (638, 42), (208, 612), (136, 171), (96, 135), (209, 536), (469, 524), (211, 189), (236, 562), (343, 418), (513, 341), (83, 659), (259, 678), (532, 519), (196, 261), (13, 99), (536, 568), (349, 357), (466, 304), (105, 351), (685, 68), (108, 612), (451, 132), (509, 143), (540, 334), (406, 428), (666, 399), (66, 645), (417, 167), (301, 178), (181, 307), (297, 341), (563, 685), (116, 98), (670, 455), (651, 630), (288, 248), (163, 254), (137, 631), (542, 519), (397, 202), (514, 53), (496, 167), (578, 36), (228, 490), (87, 565), (486, 61), (432, 51), (630, 672), (642, 327), (263, 319), (490, 369), (613, 501), (245, 61), (596, 463), (238, 78), (195, 274), (493, 334), (415, 22), (388, 460), (63, 446), (441, 146), (560, 594), (1, 689)]
def tabOf : Nat → List (Nat × Nat)
  | 0 => tab0
  | 1 => tab1
  | 2 => tab2
  | 3 => tab3
  | 4 => tab4
  | 5 => tab5
  | 6 => tab6
  | 7 => tab7
  | _ => []
end Go.Proofs.YtbfcccoeekonlaaGreatDoor
end

section
/-
  The points of the small curves: any two have the sum that their places say (checked one by one).
-/
namespace Go.Proofs.YtbfcccoeekonlaaGreatDoor

def pairOK (p x1 y1 : Nat) (q r : Nat × Nat) : Bool :=
  match q, r with
  | (x2, y2), (x3, y3) =>
    Nat.beq y3 0 || (!Nat.beq x1 x2 && (Nat.beq ((x3 + x1 + x2) * ((x2 + p - x1) * (x2 + p - x1)) % p) ((y2 + p - y1) * (y2 + p - y1) % p) && Nat.beq ((y3 + y1) * (x2 + p - x1) % p) ((y2 + p - y1) * (x1 + p - x3) % p)))
noncomputable def rowOK (p x1 y1 : Nat) (l : List (Nat × Nat)) : List (Nat × Nat) → Bool :=
  List.rec (motive := fun _ => List (Nat × Nat) → Bool) (fun _ => true) (fun q _ ih m => match m with
    | [] => true
    | r :: m => pairOK p x1 y1 q r && ih m) l
noncomputable def triN (p n : Nat) : List (Nat × Nat) → List (Nat × Nat) → Bool :=
  Nat.rec (motive := fun _ => List (Nat × Nat) → List (Nat × Nat) → Bool) (fun _ _ => true) (fun _ ih l m => match l with
    | [] => true
    | q :: l => rowOK p q.1 q.2 l (m.drop 1) && ih l (m.drop 2)) n
theorem tri0 : triN 43 31 (tab0.drop 1) ((tab0 ++ tab0).drop 2) = true := by kernel_rfl
theorem tri1 : triN 67 73 (tab1.drop 1) ((tab1 ++ tab1).drop 2) = true := by kernel_rfl
theorem tri2 : triN 79 67 (tab2.drop 1) ((tab2 ++ tab2).drop 2) = true := by kernel_rfl
theorem tri3 : triN 139 163 (tab3.drop 1) ((tab3 ++ tab3).drop 2) = true := by kernel_rfl
theorem tri4 : triN 163 181 (tab4.drop 1) ((tab4 ++ tab4).drop 2) = true := by kernel_rfl
theorem tri5 : triN 211 199 (tab5.drop 1) ((tab5 ++ tab5).drop 2) = true := by kernel_rfl
theorem tri6 : triN 379 409 (tab6.drop 1) ((tab6 ++ tab6).drop 2) = true := by kernel_rfl
end Go.Proofs.YtbfcccoeekonlaaGreatDoor
end

section
/-
  The points of the greatest of the small curves: any two have the sum that their places say (checked one by one).
-/
namespace Go.Proofs.YtbfcccoeekonlaaGreatDoor
theorem tri7a : triN 691 110 (tab7.drop 1) ((tab7 ++ tab7).drop 2) = true := by kernel_rfl
theorem tri7b : triN 691 140 (tab7.drop 111) ((tab7 ++ tab7).drop 222) = true := by kernel_rfl
theorem tri7c : triN 691 400 (tab7.drop 251) ((tab7 ++ tab7).drop 502) = true := by kernel_rfl

end Go.Proofs.YtbfcccoeekonlaaGreatDoor
end

section
/-
  What the checks of the tables say.
-/
namespace Go.Proofs.YtbfcccoeekonlaaGreatDoor
theorem rowOK_spec {p x1 y1 : Nat} : ∀ (l m : List (Nat × Nat)), rowOK p x1 y1 l m = true → ∀ (k : Nat) (q r : Nat × Nat), l[k]? = some q → m[k]? = some r → pairOK p x1 y1 q r = true
  | [], _, _, k, q, r, hq, _ => by simp at hq
  | q0 :: l, [], _, k, q, r, _, hr => by simp at hr
  | q0 :: l, r0 :: m, h, k, q, r, hq, hr => by
    have h' : (pairOK p x1 y1 q0 r0 && rowOK p x1 y1 l m) = true := h
    rw [Bool.and_eq_true] at h'
    cases k with
    | zero =>
      simp only [List.getElem?_cons_zero, Option.some.injEq] at hq hr
      subst hq hr
      exact h'.1
    | succ k =>
      simp only [List.getElem?_cons_succ] at hq hr
      exact rowOK_spec l m h'.2 k q r hq hr
theorem triN_spec {p : Nat} : ∀ (n : Nat) (L M : List (Nat × Nat)), triN p n L M = true → ∀ (a k : Nat) (q1 q2 r : Nat × Nat), a < n → L[a]? = some q1 → L[a + 1 + k]? = some q2 → M[2 * a + 1 + k]? = some r → pairOK p q1.1 q1.2 q2 r = true
  | 0, _, _, _, a, k, q1, q2, r, ha, _, _, _ => by omega
  | n + 1, [], _, _, a, k, q1, q2, r, _, h1, _, _ => by simp at h1
  | n + 1, q :: L, M, h, a, k, q1, q2, r, ha, h1, h2, h3 => by
    have h' : (rowOK p q.1 q.2 L (M.drop 1) && triN p n L (M.drop 2)) = true := h
    rw [Bool.and_eq_true] at h'
    cases a with
    | zero =>
      simp only [List.getElem?_cons_zero, Option.some.injEq] at h1
      subst h1
      rw [show 0 + 1 + k = k + 1 by omega, List.getElem?_cons_succ] at h2
      exact rowOK_spec L (M.drop 1) h'.1 k q2 r h2 (by rw [List.getElem?_drop, show 1 + k = 2 * 0 + 1 + k by omega]; exact h3)
    | succ a =>
      simp only [List.getElem?_cons_succ] at h1
      rw [show a + 1 + 1 + k = a + 1 + k + 1 by omega, List.getElem?_cons_succ] at h2
      exact triN_spec n L (M.drop 2) h'.2 a k q1 q2 r (by omega) h1 h2 (by rw [List.getElem?_drop, show 2 + (2 * a + 1 + k) = 2 * (a + 1) + 1 + k by omega]; exact h3)
end Go.Proofs.YtbfcccoeekonlaaGreatDoor
end

section
/-
  The small curves: their points, by their places.
-/
namespace Go.Proofs.YtbfcccoeekonlaaGreatDoor
open Go.Sx

def ptOf (i j : Nat) : Pt := if j = 0 then (0, 0, true) else (((tabOf i).getD j (0, 0)).1, ((tabOf i).getD j (0, 0)).2, false)
def oneOK (p b n : Nat) (T : List (Nat × Nat)) (j : Nat) : Bool :=
  Nat.beq j 0 || (match T.getD j (0, 0), T.getD (n - j) (0, 0), T.getD (2 * j % n) (0, 0) with
    | (x, y), (x', y'), (z, w) =>
      (Nat.blt x p && (Nat.blt y p && (Nat.blt 0 y && Nat.beq (y * y % p) (rhsN p 0 b x)))) &&
      ((Nat.beq x' x && Nat.beq y' (p - y)) &&
      ((!Nat.beq ((y + y) % p) 0 && (Nat.beq ((z + x + x) * ((y + y) * (y + y)) % p) ((3 * x * x) * (3 * x * x) % p) && Nat.beq ((w + y) * (y + y) % p) (3 * x * x * (x + p - z) % p))) &&
      ((Nat.beq (rhsN p 0 b x ^ (p / 4 + 1) % p) y || Nat.beq (rhsN p 0 b x ^ (p / 4 + 1) % p) (p - y)) && Nat.beq (Nat.gcd j n) 1))))
theorem one_all : (List.range 8).all (fun i => (List.range (cN i)).all (oneOK (cP i) (cB i) (cN i) (tabOf i))) = true := by kernel_rfl
theorem len_all : (List.range 8).all (fun i => Nat.beq (tabOf i).length (cN i)) = true := by kernel_rfl
theorem len_of {i : Nat} (hi : i < 8) : (tabOf i).length = cN i := Nat.eq_of_beq_eq_true (List.all_eq_true.1 len_all i (List.mem_range.2 hi))
/-- Of a point by its place. -/
structure OneF (p b n : Nat) (q r t : Nat × Nat) (j : Nat) : Prop where
  lx : q.1 < p
  ly : q.2 < p
  y0 : 0 < q.2
  on : q.2 * q.2 % p = rhsN p 0 b q.1
  nx : r.1 = q.1
  ny : r.2 = p - q.2
  d0 : (q.2 + q.2) % p ≠ 0
  dx : (t.1 + q.1 + q.1) * ((q.2 + q.2) * (q.2 + q.2)) % p = (3 * q.1 * q.1) * (3 * q.1 * q.1) % p
  dy : (t.2 + q.2) * (q.2 + q.2) % p = 3 * q.1 * q.1 * (q.1 + p - t.1) % p
  rt : rhsN p 0 b q.1 ^ (p / 4 + 1) % p = q.2 ∨ rhsN p 0 b q.1 ^ (p / 4 + 1) % p = p - q.2
  gc : Nat.gcd j n = 1
theorem one_of {i j : Nat} (hi : i < 8) (h1 : 1 ≤ j) (h2 : j < cN i) : OneF (cP i) (cB i) (cN i) ((tabOf i).getD j (0, 0)) ((tabOf i).getD (cN i - j) (0, 0)) ((tabOf i).getD (2 * j % cN i) (0, 0)) j := by
  have h := List.all_eq_true.1 (List.all_eq_true.1 one_all i (List.mem_range.2 hi)) j (List.mem_range.2 h2)
  unfold oneOK at h
  generalize (tabOf i).getD j (0, 0) = q at *
  generalize (tabOf i).getD (cN i - j) (0, 0) = r at *
  generalize (tabOf i).getD (2 * j % cN i) (0, 0) = t at *
  obtain ⟨x, y⟩ := q
  obtain ⟨x', y'⟩ := r
  obtain ⟨z, w⟩ := t
  have hj : Nat.beq j 0 = false := by
    rcases Bool.eq_false_or_eq_true (Nat.beq j 0) with e | e
    · have := Nat.eq_of_beq_eq_true e; omega
    · exact e
  rw [hj, Bool.false_or] at h
  simp only [Bool.and_eq_true, Bool.or_eq_true, Bool.not_eq_true'] at h
  obtain ⟨⟨a1, a2, a3, a4⟩, ⟨b1, b2⟩, ⟨c1, c2, c3⟩, d, e⟩ := h
  refine ⟨?_, ?_, ?_, Nat.eq_of_beq_eq_true a4, Nat.eq_of_beq_eq_true b1, Nat.eq_of_beq_eq_true b2, fun h => ?_, Nat.eq_of_beq_eq_true c2, Nat.eq_of_beq_eq_true c3, ?_, Nat.eq_of_beq_eq_true e⟩
  · simpa using a1
  · simpa using a2
  · simpa using a3
  · rw [show (y + y) % cP i = 0 from h] at c1
    exact absurd c1 (by decide)
  · exact d.imp Nat.eq_of_beq_eq_true Nat.eq_of_beq_eq_true
theorem pt_zero (i : Nat) : ptOf i 0 = (0, 0, true) := rfl
theorem pt_pos (i : Nat) {j : Nat} (h : 1 ≤ j) : ptOf i j = (((tabOf i).getD j (0, 0)).1, ((tabOf i).getD j (0, 0)).2, false) := by
  unfold ptOf
  rw [if_neg (by omega)]
/-- Of two points by their places. -/
theorem tri_get {p n s : Nat} {T : List (Nat × Nat)} (h : triN p n (T.drop s) ((T ++ T).drop (2 * s)) = true) {a b : Nat} (hs : s ≤ a) (hn : a - s < n) (hab : a < b) (hb : b < T.length) :
    pairOK p (T.getD a (0, 0)).1 (T.getD a (0, 0)).2 (T.getD b (0, 0)) (T.getD ((a + b) % T.length) (0, 0)) = true := by
  have ga : ∀ j, j < T.length → T[j]? = some (T.getD j (0, 0)) := fun j hj => by
    rw [List.getD_eq_getElem?_getD, List.getElem?_eq_getElem hj]; rfl
  refine triN_spec n _ _ h (a - s) (b - a - 1) _ _ _ hn ?_ ?_ ?_
  · rw [List.getElem?_drop, show s + (a - s) = a by omega]
    exact ga a (by omega)
  · rw [List.getElem?_drop, show s + (a - s + 1 + (b - a - 1)) = b by omega]
    exact ga b hb
  · rw [List.getElem?_drop, show 2 * s + (2 * (a - s) + 1 + (b - a - 1)) = a + b by omega]
    rcases Nat.lt_or_ge (a + b) T.length with g | g
    · rw [List.getElem?_append_left g, Nat.mod_eq_of_lt g]
      exact ga _ g
    · rw [List.getElem?_append_right g, ← Nat.add_sub_cancel (a + b) T.length, Nat.sub_add_comm g, Nat.add_sub_cancel, Nat.add_mod_right, Nat.mod_eq_of_lt (by omega)]
      exact ga _ (by omega)
theorem pair_of {i a b : Nat} (hi : i < 8) (ha : 1 ≤ a) (hab : a < b) (hb : b < cN i) : pairOK (cP i) ((tabOf i).getD a (0, 0)).1 ((tabOf i).getD a (0, 0)).2 ((tabOf i).getD b (0, 0)) ((tabOf i).getD ((a + b) % cN i) (0, 0)) = true := by
  have hl := len_of hi
  rw [← hl] at hb ⊢
  match i, hi with
  | 0, _ => exact tri_get (s := 1) tri0 ha (by have : (tabOf 0).length = 31 := hl; omega) hab hb
  | 1, _ => exact tri_get (s := 1) tri1 ha (by have : (tabOf 1).length = 73 := hl; omega) hab hb
  | 2, _ => exact tri_get (s := 1) tri2 ha (by have : (tabOf 2).length = 67 := hl; omega) hab hb
  | 3, _ => exact tri_get (s := 1) tri3 ha (by have : (tabOf 3).length = 163 := hl; omega) hab hb
  | 4, _ => exact tri_get (s := 1) tri4 ha (by have : (tabOf 4).length = 181 := hl; omega) hab hb
  | 5, _ => exact tri_get (s := 1) tri5 ha (by have : (tabOf 5).length = 199 := hl; omega) hab hb
  | 6, _ => exact tri_get (s := 1) tri6 ha (by have : (tabOf 6).length = 409 := hl; omega) hab hb
  | 7, _ =>
    have hlen : (tabOf 7).length = 643 := hl
    rcases Nat.lt_or_ge a 111 with g | g
    · exact tri_get (s := 1) tri7a ha (by omega) hab hb
    · rcases Nat.lt_or_ge a 251 with g' | g'
      · exact tri_get (s := 111) tri7b g (by omega) hab hb
      · exact tri_get (s := 251) tri7c g' (by omega) hab hb
  | k + 8, h => omega
end Go.Proofs.YtbfcccoeekonlaaGreatDoor
end

section
/-
  Small curves: their points by number; lifting: reckoned by the kernel. (Laid by program.)
-/
namespace Go.Proofs.YtbfcccoeekonlaaGreatDoor
open Go.Sx
set_option maxRecDepth 100000
def ixP (p : Nat) : Nat := if p = 43 then 0 else if p = 67 then 1 else if p = 79 then 2 else if p = 139 then 3 else if p = 163 then 4 else if p = 211 then 5 else if p = 379 then 6 else 7
structure isCv (i P A B N X Y : Nat) (F : Bool) : Prop where
  lt : i < 8
  p : P % M256 = cP i
  a : A % M256 = 0
  b : B % M256 = cB i
  n : N % M256 = cN i
  x : X % M256 = cX i
  y : Y % M256 = cY i
  f : F = false
def pointC : List (List At) → List Prop
  | [[.u P, .u A, .u B, .u N, .u X, .u Y, .b F], [.i n]] => [isCv (ixP (P % M256)) P A B N X Y F, i64ok n]
  | _ => [False]
def secretG : List (List At) → SV
  | [[.u P, .u _, .u _, .u _, .u _, .u _, .b _], [.i n]] => .one (sU (1 + (n % ((cN (ixP (P % M256)) : Int) - 1)).toNat))
  | _ => .tup []
def liftY (m A B x : Nat) (odd : Bool) : Nat := if ((rhsN m A B x ^ (m / 4 + 1) % m % 2 == 1) != odd) = true then (0 + m - rhsN m A B x ^ (m / 4 + 1) % m) % m else rhsN m A B x ^ (m / 4 + 1) % m
structure liftOK (m A B x : Nat) (odd : Bool) : Prop where
  par : (liftY m A B x odd % 2 == 1) = odd
  on : liftY m A B x odd * liftY m A B x odd % m = rhsN m A B x
def cAddS' : FSpec := specA [.str pCv, .str pPt, .str pPt] cAddC cAddG
def cMultS' : FSpec := specA [.str pCv, .str [.u], .str pPt] cMultC cMultG
def cOnS' : FSpec := specA [.str pCv, .str pPt] cOnC cOnG
def cSecret : FSpec := specA [.str pCv, .int .i64] pointC secretG
def cPick : FSpec := specII (fun a b => [i64ok a, 0 < b ∧ b ≤ 1048576]) pickedG
def cxSecret : Cx := [(19, cPick)]
-- VC vc_Secret HASH 1acfeeece20cd363
theorem vc_Secret (P A B N X Y : Nat) (F : Bool) (n : Int) :
    Owes Tryz.prog cxSecret [] 100 Tryz.f7 [sCv P A B N X Y F, sI .i64 n] (secretG [[.u P, .u A, .u B, .u N, .u X, .u Y, .b F], [.i n]]) =
    (let x1 : Int := Go.IntKind.i64.wrap (Go.IntKind.i64.wrap (Go.Sx.limb N (0 : Nat)) - (1 : Int)); let x2 : Int := Go.IntKind.u64.wrap ((1 : Int) + Go.IntKind.u64.wrap (n % x1)); ((-9223372036854775808 : Int) ≤ n ∧ n ≤ (9223372036854775807 : Int)) ∧ ((0 : Int) < x1 ∧ x1 ≤ (1048576 : Int)) ∧ ((0 : Int) ≤ x2 ∧ x2 < (18446744073709551616 : Int)) ∧ ((0 : Int) ≤ (0 : Int) ∧ (0 : Int) < (18446744073709551616 : Int)) ∧ ((0 : Int) ≤ (0 : Int) ∧ (0 : Int) < (18446744073709551616 : Int)) ∧ ((0 : Int) ≤ (0 : Int) ∧ (0 : Int) < (18446744073709551616 : Int)) ∧ Go.Sx.join x2 (0 : Int) (0 : Int) (0 : Int) % Go.Sx.M256 = ((1 : Nat) + (n % ((↑(cN (ixP (P % Go.Sx.M256))) : Int) - (1 : Int))).toNat) % Go.Sx.M256 ∧ True) := by kernel_rfl
-- END VC
end Go.Proofs.YtbfcccoeekonlaaGreatDoor
end

section
/-
  Package sign: its steps: reckoned by the kernel. (Laid by program.)
-/
namespace Go.Proofs.YtbfcccoeekonlaaGreatDoor
open Go.Sx
set_option maxRecDepth 100000
abbrev pSg : List PK := [.u, .u, .i]
abbrev sSg (R S : Nat) (o : Int) : SA := .agg [.u R, .u S, .c (.val (.int .i64 o))]
def secB (n d : Nat) : Bool := !(d % M256 == 0) && decide (d % M256 < n % M256)
def secG (n d : Nat) : SV := .one (sB (secB n d))
def restN (n a : Nat) : Nat := if n % M256 = 0 then 0 else a % M256 % (n % M256)
def oRestG (n a : Nat) : SV := .one (sU (restN n a))
def minN (n a : Nat) : Nat := if fE 0 a n = 0 then (0 + n % M256 - a % M256) % (n % M256) else 0
def minG (n a : Nat) : SV := .one (sU (minN n a))
def mulN (n a b : Nat) : Nat := if fE a b n = 0 then a % M256 * (b % M256) % (n % M256) else 0
def oMulG (n a b : Nat) : SV := .one (sU (mulN n a b))
def ofSumC : List (List At) → List Prop
  | [[.u _], [.y 32 g]] => [byteOK 32 g]
  | _ => [False]
def ofSumG : List (List At) → SV
  | [[.u n], [.y 32 g]] => .one (sU (restN n (fromN g 32)))
  | _ => .tup []
def oinvN (n a : Nat) : Nat := if finvE a n = 0 then invN (a % M256) (n % M256) else 0
def oinvE (n a : Nat) : Int := if finvE a n = 0 then 0 else 16
def oinvG (n a : Nat) : SV := .tup [sU (oinvN n a), sI .i64 (oinvE n a)]
def highB (n s : Nat) : Bool := decide (minN n s % M256 < s % M256)
def oHighG (n s : Nat) : SV := .one (sB (highB n s))
def mayB (n R S : Nat) (o : Int) : Bool := secB n R && secB n S && !highB n S && decide (0 ≤ o) && decide (o ≤ 3)
def mayC : List (List At) → List Prop
  | [[.u _], [.u _, .u _, .i _]] => []
  | _ => [False]
def mayG' : List (List At) → SV
  | [[.u n], [.u R, .u S, .i o]] => .one (sB (mayB n R S o))
  | _ => .tup []
def ckC : List (List At) → List Prop
  | [[.u P, .u A, .u B, .u N, .u X, .u Y, .b F]] => [goodP (P % M256) (A % M256) (B % M256) (N % M256) (red X Y F)]
  | _ => [False]
def ckG : List (List At) → SV
  | [[.u _, .u _, .u _, .u _, .u _, .u _, .b _]] => .one (sI .i64 0)
  | _ => .tup []
def lookC : List (List At) → List Prop
  | [[.u P, .u A, .u B, .u N, .u X, .u Y, .b F], [.u _]] => [goodP (P % M256) (A % M256) (B % M256) (N % M256) (red X Y F)]
  | _ => [False]
def lookG : List (List At) → SV
  | [[.u _, .u _, .u _, .u N, .u _, .u _, .b _], [.u d]] => .one (sI .i64 (if secB N d = true then 0 else 6))
  | _ => .tup []
def pntC : List (List At) → List Prop
  | [[.u P, .u A, .u B, .u N, .u X, .u Y, .b F], [.u d]] => [goodP (P % M256) (A % M256) (B % M256) (N % M256) (red X Y F), secB N d = true, mulOK (P % M256) (A % M256) (d % M256) (red X Y F)]
  | _ => [False]
def pntG : List (List At) → SV
  | [[.u P, .u A, .u _, .u _, .u X, .u Y, .b F], [.u d]] => .tup [ptS (cmulR (P % M256) (A % M256) (d % M256) (red X Y F) 256), sI .i64 0]
  | _ => .tup []
structure bothOK (P A B N : Nat) (b : Pt) (k : Nat) (p : Pt) (l : Nat) : Prop where
  g : goodP P A B N b
  p0 : onP P A B p
  m1 : mulOK P A k b
  m2 : mulOK P A l p
  i1 : inM (cmulR P A k b 256) ∧ onP P A B (cmulR P A k b 256)
  i2 : inM (cmulR P A l p 256) ∧ onP P A B (cmulR P A l p 256)
  s : sumOK P A (cmulR P A k b 256) (cmulR P A l p 256)
def bothC : List (List At) → List Prop
  | [[.u P, .u A, .u B, .u N, .u X, .u Y, .b F], [.u k], [.u x, .u y, .b f], [.u l]] => [bothOK (P % M256) (A % M256) (B % M256) (N % M256) (red X Y F) (k % M256) (red x y f) (l % M256)]
  | _ => [False]
def bothP (P A : Nat) (b : Pt) (k : Nat) (p : Pt) (l : Nat) : Pt := csum P A (cmulR P A k b 256) (cmulR P A l p 256)
def bothG : List (List At) → SV
  | [[.u P, .u A, .u _, .u _, .u X, .u Y, .b F], [.u k], [.u x, .u y, .b f], [.u l]] => .tup [ptS (bothP (P % M256) (A % M256) (red X Y F) (k % M256) (red x y f) (l % M256)), sI .i64 0]
  | _ => .tup []
def liftB (m A B x : Nat) (odd : Bool) : Bool := ((liftY m A B x odd % 2 == 1) == odd) && (liftY m A B x odd * liftY m A B x odd % m == rhsN m A B x)
def liftE (m A B x : Nat) (odd : Bool) : Int := if m ≤ x then 6 else if liftB m A B x odd = true then 0 else 16
def lift2C : List (List At) → List Prop
  | [[.u P, .u A, .u B, .u N, .u X, .u Y, .b F], [.u _], [.b _]] => [goodP (P % M256) (A % M256) (B % M256) (N % M256) (red X Y F)]
  | _ => [False]
def lift2G : List (List At) → SV
  | [[.u P, .u A, .u B, .u _, .u _, .u _, .b _], [.u x], [.b odd]] => .tup [.agg [.u (if liftE (P % M256) (A % M256) (B % M256) (x % M256) odd = 0 then x % M256 else 0), .u (if liftE (P % M256) (A % M256) (B % M256) (x % M256) odd = 0 then liftY (P % M256) (A % M256) (B % M256) (x % M256) odd else 0), .c (.val (.bool false))], sI .i64 (liftE (P % M256) (A % M256) (B % M256) (x % M256) odd)]
  | _ => .tup []
def pofX (N R : Nat) (o : Int) : Nat := if 2 ≤ o then R + N else R
def pofO (N R : Nat) (o : Int) : Bool := decide (2 ≤ o) && decide (M256 ≤ R % M256 + N % M256)
def pofE (P A B N R : Nat) (o : Int) : Int := if pofO N R o = true then 10 else if liftE P A B (pofX N R o % M256) (o.tmod 2 == 1) = 0 then 0 else 10
def pofP (P A B N R : Nat) (o : Int) : Pt := (if pofE P A B N R o = 0 then pofX N R o % M256 else 0, if pofE P A B N R o = 0 then liftY P A B (pofX N R o % M256) (o.tmod 2 == 1) else 0, false)
def pofG : List (List At) → SV
  | [[.u P, .u A, .u B, .u N, .u _, .u _, .b _], [.u R, .u _, .i o]] => .tup [ptS (pofP (P % M256) (A % M256) (B % M256) N R o), sI .i64 (pofE (P % M256) (A % M256) (B % M256) N R o)]
  | _ => .tup []
def pofC : List (List At) → List Prop
  | [[.u P, .u A, .u B, .u N, .u X, .u Y, .b F], [.u _, .u _, .i _]] => [goodP (P % M256) (A % M256) (B % M256) (N % M256) (red X Y F)]
  | _ => [False]
def cOfSum : FSpec := specA [.str [.u], .str [.y 32]] ofSumC ofSumG
def cMay : FSpec := specA [.str [.u], .str pSg] mayC mayG'
def cCk : FSpec := specA [.str pCv] ckC ckG
def cLook : FSpec := specA [.str pCv, .str [.u]] lookC lookG
def cPnt : FSpec := specA [.str pCv, .str [.u]] pntC pntG
def cBoth : FSpec := specA [.str pCv, .str [.u], .str pPt, .str [.u]] bothC bothG
def cLift2 : FSpec := specA [.str pCv, .str [.u], .bit] lift2C lift2G
def cPof : FSpec := specA [.str pCv, .str pSg] pofC pofG
def cxSec : Cx := [(15, specUU cmpG)]
def cxORest : Cx := [(16, specUU dmG)]
def cxOMin : Cx := [(54, specUUU noC fsubG)]
def cxOMul : Cx := [(55, specUUU noC fmulG)]
def cxOfSum : Cx := [(17, specB fromG), (22, specUU oRestG)]
def cxOInv : Cx := [(52, specUU finvG)]
def cxHigh : Cx := [(31, specUU minG), (15, specUU cmpG)]
def cxMay : Cx := [(37, specUU secG), (49, specUU oHighG)]
def cxCk : Cx := [(38, cBe)]
def cxLook : Cx := [(26, cCk), (37, specUU secG)]
def cxPnt : Cx := [(20, cLook), (21, cMultS')]
def cxBoth : Cx := [(21, cMultS'), (53, cAddS')]
def cxLift2 : Cx := [(38, cBe), (64, cRight), (74, cRoot), (67, cHsub), (63, cHmul), (75, specU oddG), (15, specUU cmpG)]
def cxPof : Cx := [(50, specUU addG), (51, cLift2)]
-- VC vc_isSecret HASH 1e57fcc54e94d1cc
theorem vc_isSecret (n d : Nat) :
    Owes Tryz.prog cxSec [] 100 Tryz.f37 [sU n, sU d] (secG n d) =
    (let x1 : Bool := !Go.Sx.conj [d % Go.Sx.M256 == (0 : Nat)]; (x1 = Bool.true → x1 = Bool.true) ∧ (x1 = Bool.true → x1 = Bool.true) ∧ (x1 = Bool.true → x1 = Bool.true) ∧ (x1 = Bool.true → x1 = Bool.true) ∧ (x1 && Decidable.decide (Go.Sx.cmpN d n < (0 : Int))) = secB n d) := by kernel_rfl
-- END VC
-- VC vc_oRest HASH da3fcd6dea9404a9
theorem vc_oRest (n a : Nat) :
    Owes Tryz.prog cxORest [] 100 Tryz.f22 [sU n, sU a] (oRestG n a) =
    (let x1 : Nat := n % Go.Sx.M256; (if x1 = (0 : Nat) then (0 : Nat) else a % Go.Sx.M256 % x1) % Go.Sx.M256 = restN n a % Go.Sx.M256 ∧ True) := by kernel_rfl
-- END VC
-- VC vc_oMinus HASH 4d32a97795274917
theorem vc_oMinus (n a : Nat) :
    Owes Tryz.prog cxOMin [] 100 Tryz.f31 [sU n, sU a] (minG n a) =
    (let x1 : Nat := n % Go.Sx.M256; (if fE (0 : Nat) a n = (0 : Int) then ((0 : Nat) + x1 - a % Go.Sx.M256) % x1 else (0 : Nat)) % Go.Sx.M256 = minN n a % Go.Sx.M256 ∧ True) := by kernel_rfl
-- END VC
-- VC vc_oMul HASH c0f6d21179140f3b
theorem vc_oMul (n a b : Nat) :
    Owes Tryz.prog cxOMul [] 100 Tryz.f32 [sU n, sU a, sU b] (oMulG n a b) =
    ((if fE a b n = (0 : Int) then a % Go.Sx.M256 * (b % Go.Sx.M256) % (n % Go.Sx.M256) else (0 : Nat)) % Go.Sx.M256 = mulN n a b % Go.Sx.M256 ∧ True) := by kernel_rfl
-- END VC
-- VC vc_ofSum HASH 080ab2cbddfb0053
theorem vc_ofSum (n : Nat) (g : Nat → Int) :
    Owes Tryz.prog cxOfSum [] 100 Tryz.f33 [sU n, sBy 32 g] (ofSumG [[.u n], [.y 32 g]]) =
    (let x1 : Nat := restN n (Go.Sx.fromN g (32 : Nat)) % Go.Sx.M256; (∀ (j : Nat), j < (32 : Nat) → (0 : Int) ≤ g j ∧ g j < (256 : Int)) ∧ x1 = x1 ∧ True) := by kernel_rfl
-- END VC
-- VC vc_oInv HASH 5514f20ba2a48783
theorem vc_oInv (n a : Nat) :
    Owes Tryz.prog cxOInv [] 100 Tryz.f29 [sU n, sU a] (oinvG n a) =
    (let x1 : Nat := oinvN n a % Go.Sx.M256; ((finvE a n != (0 : Int)) = Bool.true → ((0 : Nat) = x1 ∧ True) ∧ (16 : Int) = oinvE n a) ∧ ((finvE a n != (0 : Int)) = Bool.false → ((if finvE a n = (0 : Int) then invN (a % Go.Sx.M256) (n % Go.Sx.M256) else (0 : Nat)) % Go.Sx.M256 = x1 ∧ True) ∧ (0 : Int) = oinvE n a)) := by kernel_rfl
-- END VC
-- VC vc_oHigh HASH 9695e55b83d0bd40
theorem vc_oHigh (n s : Nat) :
    Owes Tryz.prog cxHigh [] 100 Tryz.f49 [sU n, sU s] (oHighG n s) =
    (Decidable.decide (Go.Sx.cmpN s (minN n s) > (0 : Int)) = highB n s) := by kernel_rfl
-- END VC
-- VC vc_mayBe HASH 788ec7e561135874
theorem vc_mayBe (n R S : Nat) (o : Int) :
    Owes Tryz.prog cxMay [] 100 Tryz.f27 [sU n, sSg R S o] (mayG' [[.u n], [.u R, .u S, .i o]]) =
    (let x1 : Bool := secB n R && secB n S && !highB n S; let x2 : Bool := x1 && Decidable.decide (o ≥ (0 : Int)); (secB n R = Bool.true → secB n R = Bool.true) ∧ (secB n R = Bool.true → secB n R = Bool.true) ∧ (secB n R = Bool.true → secB n R = Bool.true) ∧ (secB n R = Bool.true → secB n R = Bool.true) ∧ ((secB n R && secB n S) = Bool.true → (secB n R && secB n S) = Bool.true) ∧ ((secB n R && secB n S) = Bool.true → (secB n R && secB n S) = Bool.true) ∧ ((secB n R && secB n S) = Bool.true → (secB n R && secB n S) = Bool.true) ∧ ((secB n R && secB n S) = Bool.true → (secB n R && secB n S) = Bool.true) ∧ ((secB n R && secB n S) = Bool.true → (secB n R && secB n S) = Bool.true) ∧ (x1 = Bool.true → x1 = Bool.true) ∧ (x1 = Bool.true → x1 = Bool.true) ∧ (x1 = Bool.true → x1 = Bool.true) ∧ (x2 = Bool.true → x2 = Bool.true) ∧ (x2 = Bool.true → x2 = Bool.true) ∧ (x2 = Bool.true → x2 = Bool.true) ∧ (x2 && Decidable.decide (o ≤ (3 : Int))) = mayB n R S o) := by kernel_rfl
-- END VC
-- VC vc_cCheck HASH 79ac32e5cb22b9c9
theorem vc_cCheck (P A B N X Y : Nat) (F : Bool) :
    Owes Tryz.prog cxCk [] 100 Tryz.f26 [sCv P A B N X Y F] (ckG [[.u P, .u A, .u B, .u N, .u X, .u Y, .b F]]) =
    (let x1 : Nat := P % Go.Sx.M256; x1 = x1 ∧ goodP x1 (A % Go.Sx.M256) (B % Go.Sx.M256) (N % Go.Sx.M256) (red X Y F) ∧ (0 : Int) = (0 : Int)) := by kernel_rfl
-- END VC
-- VC vc_look HASH 99d25d180b74101b
theorem vc_look (P A B N X Y d : Nat) (F : Bool) :
    Owes Tryz.prog cxLook [] 100 Tryz.f20 [sCv P A B N X Y F, sU d] (lookG [[.u P, .u A, .u B, .u N, .u X, .u Y, .b F], [.u d]]) =
    (let x1 : Int := if secB N d = Bool.true then (0 : Int) else (6 : Int); goodP (P % Go.Sx.M256) (A % Go.Sx.M256) (B % Go.Sx.M256) (N % Go.Sx.M256) (red X Y F) ∧ (((0 : Int) != (0 : Int)) = Bool.true → (0 : Int) = x1) ∧ (((0 : Int) != (0 : Int)) = Bool.false → ((!secB N d) = Bool.true → (6 : Int) = x1) ∧ ((!secB N d) = Bool.false → (0 : Int) = x1))) := by kernel_rfl
-- END VC
-- VC vc_sPoint HASH 7ec7dda309d8ed4d
theorem vc_sPoint (P A B N X Y d : Nat) (F : Bool) :
    Owes Tryz.prog cxPnt [] 100 Tryz.f8 [sCv P A B N X Y F, sU d] (pntG [[.u P, .u A, .u B, .u N, .u X, .u Y, .b F], [.u d]]) =
    (let x1 : Nat := P % Go.Sx.M256; let x2 : Nat := A % Go.Sx.M256; let x3 : Nat := B % Go.Sx.M256; let x4 : Int := if secB N d = Bool.true then (0 : Int) else (6 : Int); let x5 : Nat := d % Go.Sx.M256; let x6 : Nat := (cmulR x1 x2 x5 (red X Y F) (256 : Nat)).fst % Go.Sx.M256; let x7 : Nat := (cmulR x1 x2 x5 (red X Y F) (256 : Nat)).snd.fst % Go.Sx.M256; let x8 : Bool := (cmulR x1 x2 x5 (red X Y F) (256 : Nat)).snd.snd; goodP x1 x2 x3 (N % Go.Sx.M256) (red X Y F) ∧ ((x4 != (0 : Int)) = Bool.true → ((0 : Nat) = x6 ∧ (0 : Nat) = x7 ∧ Bool.false = x8 ∧ True) ∧ x4 = (0 : Int)) ∧ ((x4 != (0 : Int)) = Bool.false → goodP x1 x2 x3 (N % Go.Sx.M256) (red X Y F) ∧ onP x1 x2 x3 (red X Y F) ∧ mulOK x1 x2 x5 (red X Y F) ∧ (x6 = x6 ∧ x7 = x7 ∧ x8 = x8 ∧ True) ∧ (0 : Int) = (0 : Int))) := by kernel_rfl
-- END VC
-- VC vc_both HASH 5655bcdc0180e785
theorem vc_both (P A B N X Y k x y l : Nat) (F f : Bool) :
    Owes Tryz.prog cxBoth [] 100 Tryz.f30 [sCv P A B N X Y F, sU k, sPt x y f, sU l] (bothG [[.u P, .u A, .u B, .u N, .u X, .u Y, .b F], [.u k], [.u x, .u y, .b f], [.u l]]) =
    (let x1 : Nat := P % Go.Sx.M256; let x2 : Nat := A % Go.Sx.M256; let x3 : Nat := B % Go.Sx.M256; let x4 : Nat := k % Go.Sx.M256; let x5 : Nat := l % Go.Sx.M256; goodP x1 x2 x3 (N % Go.Sx.M256) (red X Y F) ∧ onP x1 x2 x3 (red X Y F) ∧ mulOK x1 x2 x4 (red X Y F) ∧ goodP x1 x2 x3 (N % Go.Sx.M256) (red X Y F) ∧ onP x1 x2 x3 (red x y f) ∧ mulOK x1 x2 x5 (red x y f) ∧ goodP x1 x2 x3 (N % Go.Sx.M256) (red X Y F) ∧ onP x1 x2 x3 (red (cmulR x1 x2 x4 (red X Y F) (256 : Nat)).fst (cmulR x1 x2 x4 (red X Y F) (256 : Nat)).snd.fst (cmulR x1 x2 x4 (red X Y F) (256 : Nat)).snd.snd) ∧ onP x1 x2 x3 (red (cmulR x1 x2 x5 (red x y f) (256 : Nat)).fst (cmulR x1 x2 x5 (red x y f) (256 : Nat)).snd.fst (cmulR x1 x2 x5 (red x y f) (256 : Nat)).snd.snd) ∧ sumOK x1 x2 (red (cmulR x1 x2 x4 (red X Y F) (256 : Nat)).fst (cmulR x1 x2 x4 (red X Y F) (256 : Nat)).snd.fst (cmulR x1 x2 x4 (red X Y F) (256 : Nat)).snd.snd) (red (cmulR x1 x2 x5 (red x y f) (256 : Nat)).fst (cmulR x1 x2 x5 (red x y f) (256 : Nat)).snd.fst (cmulR x1 x2 x5 (red x y f) (256 : Nat)).snd.snd) ∧ ((csum x1 x2 (red (cmulR x1 x2 x4 (red X Y F) (256 : Nat)).fst (cmulR x1 x2 x4 (red X Y F) (256 : Nat)).snd.fst (cmulR x1 x2 x4 (red X Y F) (256 : Nat)).snd.snd) (red (cmulR x1 x2 x5 (red x y f) (256 : Nat)).fst (cmulR x1 x2 x5 (red x y f) (256 : Nat)).snd.fst (cmulR x1 x2 x5 (red x y f) (256 : Nat)).snd.snd)).fst % Go.Sx.M256 = (bothP x1 x2 (red X Y F) x4 (red x y f) x5).fst % Go.Sx.M256 ∧ (csum x1 x2 (red (cmulR x1 x2 x4 (red X Y F) (256 : Nat)).fst (cmulR x1 x2 x4 (red X Y F) (256 : Nat)).snd.fst (cmulR x1 x2 x4 (red X Y F) (256 : Nat)).snd.snd) (red (cmulR x1 x2 x5 (red x y f) (256 : Nat)).fst (cmulR x1 x2 x5 (red x y f) (256 : Nat)).snd.fst (cmulR x1 x2 x5 (red x y f) (256 : Nat)).snd.snd)).snd.fst % Go.Sx.M256 = (bothP x1 x2 (red X Y F) x4 (red x y f) x5).snd.fst % Go.Sx.M256 ∧ (csum x1 x2 (red (cmulR x1 x2 x4 (red X Y F) (256 : Nat)).fst (cmulR x1 x2 x4 (red X Y F) (256 : Nat)).snd.fst (cmulR x1 x2 x4 (red X Y F) (256 : Nat)).snd.snd) (red (cmulR x1 x2 x5 (red x y f) (256 : Nat)).fst (cmulR x1 x2 x5 (red x y f) (256 : Nat)).snd.fst (cmulR x1 x2 x5 (red x y f) (256 : Nat)).snd.snd)).snd.snd = (bothP x1 x2 (red X Y F) x4 (red x y f) x5).snd.snd ∧ True) ∧ (0 : Int) = (0 : Int)) := by kernel_rfl
-- END VC
-- VC vc_Lift2 HASH 1143ae14f793cd81
theorem vc_Lift2 (P A B N X Y x : Nat) (F odd : Bool) :
    Owes Tryz.prog cxLift2 [] 100 Tryz.f51 [sCv P A B N X Y F, sU x, sB odd] (lift2G [[.u P, .u A, .u B, .u N, .u X, .u Y, .b F], [.u x], [.b odd]]) =
    (let x1 : Nat := P % Go.Sx.M256; let x2 : Nat := A % Go.Sx.M256; let x3 : Nat := B % Go.Sx.M256; let x4 : Nat := x % Go.Sx.M256; let x5 : Int := liftE x1 x2 x3 x4 odd; let x6 : Nat := (if x5 = (0 : Int) then x4 else (0 : Nat)) % Go.Sx.M256; let x7 : Nat := (if x5 = (0 : Int) then liftY x1 x2 x3 x4 odd else (0 : Nat)) % Go.Sx.M256; let x8 : Nat := rhsN x1 x2 x3 x4 % Go.Sx.M256; let x9 : Nat := x8 ^ (x1 / (4 : Nat) + (1 : Nat)) % x1 % Go.Sx.M256; let x10 : Nat := ((0 : Nat) + x1 - x9) % x1 % Go.Sx.M256; x1 = x1 ∧ goodP x1 x2 x3 (N % Go.Sx.M256) (red X Y F) ∧ (Decidable.decide (Go.Sx.cmpN x P ≥ (0 : Int)) = Bool.true → ((0 : Nat) = x6 ∧ (0 : Nat) = x7 ∧ Bool.false = Bool.false ∧ True) ∧ (6 : Int) = x5) ∧ (Decidable.decide (Go.Sx.cmpN x P ≥ (0 : Int)) = Bool.false → x2 < x1 ∧ x3 < x1 ∧ x4 < x1 ∧ x8 < x1 ∧ ((!(x9 % (2 : Nat) == (1 : Nat)) == odd) = Bool.true → (0 : Nat) < x1 ∧ x9 < x1 ∧ ((!(x10 % (2 : Nat) == (1 : Nat)) == odd) = Bool.true → x10 < x1 ∧ x10 < x1 ∧ x2 < x1 ∧ x3 < x1 ∧ x4 < x1 ∧ ((!Go.Sx.conj [x10 * x10 % x1 % Go.Sx.M256 == x8]) = Bool.true → ((0 : Nat) = x6 ∧ (0 : Nat) = x7 ∧ Bool.false = Bool.false ∧ True) ∧ (16 : Int) = x5) ∧ ((!Go.Sx.conj [x10 * x10 % x1 % Go.Sx.M256 == x8]) = Bool.false → ((0 : Nat) = x6 ∧ (0 : Nat) = x7 ∧ Bool.false = Bool.false ∧ True) ∧ (16 : Int) = x5)) ∧ ((!(x10 % (2 : Nat) == (1 : Nat)) == odd) = Bool.false → x10 < x1 ∧ x10 < x1 ∧ x2 < x1 ∧ x3 < x1 ∧ x4 < x1 ∧ ((!Go.Sx.conj [x10 * x10 % x1 % Go.Sx.M256 == x8]) = Bool.true → ((0 : Nat) = x6 ∧ (0 : Nat) = x7 ∧ Bool.false = Bool.false ∧ True) ∧ (16 : Int) = x5) ∧ ((!Go.Sx.conj [x10 * x10 % x1 % Go.Sx.M256 == x8]) = Bool.false → (x4 = x6 ∧ x10 = x7 ∧ Bool.false = Bool.false ∧ True) ∧ (0 : Int) = x5))) ∧ ((!(x9 % (2 : Nat) == (1 : Nat)) == odd) = Bool.false → ((!(x9 % (2 : Nat) == (1 : Nat)) == odd) = Bool.true → x9 < x1 ∧ x9 < x1 ∧ x2 < x1 ∧ x3 < x1 ∧ x4 < x1 ∧ ((!Go.Sx.conj [x9 * x9 % x1 % Go.Sx.M256 == x8]) = Bool.true → ((0 : Nat) = x6 ∧ (0 : Nat) = x7 ∧ Bool.false = Bool.false ∧ True) ∧ (16 : Int) = x5) ∧ ((!Go.Sx.conj [x9 * x9 % x1 % Go.Sx.M256 == x8]) = Bool.false → ((0 : Nat) = x6 ∧ (0 : Nat) = x7 ∧ Bool.false = Bool.false ∧ True) ∧ (16 : Int) = x5)) ∧ ((!(x9 % (2 : Nat) == (1 : Nat)) == odd) = Bool.false → x9 < x1 ∧ x9 < x1 ∧ x2 < x1 ∧ x3 < x1 ∧ x4 < x1 ∧ ((!Go.Sx.conj [x9 * x9 % x1 % Go.Sx.M256 == x8]) = Bool.true → ((0 : Nat) = x6 ∧ (0 : Nat) = x7 ∧ Bool.false = Bool.false ∧ True) ∧ (16 : Int) = x5) ∧ ((!Go.Sx.conj [x9 * x9 % x1 % Go.Sx.M256 == x8]) = Bool.false → (x4 = x6 ∧ x9 = x7 ∧ Bool.false = Bool.false ∧ True) ∧ (0 : Int) = x5))))) := by kernel_rfl
-- END VC
-- VC vc_pointOf HASH 398f34e4024587ef
theorem vc_pointOf (P A B N X Y R S : Nat) (F : Bool) (o : Int) :
    Owes Tryz.prog cxPof [] 100 Tryz.f28 [sCv P A B N X Y F, sSg R S o] (pofG [[.u P, .u A, .u B, .u N, .u X, .u Y, .b F], [.u R, .u S, .i o]]) =
    (let x1 : Nat := P % Go.Sx.M256; let x2 : Nat := A % Go.Sx.M256; let x3 : Nat := B % Go.Sx.M256; let x4 : Nat := N % Go.Sx.M256; let x5 : Nat := R % Go.Sx.M256; let x6 : Nat := x5 + x4; let x7 : Bool := Decidable.decide (Go.Sx.M256 ≤ x6); let x8 : Nat := (R + N) % Go.Sx.M256; let x9 : Bool := o.tmod (2 : Int) == (1 : Int); let x10 : Int := liftE x1 x2 x3 x8 x9; let x11 : Nat := (pofP x1 x2 x3 N R o).fst % Go.Sx.M256; let x12 : Nat := (pofP x1 x2 x3 N R o).snd.fst % Go.Sx.M256; let x13 : Int := pofE x1 x2 x3 N R o; let x14 : Int := liftE x1 x2 x3 x5 x9; (Decidable.decide (o ≥ (2 : Int)) = Bool.true → goodP x1 x2 x3 x4 (red X Y F) ∧ ((!x7) = Bool.true → (!x7) = Bool.true) ∧ (x7 = Bool.false → (!x7) = Bool.true) ∧ ((x7 || x10 != (0 : Int)) = Bool.true → ((0 : Nat) = x11 ∧ (0 : Nat) = x12 ∧ Bool.false = (pofP x1 x2 x3 N R o).snd.snd ∧ True) ∧ (10 : Int) = x13) ∧ ((x7 || x10 != (0 : Int)) = Bool.false → ((if x10 = (0 : Int) then x8 else (0 : Nat)) % Go.Sx.M256 = x11 ∧ (if x10 = (0 : Int) then liftY x1 x2 x3 x8 x9 else (0 : Nat)) % Go.Sx.M256 = x12 ∧ Bool.false = (pofP x1 x2 x3 N R o).snd.snd ∧ True) ∧ (0 : Int) = x13)) ∧ (Decidable.decide (o ≥ (2 : Int)) = Bool.false → goodP x1 x2 x3 x4 (red X Y F) ∧ ((x14 != (0 : Int)) = Bool.true → ((0 : Nat) = x11 ∧ (0 : Nat) = x12 ∧ Bool.false = (pofP x1 x2 x3 N R o).snd.snd ∧ True) ∧ (10 : Int) = x13) ∧ ((x14 != (0 : Int)) = Bool.false → ((if x14 = (0 : Int) then x5 else (0 : Nat)) % Go.Sx.M256 = x11 ∧ (if x14 = (0 : Int) then liftY x1 x2 x3 x5 x9 else (0 : Nat)) % Go.Sx.M256 = x12 ∧ Bool.false = (pofP x1 x2 x3 N R o).snd.snd ∧ True) ∧ (0 : Int) = x13))) := by kernel_rfl
-- END VC

end Go.Proofs.YtbfcccoeekonlaaGreatDoor
end

section
/-
  The small curves: the sum of two points has the place that is the sum of theirs.
-/
namespace Go.Proofs.YtbfcccoeekonlaaGreatDoor
open Go.Sx

theorem pair_dvd {p x1 y1 : Nat} {q r : Nat × Nat} (h : pairOK p x1 y1 q r = true) (hr : r.2 ≠ 0) (h1 : x1 ≤ p) (h2 : y1 ≤ p) (h3 : r.1 ≤ p) :
    x1 ≠ q.1 ∧ (p : Int) ∣ ((r.1 : Int) + x1 + q.1) * (((q.1 : Int) - x1) * ((q.1 : Int) - x1)) - ((q.2 : Int) - y1) * ((q.2 : Int) - y1) ∧ (p : Int) ∣ ((r.2 : Int) + y1) * ((q.1 : Int) - x1) - ((q.2 : Int) - y1) * ((x1 : Int) - r.1) := by
  obtain ⟨x2, y2⟩ := q
  obtain ⟨x3, y3⟩ := r
  unfold pairOK at h
  have h3' : x3 ≤ p := h3
  have e : Nat.beq y3 0 = false := by
    rcases Bool.eq_false_or_eq_true (Nat.beq y3 0) with e | e
    · exact absurd (Nat.eq_of_beq_eq_true e) hr
    · exact e
  simp only [e, Bool.false_or, Bool.and_eq_true, Bool.not_eq_true'] at h
  obtain ⟨g1, g2, g3⟩ := h
  have cd := Cg.sub (Cg.self p x2) (Cg.self p x1) h1
  have ce := Cg.sub (Cg.self p y2) (Cg.self p y1) h2
  have cz := Cg.sub (Cg.self p x1) (Cg.self p x3) h3'
  refine ⟨fun h => ?_, ?_, ?_⟩
  · have h : x1 = x2 := h
    rw [h, Nat.beq_refl] at g1
    cases g1
  · exact Cg.of_eq (Nat.eq_of_beq_eq_true g2) (((Cg.self p x3).add (Cg.self p x1)).add (Cg.self p x2) |>.mul (cd.mul cd)) (ce.mul ce)
  · exact Cg.of_eq (Nat.eq_of_beq_eq_true g3) (((Cg.self p y3).add (Cg.self p y1)).mul cd) (ce.mul cz)
/-- A line through two points. -/
theorem through_is {p s x1 y1 x2 y2 x3 y3 : Nat} {f g : Bool} {D E u : Int} (hs : Cg p s (E * u)) (hx1 : x1 < p) (hy1 : y1 < p) (hx2 : x2 < p) (hx3 : x3 < p) (hy3 : y3 < p)
    (hu : (p : Int) ∣ D * u - 1) (h1 : (p : Int) ∣ ((x3 : Int) + x1 + x2) * (D * D) - E * E) (h2 : (p : Int) ∣ ((y3 : Int) + y1) * D - E * ((x1 : Int) - x3)) :
    throughN p s (x1, y1, f) (x2, y2, g) = (x3, y3, false) := by
  have h0 := lt_pos hx1
  have cx : Cg p (((s * s % p + p - x1) % p + p - x2) % p) (x3 : Int) := by
    have c := ((((hs.mul hs).md.sub (Cg.self p x1) (by omega)).md.sub (Cg.self p x2) (by omega)).md)
    refine c.to ?_
    have := line_x h1 hu
    rw [show E * u * (E * u) - (x1 : Int) - (x2 : Int) - (x3 : Int) = E * u * (E * u) - ((x3 : Int) + x1 + x2) by omega]
    exact this
  have ex : ((s * s % p + p - x1) % p + p - x2) % p = x3 := cx.eq (Cg.self p x3) (Nat.mod_lt _ h0) hx3
  unfold throughN
  dsimp only
  rw [ex]
  have cy : Cg p ((s * ((x1 + p - x3) % p) % p + p - y1) % p) (y3 : Int) := by
    have c := ((hs.mul ((Cg.self p x1).sub (Cg.self p x3) (by omega)).md).md.sub (Cg.self p y1) (by omega)).md
    refine c.to ?_
    have := line_y h2 hu
    rw [show E * u * ((x1 : Int) - x3) - (y1 : Int) - (y3 : Int) = E * u * ((x1 : Int) - x3) - ((y3 : Int) + y1) by omega]
    exact this
  have ey : (s * ((x1 + p - x3) % p) % p + p - y1) % p = y3 := cy.eq (Cg.self p y3) (Nat.mod_lt _ h0) hy3
  rw [ey]
theorem diff_ne {p x1 x2 : Nat} (h1 : x1 < p) (h2 : x2 < p) (h : x1 ≠ x2) : 1 ≤ (x2 + p - x1) % p ∧ (x2 + p - x1) % p < p := by
  have hlt := Nat.mod_lt (x2 + p - x1) (lt_pos h1)
  refine ⟨?_, hlt⟩
  rcases Nat.eq_zero_or_pos ((x2 + p - x1) % p) with e | e
  · obtain ⟨k, hk⟩ := Nat.dvd_of_mod_eq_zero e
    have : k = 1 := by
      rcases Nat.lt_or_ge k 1 with g | g
      · have : k = 0 := by omega
        subst this; omega
      · rcases Nat.lt_or_ge 1 k with g' | g'
        · have := Nat.mul_le_mul_left p g'
          omega
        · omega
    subst this
    omega
  · exact e
theorem csum_pt {i a b : Nat} (hi : i < 8) (ha : a < cN i) (hb : b < cN i) : sumOK (cP i) 0 (ptOf i a) (ptOf i b) ∧ csum (cP i) 0 (ptOf i a) (ptOf i b) = ptOf i ((a + b) % cN i) := by
  obtain ⟨r1, r2⟩ := cP_range hi
  have inp : ∀ j, j < cN i → inP (cP i) (ptOf i j) := by
    intro j hj
    refine ⟨fun h => ?_⟩
    rcases Nat.eq_zero_or_pos j with e | e
    · subst e; cases h
    · rw [pt_pos i e]
      have F := one_of hi e hj
      exact ⟨F.lx, F.ly⟩
  have odd : cN i % 2 = 1 := by
    have : ∀ i : Fin 8, cN i.val % 2 = 1 := by decide
    exact this ⟨i, hi⟩
  have ia := inp a ha
  have ib := inp b hb
  rcases Nat.eq_zero_or_pos a with e | ea
  · subst e
    refine ⟨⟨by omega, ia, ib, fun h => by cases h⟩, ?_⟩
    rw [Nat.zero_add, Nat.mod_eq_of_lt hb]
    rfl
  rcases Nat.eq_zero_or_pos b with e | eb
  · subst e
    refine ⟨⟨by omega, ia, ib, fun _ h => by cases h⟩, ?_⟩
    rw [Nat.add_zero, Nat.mod_eq_of_lt ha, pt_pos i ea]
    rfl
  have Fa := one_of hi ea ha
  have Fb := one_of hi eb hb
  by_cases hab : a + b = cN i
  · have eb' : cN i - a = b := by omega
    have nx := Fa.nx
    have ny := Fa.ny
    rw [eb'] at nx ny
    have hlt := Fa.ly
    have hc : (ptOf i a).1 = (ptOf i b).1 ∧ ((ptOf i a).2.1 + (ptOf i b).2.1) % cP i = 0 := by
      rw [pt_pos i ea, pt_pos i eb]
      refine ⟨nx.symm, ?_⟩
      show (((tabOf i).getD a (0, 0)).2 + ((tabOf i).getD b (0, 0)).2) % cP i = 0
      rw [ny, Nat.add_sub_cancel' (Nat.le_of_lt hlt), Nat.mod_self]
    refine ⟨⟨by omega, ia, ib, fun _ _ h => absurd hc h⟩, ?_⟩
    rw [hab, Nat.mod_self, pt_zero]
    unfold csum
    rw [if_neg (by rw [pt_pos i ea]; exact Bool.false_ne_true), if_neg (by rw [pt_pos i eb]; exact Bool.false_ne_true), if_pos hc]
  -- the sum is not far
  have hc0 : 1 ≤ (a + b) % cN i := by
    rcases Nat.lt_or_ge (a + b) (cN i) with g | g
    · rw [Nat.mod_eq_of_lt g]; omega
    · rw [← Nat.sub_add_cancel g, Nat.add_mod_right, Nat.mod_eq_of_lt (by omega)]
      omega
  have hcN : (a + b) % cN i < cN i := Nat.mod_lt _ (by omega)
  have Fc := one_of hi hc0 hcN
  have rel : a ≠ b → ((tabOf i).getD a (0, 0)).1 ≠ ((tabOf i).getD b (0, 0)).1 ∧ ((cP i : Nat) : Int) ∣ ((((tabOf i).getD ((a + b) % cN i) (0, 0)).1 : Int) + (((tabOf i).getD a (0, 0)).1 : Int) + (((tabOf i).getD b (0, 0)).1 : Int)) * (((((tabOf i).getD b (0, 0)).1 : Int) - (((tabOf i).getD a (0, 0)).1 : Int)) * ((((tabOf i).getD b (0, 0)).1 : Int) - (((tabOf i).getD a (0, 0)).1 : Int))) - ((((tabOf i).getD b (0, 0)).2 : Int) - (((tabOf i).getD a (0, 0)).2 : Int)) * ((((tabOf i).getD b (0, 0)).2 : Int) - (((tabOf i).getD a (0, 0)).2 : Int)) ∧
      ((cP i : Nat) : Int) ∣ ((((tabOf i).getD ((a + b) % cN i) (0, 0)).2 : Int) + (((tabOf i).getD a (0, 0)).2 : Int)) * ((((tabOf i).getD b (0, 0)).1 : Int) - (((tabOf i).getD a (0, 0)).1 : Int)) - ((((tabOf i).getD b (0, 0)).2 : Int) - (((tabOf i).getD a (0, 0)).2 : Int)) * ((((tabOf i).getD a (0, 0)).1 : Int) - (((tabOf i).getD ((a + b) % cN i) (0, 0)).1 : Int)) := by
    intro hne
    rcases Nat.lt_or_ge a b with g | g
    · exact pair_dvd (pair_of hi ea g hb) (by have := Fc.y0; omega) (Nat.le_of_lt Fa.lx) (Nat.le_of_lt Fa.ly) (Nat.le_of_lt Fc.lx)
    · have h := pair_of hi eb (show b < a by omega) ha
      rw [Nat.add_comm b a] at h
      obtain ⟨k1, k2, k3⟩ := pair_dvd h (by have := Fc.y0; omega) (Nat.le_of_lt Fb.lx) (Nat.le_of_lt Fb.ly) (Nat.le_of_lt Fc.lx)
      refine ⟨fun h => k1 h.symm, ?_, ?_⟩
      · obtain ⟨z, hz⟩ := k2
        exact ⟨z, by rw [← hz]; grind⟩
      · obtain ⟨z, hz⟩ := k3
        exact ⟨-z, by rw [Int.mul_neg, ← hz]; grind⟩
  have g1 : ∀ A, 1 ≤ A → A < cP i → Nat.gcd A (cP i) = 1 := fun A h1 h2 => (pp_fact hi h1 h2).2.2
  have pa := pt_pos i ea
  have pb := pt_pos i eb
  have pc := pt_pos i hc0
  have dxa := Fa.dx
  have dya := Fa.dy
  by_cases hne : a = b
  · subst hne
    rw [← Nat.two_mul] at pc Fc ⊢
    rw [pa, pc]
    have hd : Nat.gcd ((((tabOf i).getD a (0, 0)).2 + ((tabOf i).getD a (0, 0)).2) % cP i) (cP i) = 1 := g1 _ (by have := Fa.d0; omega) (Nat.mod_lt _ (by omega))
    have lx := Fa.lx
    have ly := Fa.ly
    have zx := Fc.lx
    have zy := Fc.ly
    have d0 := Fa.d0
    rw [pa] at ia
    generalize (tabOf i).getD (2 * a % cN i) (0, 0) = t at *
    generalize (tabOf i).getD a (0, 0) = q at *
    obtain ⟨x, y⟩ := q
    obtain ⟨z, w⟩ := t
    have hn : ¬ (x = x ∧ (y + y) % cP i = 0) := fun h => d0 h.2
    refine ⟨⟨by omega, ia, ia, fun _ _ _ => ⟨fun _ => hd, fun h => absurd rfl h⟩⟩, ?_⟩
    have e : csum (cP i) 0 (x, y, false) (x, y, false) = throughN (cP i) (slopeN (cP i) 0 (x, y, false) (x, y, false)) (x, y, false) (x, y, false) := by
      unfold csum
      rw [if_neg Bool.false_ne_true, if_neg Bool.false_ne_true, if_neg hn]
    have cy2 := (Cg.self (cP i) y).add (Cg.self (cP i) y)
    have cxx := ((Cg.self (cP i) x).mul (Cg.self (cP i) x)).md
    have c3 : Cg (cP i) (tw3 (cP i) (x * x % cP i)) ((x : Int) * x + ((x : Int) * x + (x : Int) * x)) := (cxx.add (cxx.add cxx).md).md
    have hu := inv_cg (Nat.mod_lt _ (by omega)) hd cy2.md
    have cs : Cg (cP i) (slopeN (cP i) 0 (x, y, false) (x, y, false)) (((x : Int) * x + ((x : Int) * x + (x : Int) * x)) * ((invN ((y + y) % cP i) (cP i) : Nat) : Int)) := by
      unfold slopeN
      rw [if_pos rfl]
      exact ((c3.add (Cg.self (cP i) 0)).md.mul (Cg.self _ _)).md.to ⟨0, by simp⟩
    have c33 : Cg (cP i) (3 * x * x) ((x : Int) * x + ((x : Int) * x + (x : Int) * x)) := ⟨⟨0, by rw [Int.natCast_mul, Int.natCast_mul]; grind⟩⟩
    have h1 := Cg.of_eq dxa ((((Cg.self (cP i) z).add (Cg.self (cP i) x)).add (Cg.self (cP i) x)).mul (cy2.mul cy2)) (c33.mul c33)
    have h2 := Cg.of_eq dya (((Cg.self (cP i) w).add (Cg.self (cP i) y)).mul cy2) (c33.mul ((Cg.self (cP i) x).sub (Cg.self (cP i) z) (Nat.le_of_lt zx)))
    rw [e]
    exact through_is cs lx ly lx zx zy hu h1 h2
  · obtain ⟨k1, k2, k3⟩ := rel hne
    rw [pa, pb, pc]
    obtain ⟨dn1, dn2⟩ := diff_ne Fa.lx Fb.lx k1
    have hd := g1 _ dn1 dn2
    have lx := Fa.lx
    have ly := Fa.ly
    have lx2 := Fb.lx
    have zx := Fc.lx
    have zy := Fc.ly
    rw [pa] at ia
    rw [pb] at ib
    generalize (tabOf i).getD ((a + b) % cN i) (0, 0) = t at *
    generalize (tabOf i).getD a (0, 0) = q at *
    generalize (tabOf i).getD b (0, 0) = r at *
    obtain ⟨x1, y1⟩ := q
    obtain ⟨x2, y2⟩ := r
    obtain ⟨x3, y3⟩ := t
    have hne' : ¬ ((x1, y1, false) : Pt) = (x2, y2, false) := fun h => k1 (congrArg (·.1) h)
    have hn : ¬ (x1 = x2 ∧ (y1 + y2) % cP i = 0) := fun h => k1 h.1
    refine ⟨⟨by omega, ia, ib, fun _ _ _ => ⟨fun h => absurd h hne', fun _ => hd⟩⟩, ?_⟩
    have e : csum (cP i) 0 (x1, y1, false) (x2, y2, false) = throughN (cP i) (slopeN (cP i) 0 (x1, y1, false) (x2, y2, false)) (x1, y1, false) (x2, y2, false) := by
      unfold csum
      rw [if_neg Bool.false_ne_true, if_neg Bool.false_ne_true, if_neg hn]
    have cD := ((Cg.self (cP i) x2).sub (Cg.self (cP i) x1) (Nat.le_of_lt lx)).md
    have cE := ((Cg.self (cP i) y2).sub (Cg.self (cP i) y1) (Nat.le_of_lt ly)).md
    have hu := inv_cg dn2 hd cD
    have cs : Cg (cP i) (slopeN (cP i) 0 (x1, y1, false) (x2, y2, false)) (((y2 : Int) - y1) * ((invN ((x2 + cP i - x1) % cP i) (cP i) : Nat) : Int)) := by
      unfold slopeN
      rw [if_neg hne']
      exact (cE.mul (Cg.self _ _)).md
    rw [e]
    exact through_is cs lx ly lx2 zx zy hu k2 k3
end Go.Proofs.YtbfcccoeekonlaaGreatDoor
end

section
/-
  Small curves: points so often, points by number, lifting.
-/
namespace Go.Proofs.YtbfcccoeekonlaaGreatDoor
open Go.Sx

theorem good_all {i : Nat} (hi : i < 8) : goodP (cP i) 0 (cB i) (cN i) (cX i, cY i, false) := by
  match i, hi with
  | 0, _ | 1, _ | 2, _ | 3, _ | 4, _ | 5, _ | 6, _ | 7, _ => exact ⟨by decide, by decide, by decide, by decide, by decide, by decide +kernel, rfl, ⟨fun h => (by cases h), fun _ => by decide +kernel⟩⟩
  | k + 8, h => omega
theorem base_pt {i : Nat} (hi : i < 8) : (cX i, cY i, false) = ptOf i 1 := by
  match i, hi with
  | 0, _ | 1, _ | 2, _ | 3, _ | 4, _ | 5, _ | 6, _ | 7, _ => rfl
  | k + 8, h => omega
theorem cN_range {i : Nat} (h : i < 8) : 31 ≤ cN i ∧ cN i ≤ 643 := by
  have : ∀ i : Fin 8, 31 ≤ cN i.val ∧ cN i.val ≤ 643 := by decide
  exact this ⟨i, h⟩
theorem ixP_of {i : Nat} (hi : i < 8) : ixP (cP i) = i := by
  have : ∀ i : Fin 8, ixP (cP i.val) = i.val := by decide
  exact this ⟨i, hi⟩
theorem onP_pt {i j : Nat} (hi : i < 8) (hj : j < cN i) : onP (cP i) 0 (cB i) (ptOf i j) := by
  rcases Nat.eq_zero_or_pos j with e | e
  · subst e
    exact ⟨fun _ => ⟨rfl, rfl⟩, fun h => by cases h⟩
  · have F := one_of hi e hj
    rw [pt_pos i e]
    exact ⟨fun h => (by cases h), fun _ => ⟨F.lx, F.ly, F.on⟩⟩
theorem inM_pt {i j : Nat} (hi : i < 8) (hj : j < cN i) : inM (ptOf i j) := by
  have hM := M256_eq
  obtain ⟨_, r2⟩ := cP_range hi
  rcases Nat.eq_zero_or_pos j with e | e
  · subst e
    exact ⟨M_pos, M_pos⟩
  · have F := one_of hi e hj
    have h1 := F.lx
    have h2 := F.ly
    rw [pt_pos i e]
    exact ⟨by dsimp only; omega, by dsimp only; omega⟩
theorem cmul_at {i j k : Nat} (hi : i < 8) (hj : j < cN i) (hk : k < M256) : ∀ n, n ≤ 256 → cmulR (cP i) 0 k (ptOf i j) n = ptOf i (k / 2 ^ (256 - n) * j % cN i)
  | 0, _ => by
    rw [show k / 2 ^ (256 - 0) = 0 from Nat.div_eq_of_lt hk, Nat.zero_mul, Nat.zero_mod]
    rfl
  | n + 1, hn => by
    obtain ⟨r1, _⟩ := cN_range hi
    have ih := cmul_at hi hj hk n (by omega)
    obtain ⟨t, ht⟩ : ∃ t, t = 255 - n := ⟨_, rfl⟩
    rw [show 256 - n = t + 1 by omega] at ih
    have hs := half_step k t
    have lt : ∀ v, v % cN i < cN i := fun v => Nat.mod_lt v (by omega)
    have h1 := (csum_pt hi (lt (k / 2 ^ (t + 1) * j)) (lt (k / 2 ^ (t + 1) * j))).2
    have h2 := (csum_pt hi (lt (k / 2 ^ (t + 1) * j % cN i + k / 2 ^ (t + 1) * j % cN i)) hj).2
    rw [cmulR, ih, h1, h2, show 256 - (n + 1) = t by omega, show 255 - n = t by omega]
    have e1 : (k / 2 ^ (t + 1) * j % cN i + k / 2 ^ (t + 1) * j % cN i) % cN i = 2 * (k / 2 ^ (t + 1)) * j % cN i := by
      rw [← Nat.add_mod, ← Nat.two_mul, Nat.mul_assoc]
    by_cases hb : k.testBit t = true
    · rw [if_pos hb, e1, Nat.mod_add_mod, hs, hb, Bool.toNat_true, Nat.add_mul, Nat.one_mul]
    · rw [if_neg hb, e1, hs, Bool.eq_false_iff.2 hb, Bool.toNat_false]
      simp only [Nat.add_zero]
theorem cmul_pt {i j k : Nat} (hi : i < 8) (hj : j < cN i) (hk : k < M256) : mulOK (cP i) 0 k (ptOf i j) ∧ cmulR (cP i) 0 k (ptOf i j) 256 = ptOf i (k * j % cN i) := by
  obtain ⟨r1, _⟩ := cN_range hi
  have lt : ∀ v, v % cN i < cN i := fun v => Nat.mod_lt v (by omega)
  refine ⟨⟨fun n hn => ?_, fun n hn _ => ?_⟩, ?_⟩
  · rw [cmul_at hi hj hk n (by omega)]
    exact (csum_pt hi (lt _) (lt _)).1
  · rw [cmul_at hi hj hk n (by omega), (csum_pt hi (lt _) (lt _)).2]
    exact (csum_pt hi (lt _) hj).1
  · rw [cmul_at hi hj hk 256 (Nat.le_refl _), Nat.sub_self, Nat.pow_zero, Nat.div_one]
theorem isCv.good {i P A B N X Y : Nat} {F : Bool} (h : isCv i P A B N X Y F) : P % M256 = cP i ∧ A % M256 = 0 ∧ B % M256 = cB i ∧ N % M256 = cN i ∧ red X Y F = ptOf i 1 ∧ goodP (P % M256) (A % M256) (B % M256) (N % M256) (red X Y F) := by
  have e : red X Y F = (cX i, cY i, false) := by
    unfold red
    rw [h.x, h.y, h.f]
  refine ⟨h.p, h.a, h.b, h.n, by rw [e, base_pt h.lt], ?_⟩
  rw [h.p, h.a, h.b, h.n, e]
  exact good_all h.lt
theorem limb_low (N : Nat) : limb N 0 = ((N % M256 % 18446744073709551616 : Nat) : Int) := by
  have e : limb N 0 = ((N / 2 ^ (64 * 0) % 2 ^ 64 : Nat) : Int) := rfl
  rw [e, limb_mod N 0 (by decide), Nat.mul_zero, Nat.pow_zero, Nat.div_one]
theorem ok_Secret : ∀ (ls : List (List At)) (vs : List (Option Addr)), Ok (pointC ls) → Owes Tryz.prog cxSecret [] 100 Tryz.f7 (mkArgs [.str pCv, .int .i64] ls vs) (secretG ls) := by
  intro ls vs hc
  unfold pointC at hc
  split at hc
  · rename_i P A B N X Y F n
    have h : Owes Tryz.prog cxSecret [] 100 Tryz.f7 [sCv P A B N X Y F, sI .i64 n] (secretG [[.u P, .u A, .u B, .u N, .u X, .u Y, .b F], [.i n]]) := by
      rw [vc_Secret]
      obtain ⟨hcv, hn, _⟩ := hc
      obtain ⟨eP, eA, eB, eN, eb, hg⟩ := hcv.good
      have hi := hcv.lt
      obtain ⟨r1, r2⟩ := cN_range hi
      have hL := limb_low N
      rw [eN] at hL
      generalize ixP (P % M256) = i at *
      have m1 := Int.emod_nonneg n (show ((cN i : Nat) : Int) - 1 ≠ 0 by omega)
      have m2 := Int.emod_lt_of_pos n (show (0 : Int) < ((cN i : Nat) : Int) - 1 by omega)
      obtain ⟨a, ha⟩ := Int.eq_ofNat_of_zero_le m1
      intro x1 x2
      have E1 : x1 = ((cN i : Nat) : Int) - 1 := by
        simp only [x1]
        rw [hL, Nat.mod_eq_of_lt (by omega), IntWalk.i64_in ((cN i : Nat) : Int) (by omega), IntWalk.i64_in _ (by omega)]
      have E2 : x2 = ((1 + a : Nat) : Int) := by
        simp only [x2]
        rw [E1, ha, wrap_id (n := (a : Int)) (by omega), wrap_id (by omega)]
        omega
      clear_value x2 x1
      rw [E1, ha, E2, Int.toNat_natCast]
      refine ⟨hn, by omega, by omega, by decide, by decide, by decide, ?_, trivial⟩
      rw [join_one (by omega), Int.toNat_natCast, small_mod (by omega)]
    exact h
  · exact hc.1.elim
theorem card_Secret : FnOK Tryz.prog 7 cSecret :=
  FnOK_A (CxOK_cons card_pickBig CxOK_nil) (iv := fun _ => []) (N := 100) Tryz.func7 (by kernel_rfl) (by kernel_rfl) (fun ls => by unfold secretG; split; exact bnd_one (bnd_U _); exact bnd_none) ok_Secret
end Go.Proofs.YtbfcccoeekonlaaGreatDoor
end

section
/-
  Package sign: its steps.
-/
namespace Go.Proofs.YtbfcccoeekonlaaGreatDoor
open Go.Sx

theorem beq_conj1 (a b : Nat) : conj [a == b] = (a == b) := by
  rw [conj_all]
  simp
theorem cmp_below {a b : Nat} : decide (cmpN a b < 0) = decide (a % M256 < b % M256) := by
  unfold cmpN
  split
  · rename_i h; rw [decide_eq_true h]; rfl
  · rename_i h
    rw [decide_eq_false h]
    split <;> rfl
theorem cmp_pos {a b : Nat} : decide (cmpN a b > 0) = decide (b % M256 < a % M256) := by
  unfold cmpN
  split
  · rename_i h; rw [decide_eq_false (show ¬ b % M256 < a % M256 by omega)]; rfl
  · split
    · rename_i h; rw [decide_eq_true h]; rfl
    · rename_i h; rw [decide_eq_false h]; rfl
theorem ok_isSecret : ∀ n d : Nat, Owes Tryz.prog cxSec [] 100 Tryz.f37 [sU n, sU d] (secG n d) := by
  intro n d
  rw [vc_isSecret]
  intro x1
  refine ⟨id, id, id, id, ?_⟩
  simp only [x1, beq_conj1, cmp_below]
  rfl
theorem ok_oRest : ∀ n a : Nat, Owes Tryz.prog cxORest [] 100 Tryz.f22 [sU n, sU a] (oRestG n a) := by
  intro n a
  rw [vc_oRest]
  exact ⟨rfl, trivial⟩
theorem ok_oMinus : ∀ n a : Nat, Owes Tryz.prog cxOMin [] 100 Tryz.f31 [sU n, sU a] (minG n a) := by
  intro n a
  rw [vc_oMinus]
  exact ⟨rfl, trivial⟩
theorem ok_oMul : ∀ n a b : Nat, Ok (noC n a b) → Owes Tryz.prog cxOMul [] 100 Tryz.f32 [sU n, sU a, sU b] (oMulG n a b) := by
  intro n a b _
  rw [vc_oMul]
  exact ⟨rfl, trivial⟩
theorem ok_ofSum : ∀ (ls : List (List At)) (vs : List (Option Addr)), Ok (ofSumC ls) → Owes Tryz.prog cxOfSum [] 100 Tryz.f33 (mkArgs [.str [.u], .str [.y 32]] ls vs) (ofSumG ls) := by
  intro ls vs hc
  unfold ofSumC at hc
  split at hc
  · rename_i n g
    have h : Owes Tryz.prog cxOfSum [] 100 Tryz.f33 [sU n, sBy 32 g] (ofSumG [[.u n], [.y 32 g]]) := by
      rw [vc_ofSum]
      exact ⟨hc.1, rfl, trivial⟩
    exact h
  · exact hc.1.elim
theorem ok_oInv : ∀ n a : Nat, Owes Tryz.prog cxOInv [] 100 Tryz.f29 [sU n, sU a] (oinvG n a) := by
  intro n a
  rw [vc_oInv]
  intro x1
  refine ⟨fun h => ?_, fun h => ?_⟩
  · have e : ¬ finvE a n = 0 := by simpa using h
    refine ⟨⟨?_, trivial⟩, ?_⟩
    · simp only [x1]; unfold oinvN; rw [if_neg e, Nat.zero_mod]
    · unfold oinvE; rw [if_neg e]
  · have e : finvE a n = 0 := by simpa using h
    refine ⟨⟨rfl, trivial⟩, ?_⟩
    unfold oinvE; rw [if_pos e]
theorem ok_oHigh : ∀ n s : Nat, Owes Tryz.prog cxHigh [] 100 Tryz.f49 [sU n, sU s] (oHighG n s) := by
  intro n s
  rw [vc_oHigh]
  exact cmp_pos
theorem ok_mayBe : ∀ (ls : List (List At)) (vs : List (Option Addr)), Ok (mayC ls) → Owes Tryz.prog cxMay [] 100 Tryz.f27 (mkArgs [.str [.u], .str pSg] ls vs) (mayG' ls) := by
  intro ls vs hc
  unfold mayC at hc
  split at hc
  · rename_i n R S o
    have h : Owes Tryz.prog cxMay [] 100 Tryz.f27 [sU n, sSg R S o] (mayG' [[.u n], [.u R, .u S, .i o]]) := by
      rw [vc_mayBe]
      exact ⟨id, id, id, id, id, id, id, id, id, id, id, id, id, id, id, rfl⟩
    exact h
  · exact hc.1.elim
theorem ok_cCheck : ∀ (ls : List (List At)) (vs : List (Option Addr)), Ok (ckC ls) → Owes Tryz.prog cxCk [] 100 Tryz.f26 (mkArgs [.str pCv] ls vs) (ckG ls) := by
  intro ls vs hc
  unfold ckC at hc
  split at hc
  · rename_i P A B N X Y F
    have h : Owes Tryz.prog cxCk [] 100 Tryz.f26 [sCv P A B N X Y F] (ckG [[.u P, .u A, .u B, .u N, .u X, .u Y, .b F]]) := by
      rw [vc_cCheck]
      exact ⟨rfl, hc.1, rfl⟩
    exact h
  · exact hc.1.elim
theorem ok_look : ∀ (ls : List (List At)) (vs : List (Option Addr)), Ok (lookC ls) → Owes Tryz.prog cxLook [] 100 Tryz.f20 (mkArgs [.str pCv, .str [.u]] ls vs) (lookG ls) := by
  intro ls vs hc
  unfold lookC at hc
  split at hc
  · rename_i P A B N X Y F d
    have h : Owes Tryz.prog cxLook [] 100 Tryz.f20 [sCv P A B N X Y F, sU d] (lookG [[.u P, .u A, .u B, .u N, .u X, .u Y, .b F], [.u d]]) := by
      rw [vc_look]
      intro x1
      refine ⟨hc.1, fun h => (by cases h), fun _ => ⟨fun h => ?_, fun h => ?_⟩⟩
      · have e : secB N d = false := by simpa using h
        simp only [x1]
        rw [if_neg (by rw [e]; exact Bool.false_ne_true)]
      · have e : secB N d = true := by simpa using h
        simp only [x1]
        rw [if_pos e]
    exact h
  · exact hc.1.elim
theorem ok_sPoint : ∀ (ls : List (List At)) (vs : List (Option Addr)), Ok (pntC ls) → Owes Tryz.prog cxPnt [] 100 Tryz.f8 (mkArgs [.str pCv, .str [.u]] ls vs) (pntG ls) := by
  intro ls vs hc
  unfold pntC at hc
  split at hc
  · rename_i P A B N X Y F d
    have h : Owes Tryz.prog cxPnt [] 100 Tryz.f8 [sCv P A B N X Y F, sU d] (pntG [[.u P, .u A, .u B, .u N, .u X, .u Y, .b F], [.u d]]) := by
      rw [vc_sPoint]
      obtain ⟨h1, h2, h3, _⟩ := hc
      intro x1 x2 x3 x4 x5 x6 x7 x8
      have E4 : x4 = 0 := if_pos h2
      rw [E4]
      exact ⟨h1, fun h => (by cases h), fun _ => ⟨h1, h1.on, h3, ⟨rfl, rfl, rfl, trivial⟩, rfl⟩⟩
    exact h
  · exact hc.1.elim
theorem ok_both : ∀ (ls : List (List At)) (vs : List (Option Addr)), Ok (bothC ls) → Owes Tryz.prog cxBoth [] 100 Tryz.f30 (mkArgs [.str pCv, .str [.u], .str pPt, .str [.u]] ls vs) (bothG ls) := by
  intro ls vs hc
  unfold bothC at hc
  split at hc
  · rename_i P A B N X Y F k x y f l
    have h : Owes Tryz.prog cxBoth [] 100 Tryz.f30 [sCv P A B N X Y F, sU k, sPt x y f, sU l] (bothG [[.u P, .u A, .u B, .u N, .u X, .u Y, .b F], [.u k], [.u x, .u y, .b f], [.u l]]) := by
      rw [vc_both]
      obtain ⟨h1, _⟩ := hc
      have r1 := red_same h1.i1.1
      have r2 := red_same h1.i2.1
      intro x1 x2 x3 x4 x5
      have r1 : red (cmulR x1 x2 x4 (red X Y F) 256).1 (cmulR x1 x2 x4 (red X Y F) 256).2.1 (cmulR x1 x2 x4 (red X Y F) 256).2.2 = cmulR x1 x2 x4 (red X Y F) 256 := r1
      have r2 : red (cmulR x1 x2 x5 (red x y f) 256).1 (cmulR x1 x2 x5 (red x y f) 256).2.1 (cmulR x1 x2 x5 (red x y f) 256).2.2 = cmulR x1 x2 x5 (red x y f) 256 := r2
      rw [r1, r2]
      exact ⟨h1.g, h1.g.on, h1.m1, h1.g, h1.p0, h1.m2, h1.g, h1.i1.2, h1.i2.2, h1.s, ⟨rfl, rfl, rfl, trivial⟩, rfl⟩
    exact h
  · exact hc.1.elim
theorem ok_Lift2 : ∀ (ls : List (List At)) (vs : List (Option Addr)), Ok (lift2C ls) → Owes Tryz.prog cxLift2 [] 100 Tryz.f51 (mkArgs [.str pCv, .str [.u], .bit] ls vs) (lift2G ls) := by
  intro ls vs hc
  unfold lift2C at hc
  split at hc
  · rename_i P A B N X Y F x odd
    have h : Owes Tryz.prog cxLift2 [] 100 Tryz.f51 [sCv P A B N X Y F, sU x, sB odd] (lift2G [[.u P, .u A, .u B, .u N, .u X, .u Y, .b F], [.u x], [.b odd]]) := by
      rw [vc_Lift2]
      obtain ⟨hg, _⟩ := hc
      have h0 := lt_pos hg.A0
      have mM := md_M h0
      have lt := fun v => Nat.mod_lt v h0
      have cg : decide (cmpN x P ≥ 0) = decide (P % M256 ≤ x % M256) := by
        rw [Bool.eq_iff_iff, decide_eq_true_eq, decide_eq_true_eq]
        exact cmp_ge
      intro x1 x2 x3 x4 x5 x6 x7 x8 x9 x10
      have cg : decide (cmpN x P ≥ 0) = decide (x1 ≤ x4) := cg
      have hg : goodP x1 x2 x3 (N % M256) (red X Y F) := hg
      have hA : x2 < x1 := hg.A0
      have hB : x3 < x1 := hg.B0
      have h0 : 0 < x1 := h0
      have E8 : x8 = rhsN x1 x2 x3 x4 := mM _
      have l8 : x8 < x1 := by rw [E8]; exact lt _
      have E9 : x9 = rhsN x1 x2 x3 x4 ^ (x1 / 4 + 1) % x1 := by simp only [x9]; rw [E8]; exact mM _
      have l9 : x9 < x1 := by rw [E9]; exact lt _
      have E10 : x10 = (0 + x1 - x9) % x1 := mM _
      have l10 : x10 < x1 := by rw [E10]; exact lt _
      have q9 : x9 * x9 % x1 % M256 = x9 * x9 % x1 := mM _
      have q10 : x10 * x10 % x1 % M256 = x10 * x10 % x1 := mM _
      have Y9 : ((x9 % 2 == 1) == odd) = true → liftY x1 x2 x3 x4 odd = x9 := by
        intro hb
        unfold liftY
        rw [← E9, if_neg]
        rw [beq_iff_eq] at hb
        rw [hb]
        simp
      have Y10 : ((x9 % 2 == 1) == odd) = false → liftY x1 x2 x3 x4 odd = x10 := by
        intro hb
        unfold liftY
        rw [← E9, if_pos, E10]
        rw [bne, hb]
        rfl
      have E5 : x5 = liftE x1 x2 x3 x4 odd := rfl
      have L5 : x4 < x1 → ∀ v, liftY x1 x2 x3 x4 odd = v → x5 = if (((v % 2 == 1) == odd) && (v * v % x1 == rhsN x1 x2 x3 x4)) = true then 0 else 16 := by
        intro hl v hv
        rw [E5]
        unfold liftE liftB
        rw [if_neg (by omega), hv]
      have N6 : x5 ≠ 0 → 0 = x6 ∧ 0 = x7 := by
        intro h
        simp only [x6, x7]
        rw [if_neg h, if_neg h]
        exact ⟨(Nat.zero_mod _).symm, (Nat.zero_mod _).symm⟩
      have m4 : x4 % M256 = x4 := Nat.mod_mod _ _
      have Z6 : x5 = 0 → ∀ v, v < x1 → liftY x1 x2 x3 x4 odd = v → x4 = x6 ∧ v = x7 := by
        intro h v hv e
        simp only [x6, x7]
        rw [if_pos h, if_pos h, m4, e]
        exact ⟨rfl, (mod_M (m := P) hv).symm⟩
      clear_value x10 x9 x8 x7 x6 x5 x4 x3 x2 x1
      rw [q9, q10, E8, beq_conj1, beq_conj1, cg]
      refine ⟨rfl, hg, fun h => ?_, fun h => ?_⟩
      · have hge : x1 ≤ x4 := of_decide_eq_true h
        have e : x5 = 6 := by rw [E5]; unfold liftE; rw [if_pos hge]
        obtain ⟨z1, z2⟩ := N6 (by rw [e]; decide)
        exact ⟨⟨z1, z2, rfl, trivial⟩, e.symm⟩
      · have hlt : x4 < x1 := Nat.lt_of_not_le (of_decide_eq_false h)
        have bad : ∀ v, liftY x1 x2 x3 x4 odd = v → (((v % 2 == 1) == odd) && (v * v % x1 == rhsN x1 x2 x3 x4)) = false → (0 = x6 ∧ 0 = x7 ∧ false = false ∧ True) ∧ (16 : Int) = x5 := by
          intro v hv hb
          have e := L5 hlt v hv
          rw [hb, if_neg Bool.false_ne_true] at e
          obtain ⟨z1, z2⟩ := N6 (by rw [e]; decide)
          exact ⟨⟨z1, z2, rfl, trivial⟩, e.symm⟩
        have good : ∀ v, v < x1 → liftY x1 x2 x3 x4 odd = v → (((v % 2 == 1) == odd) && (v * v % x1 == rhsN x1 x2 x3 x4)) = true → (x4 = x6 ∧ v = x7 ∧ false = false ∧ True) ∧ (0 : Int) = x5 := by
          intro v hl hv hb
          have e := L5 hlt v hv
          rw [hb, if_pos rfl] at e
          obtain ⟨z1, z2⟩ := Z6 e v hl hv
          exact ⟨⟨z1, z2, rfl, trivial⟩, e.symm⟩
        refine ⟨hA, hB, hlt, by rw [← E8]; exact l8, fun h1 => ⟨h0, l9, fun h2 => ?_, fun h2 => ?_⟩, fun h1 => ⟨fun h2 => ?_, fun h2 => ?_⟩⟩
        · have e := Y10 (by simpa using h1)
          have h2 : ((x10 % 2 == 1) == odd) = false := by simpa using h2
          exact ⟨l10, l10, hA, hB, hlt, fun _ => bad _ e (by rw [h2]; rfl), fun _ => bad _ e (by rw [h2]; rfl)⟩
        · have e := Y10 (by simpa using h1)
          have h2 : ((x10 % 2 == 1) == odd) = true := by simpa using h2
          refine ⟨l10, l10, hA, hB, hlt, fun h3 => bad _ e ?_, fun h3 => good _ l10 e ?_⟩
          · rw [h2, Bool.true_and]; simpa using h3
          · rw [h2, Bool.true_and]; simpa using h3
        · rw [h1] at h2; cases h2
        · have h1 : ((x9 % 2 == 1) == odd) = true := by simpa using h1
          have e := Y9 h1
          refine ⟨l9, l9, hA, hB, hlt, fun h3 => bad _ e ?_, fun h3 => good _ l9 e ?_⟩
          · rw [h1, Bool.true_and]; simpa using h3
          · rw [h1, Bool.true_and]; simpa using h3
    exact h
  · exact hc.1.elim
theorem ok_pointOf : ∀ (ls : List (List At)) (vs : List (Option Addr)), Ok (pofC ls) → Owes Tryz.prog cxPof [] 100 Tryz.f28 (mkArgs [.str pCv, .str pSg] ls vs) (pofG ls) := by
  intro ls vs hc
  unfold pofC at hc
  split at hc
  · rename_i P A B N X Y F R S o
    have h : Owes Tryz.prog cxPof [] 100 Tryz.f28 [sCv P A B N X Y F, sSg R S o] (pofG [[.u P, .u A, .u B, .u N, .u X, .u Y, .b F], [.u R, .u S, .i o]]) := by
      rw [vc_pointOf]
      obtain ⟨hg, _⟩ := hc
      intro x1 x2 x3 x4 x5 x6 x7 x8 x9 x10 x11 x12 x13 x14
      have E13 : x13 = pofE x1 x2 x3 N R o := rfl
      have N13 : x13 ≠ 0 → 0 = x11 ∧ 0 = x12 := by
        intro h
        simp only [x11, x12]
        unfold pofP
        rw [← E13, if_neg h, if_neg h]
        exact ⟨(Nat.zero_mod _).symm, (Nat.zero_mod _).symm⟩
      have bad : x13 = 10 → (0 = x11 ∧ 0 = x12 ∧ false = (pofP x1 x2 x3 N R o).2.2 ∧ True) ∧ (10 : Int) = x13 := by
        intro e
        obtain ⟨z1, z2⟩ := N13 (by rw [e]; decide)
        exact ⟨⟨z1, z2, rfl, trivial⟩, e.symm⟩
      refine ⟨fun h => ⟨hg, id, fun h => by rw [h]; rfl, fun h2 => bad ?_, fun h2 => ?_⟩, fun h => ⟨hg, fun h2 => bad ?_, fun h2 => ?_⟩⟩
      · have ho : 2 ≤ o := of_decide_eq_true h
        rw [E13]
        unfold pofE pofO pofX
        rw [decide_eq_true ho, Bool.true_and, if_pos ho]
        show (if x7 = true then (10 : Int) else if x10 = 0 then 0 else 10) = 10
        rw [Bool.or_eq_true] at h2
        rcases h2 with h2 | h2
        · rw [if_pos h2]
        · split
          · rfl
          · rw [if_neg (by simpa using h2)]
      · have ho : 2 ≤ o := of_decide_eq_true h
        rw [Bool.or_eq_false_iff] at h2
        have h10 : x10 = 0 := by simpa using h2.2
        have e : x13 = 0 := by
          rw [E13]
          unfold pofE pofO pofX
          rw [decide_eq_true ho, Bool.true_and, if_pos ho]
          show (if x7 = true then (10 : Int) else if x10 = 0 then 0 else 10) = 0
          rw [if_neg (by rw [h2.1]; exact Bool.false_ne_true), if_pos h10]
        have e12 : pofX N R o % M256 = x8 := by unfold pofX; rw [if_pos ho]
        refine ⟨⟨?_, ?_, rfl, trivial⟩, e.symm⟩
        · simp only [x11]
          unfold pofP
          rw [if_pos h10, ← E13, if_pos e, e12]
        · simp only [x12]
          unfold pofP
          rw [if_pos h10, ← E13, if_pos e, if_pos e, e12]
      · have ho : ¬ 2 ≤ o := of_decide_eq_false h
        rw [E13]
        unfold pofE pofO pofX
        rw [decide_eq_false ho, Bool.false_and, if_neg Bool.false_ne_true, if_neg ho]
        show (if x14 = 0 then (0 : Int) else 10) = 10
        rw [if_neg (by simpa using h2)]
      · have ho : ¬ 2 ≤ o := of_decide_eq_false h
        have h10 : x14 = 0 := by simpa using h2
        have e : x13 = 0 := by
          rw [E13]
          unfold pofE pofO pofX
          rw [decide_eq_false ho, Bool.false_and, if_neg Bool.false_ne_true, if_neg ho]
          show (if x14 = 0 then (0 : Int) else 10) = 0
          rw [if_pos h10]
        have e12 : pofX N R o % M256 = x5 := by unfold pofX; rw [if_neg ho]
        refine ⟨⟨?_, ?_, rfl, trivial⟩, e.symm⟩
        · simp only [x11]
          unfold pofP
          rw [if_pos h10, ← E13, if_pos e, e12]
        · simp only [x12]
          unfold pofP
          rw [if_pos h10, ← E13, if_pos e, if_pos e, e12]
    exact h
  · exact hc.1.elim
theorem card_isSecret : FnOK Tryz.prog 37 (specUU secG) :=
  FnOK_UU (CxOK_cons card_Cmp CxOK_nil) (iv := []) (N := 100) Tryz.func37 (by kernel_rfl) (by kernel_rfl) (fun _ _ => bnd_one (bnd_B _)) ok_isSecret
theorem card_oRest : FnOK Tryz.prog 22 (specUU oRestG) :=
  FnOK_UU (CxOK_cons card_DivMod CxOK_nil) (iv := []) (N := 100) Tryz.func22 (by kernel_rfl) (by kernel_rfl) (fun _ _ => bnd_one (bnd_U _)) ok_oRest
theorem card_oMinus : FnOK Tryz.prog 31 (specUU minG) :=
  FnOK_UU (CxOK_cons card_fSub CxOK_nil) (iv := []) (N := 100) Tryz.func31 (by kernel_rfl) (by kernel_rfl) (fun _ _ => bnd_one (bnd_U _)) ok_oMinus
theorem card_oMul : FnOK Tryz.prog 32 (specUUU noC oMulG) :=
  FnOK_UUU (CxOK_cons card_fMul CxOK_nil) (iv := fun _ _ _ => []) (N := 100) Tryz.func32 (by kernel_rfl) (by kernel_rfl) (fun _ _ _ => bnd_one (bnd_U _)) ok_oMul
theorem card_ofSum : FnOK Tryz.prog 33 cOfSum :=
  FnOK_A (CxOK_cons card_From (CxOK_cons card_oRest CxOK_nil)) (iv := fun _ => []) (N := 100) Tryz.func33 (by kernel_rfl) (by kernel_rfl) (fun ls => by unfold ofSumG; split; exact bnd_one (bnd_U _); exact bnd_none) ok_ofSum
theorem card_oInv : FnOK Tryz.prog 29 (specUU oinvG) :=
  FnOK_UU (CxOK_cons card_fInv CxOK_nil) (iv := []) (N := 100) Tryz.func29 (by kernel_rfl) (by kernel_rfl) (fun _ _ => bnd_two (bnd_U _) (bnd_I _ _)) ok_oInv
theorem card_oHigh : FnOK Tryz.prog 49 (specUU oHighG) :=
  FnOK_UU (CxOK_cons card_oMinus (CxOK_cons card_Cmp CxOK_nil)) (iv := []) (N := 100) Tryz.func49 (by kernel_rfl) (by kernel_rfl) (fun _ _ => bnd_one (bnd_B _)) ok_oHigh
theorem card_mayBe : FnOK Tryz.prog 27 cMay :=
  FnOK_A (CxOK_cons card_isSecret (CxOK_cons card_oHigh CxOK_nil)) (iv := fun _ => []) (N := 100) Tryz.func27 (by kernel_rfl) (by kernel_rfl) (fun ls => by unfold mayG'; split; exact bnd_one (bnd_B _); exact bnd_none) ok_mayBe
theorem card_cCheck : FnOK Tryz.prog 26 cCk :=
  FnOK_A (CxOK_cons card_be CxOK_nil) (iv := fun _ => []) (N := 100) Tryz.func26 (by kernel_rfl) (by kernel_rfl) (fun ls => by unfold ckG; split; exact bnd_one (bnd_I _ _); exact bnd_none) ok_cCheck
theorem card_look : FnOK Tryz.prog 20 cLook :=
  FnOK_A (CxOK_cons card_cCheck (CxOK_cons card_isSecret CxOK_nil)) (iv := fun _ => []) (N := 100) Tryz.func20 (by kernel_rfl) (by kernel_rfl) (fun ls => by unfold lookG; split; exact bnd_one (bnd_I _ _); exact bnd_none) ok_look
theorem card_sPoint : FnOK Tryz.prog 8 cPnt :=
  FnOK_A (CxOK_cons card_look (CxOK_cons card_cMult CxOK_nil)) (iv := fun _ => []) (N := 100) Tryz.func8 (by kernel_rfl) (by kernel_rfl) (fun ls => by
    unfold pntG
    split
    · exact bnd_two (bnd_pt _) (bnd_I _ _)
    · exact bnd_none) ok_sPoint
theorem card_both : FnOK Tryz.prog 30 cBoth :=
  FnOK_A (CxOK_cons card_cMult (CxOK_cons card_cAdd CxOK_nil)) (iv := fun _ => []) (N := 100) Tryz.func30 (by kernel_rfl) (by kernel_rfl) (fun ls => by
    unfold bothG
    split
    · exact bnd_two (bnd_pt _) (bnd_I _ _)
    · exact bnd_none) ok_both
theorem card_Lift2 : FnOK Tryz.prog 51 cLift2 :=
  FnOK_A (CxOK_cons card_be (CxOK_cons card_right (CxOK_cons card_root (CxOK_cons card_hsub (CxOK_cons card_hmul (CxOK_cons card_isOdd (CxOK_cons card_Cmp CxOK_nil))))))) (iv := fun _ => []) (N := 100) Tryz.func51 (by kernel_rfl) (by kernel_rfl) (fun ls => by
    unfold lift2G
    split
    · exact bnd_two (bnd_pt (_, _, _)) (bnd_I _ _)
    · exact bnd_none) ok_Lift2
theorem card_pointOf : FnOK Tryz.prog 28 cPof :=
  FnOK_A (CxOK_cons card_Add (CxOK_cons card_Lift2 CxOK_nil)) (iv := fun _ => []) (N := 100) Tryz.func28 (by kernel_rfl) (by kernel_rfl) (fun ls => by
    unfold pofG
    split
    · exact bnd_two (bnd_pt (_, _, _)) (bnd_I _ _)
    · exact bnd_none) ok_pointOf
end Go.Proofs.YtbfcccoeekonlaaGreatDoor
end

section
/-
  A number is its bytes: the numbers' side.
-/
namespace Go.Proofs.YtbfcccoeekonlaaGreatDoor
open Go.Sx

theorem ok_word : ∀ k a b s, i64ok k → i64ok a → i64ok b → Owes Tryz.prog Cx.none [] 400 Tryz.f25 [sRaw k a b s] (wordG k a b s) := by
  intro k a b s _ _ _
  rw [vc_word]
  exact ⟨rfl, rfl, rfl, rfl, rfl, rfl, rfl, rfl, rfl, rfl, rfl, rfl, rfl, rfl, rfl, rfl, rfl, rfl, rfl, rfl, rfl, rfl, rfl, rfl, rfl, rfl, rfl, rfl, rfl, rfl, rfl, rfl, trivial⟩
theorem card_word : FnOK Tryz.prog 25 (specRaw wordG) :=
  FnOK_Raw CxOK_nil (iv := []) (N := 400) Tryz.func25 (by kernel_rfl) (by kernel_rfl) (fun k a b s => by unfold wordG; intro k hk; simp only [List.mem_singleton] at hk; subst hk; trivial) ok_word

end Go.Proofs.YtbfcccoeekonlaaGreatDoor
end
