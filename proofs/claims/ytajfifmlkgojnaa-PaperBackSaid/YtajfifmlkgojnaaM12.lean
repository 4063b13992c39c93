/-
  Texts: P150, V131, V132, P200, Okx, P201, P203, P204, Open.
-/
import Derived.Test.YtajfifmlkgojnaaM1
import Derived.Test.YtajfifmlkgojnaaM2
import Derived.Test.YtajfifmlkgojnaaM3
import Derived.Test.YtajfifmlkgojnaaM4
import Derived.Test.YtajfifmlkgojnaaM5
import Derived.Test.YtajfifmlkgojnaaM6
import Derived.Test.YtajfifmlkgojnaaM7
import Derived.Test.YtajfifmlkgojnaaM8
import Derived.Test.YtajfifmlkgojnaaM9
import Derived.Test.YtajfifmlkgojnaaM10
import Derived.Test.YtajfifmlkgojnaaM11
section
namespace Go.Proofs.Ytajfifmlkgojnaa
open Go Go.Sx Go.RowKit
theorem ok_same (t n c u l t' n' c' u' l' : Int) (em em' : Nat → Int) (a a' : Option Addr) (m cap m' cap' : Nat) (k k' : Nat → Nat → Int) :
    OwesR Try.prog Cx.none [] [] 30 Try.f14 [sBody t n c em u l a m cap k, sBody t' n' c' em' u' l' a' m' cap' k'] false [.v (sB (sameB t n c em u l m k t' n' c' em' u' l' m' k'))] := by
  rw [vc_same]
  exact ⟨id, id, id, id, id, id, id, id, id, id, id, id, id, id, id, id, id, id, id, id, id, id, id, id, id, id, id, fun _ _ => trivial, id, id, fun _ _ => trivial, id, id, id, rfl⟩
theorem card_same {gl : Globs} : FnOKs Try.prog gl 14 cSame := by
  refine FnOKs.up0 (FnOKs_Q (cx := Cx.none) pcx_none (sl := []) (fun p hp => (by cases hp)) Try.func14 (by kernel_rfl) (by kernel_rfl) fun ls hc => ?_) gl
  unfold sameC at hc
  split at hc
  · rename_i t n c em u l a m cap f t' n' c' em' u' l' a' m' cap' f'
    obtain ⟨h, h', _⟩ := hc
    have := ok_same t n c u l t' n' c' u' l' em em' a a' m cap m' cap' (kOf f) (kOf f')
    unfold sBody ksBody at this
    rw [← h, ← h'] at this
    refine ⟨_, _, fun r hr => ?_, this⟩
    rw [List.mem_singleton.1 hr]; exact trivial
  · exact hc.1.elim
theorem ok_pkW (a b : Int) (ha : i64ok a) (hb : 0 < b ∧ b ≤ 1099511627776) : Owes Try.prog Cx.none [] 10 Try.f8 [sI .i64 a, sI .i64 b] (pkG a b) := by
  rw [vc_pk]
  obtain ⟨a1, a2⟩ := ha
  intro x1
  have e1 : x1 = a % b := rfl
  have p0 := Int.emod_nonneg a (by omega : b ≠ 0)
  have p1 := Int.emod_lt_of_pos a hb.1
  have q := Int.tmod_eq_emod (a := a) (b := b)
  have e2 : (b.natAbs : Int) = b := by omega
  refine ⟨by omega, fun h => ?_, fun h => ?_⟩
  · have h' : a.tmod b < 0 := of_decide_eq_true h
    by_cases c : 0 ≤ a ∨ b ∣ a
    · rw [if_pos c] at q; omega
    · rw [if_neg c, e2] at q
      have w : IntKind.wrap .i64 (a.tmod b + b) = a.tmod b + b := by rw [IntKind.wrap_i64]; omega
      rw [w]; omega
  · have h' : ¬ a.tmod b < 0 := of_decide_eq_false h
    by_cases c : 0 ≤ a ∨ b ∣ a
    · rw [if_pos c] at q; omega
    · rw [if_neg c, e2] at q; omega
theorem card_pkW : FnOKg Try.prog [] 8 (specII (fun a b => [i64ok a, 0 < b ∧ b ≤ 1099511627776]) pkG) :=
  FnOK_II (cx := Cx.none) (iv := []) (N := 10) ⟨fun _ h => (by cases h), fun _ h => (by cases h)⟩ Try.func8 (by kernel_rfl) (by kernel_rfl) (fun _ _ => trivial) fun a b h => ok_pkW a b h.1 h.2.1
theorem big_inj : ∀ (z : Nat) (v w : Int), 0 ≤ v → v < 256 ^ z → 0 ≤ w → w < 256 ^ z → (∀ j, j < z → bigAt z v j = bigAt z w j) → v = w
  | 0, v, w, h1, h2, h3, h4, _ => by rw [Int.pow_zero] at h2 h4; omega
  | z + 1, v, w, h1, h2, h3, h4, h => by
    rw [Int.pow_succ] at h2 h4
    have e : ∀ (x : Int) (j : Nat), j < z → bigAt (z + 1) x j = bigAt z (x / 256) j := fun x j hj => by
      unfold bigAt
      have e2 : (256 : Int) ^ (z + 1 - 1 - j) = 256 * 256 ^ (z - 1 - j) := by rw [show z + 1 - 1 - j = (z - 1 - j) + 1 by omega, Int.pow_succ']
      rw [e2, ← Int.ediv_ediv_of_nonneg (by decide : (0 : Int) ≤ 256)]
    have l : v % 256 = w % 256 := by
      have := h z (by omega)
      unfold bigAt at this
      rw [show z + 1 - 1 - z = 0 by omega, Int.pow_zero, Int.ediv_one, Int.ediv_one] at this
      exact this
    have := big_inj z (v / 256) (w / 256) (by omega) (by omega) (by omega) (by omega) fun j hj => by rw [← e v j hj, ← e w j hj]; exact h j (by omega)
    omega
section
variable {t n c u l : Int} {em : Nat → Int} {k : Nat → Nat → Int} {j : Nat}
theorem bF_t (h : j < 8) : bodyF t n c em u l k j = bigAt 8 t j := by unfold bodyF; rw [if_pos h]
theorem bF_n (h : j < 4) : bodyF t n c em u l k (8 + j) = bigAt 4 n j := by unfold bodyF; rw [if_neg (by omega), if_pos (by omega)]; congr 1; omega
theorem bF_c (h : j < 2) : bodyF t n c em u l k (12 + j) = bigAt 2 c j := by unfold bodyF; rw [if_neg (by omega), if_neg (by omega), if_pos (by omega)]; congr 1; omega
theorem bF_e (h : j < 32) : bodyF t n c em u l k (14 + j) = em j := by unfold bodyF; rw [if_neg (by omega), if_neg (by omega), if_neg (by omega), if_pos (by omega)]; congr 1; omega
theorem bF_u (h : j < 8) : bodyF t n c em u l k (46 + j) = bigAt 8 u j := by unfold bodyF; rw [if_neg (by omega), if_neg (by omega), if_neg (by omega), if_neg (by omega), if_pos (by omega)]; congr 1; omega
theorem bF_l (h : j < 1) : bodyF t n c em u l k (54 + j) = bigAt 1 l j := by unfold bodyF; rw [if_neg (by omega), if_neg (by omega), if_neg (by omega), if_neg (by omega), if_neg (by omega), if_pos (by omega)]; congr 1; omega
theorem bF_k : bodyF t n c em u l k (55 + j) = k j 0 := by unfold bodyF; rw [if_neg (by omega), if_neg (by omega), if_neg (by omega), if_neg (by omega), if_neg (by omega), if_neg (by omega)]; congr 1; omega
end
theorem ok_body (k a b : Int) (s : ByteArray) (h : rawP k a b s) :
    OwesR Try.prog cxBod [] [] 30 Try.f26 [sRaw k a b s] true (rBod k a b s) := by
  unfold rBod
  rw [vc_body]
  intro x1 x2 x3 _
  have k1 := h.k
  have a1 := h.a
  have b1 := h.b
  have h1 : -9223372036854775808 ≤ x1 ∧ x1 ≤ 9223372036854775807 := by show _ ≤ IntKind.i64.wrap (a * b) ∧ IntKind.i64.wrap (a * b) ≤ _; rw [IntKind.wrap_i64]; omega
  have h2 : 0 ≤ x2 ∧ x2 ≤ (s.size : Int) := by show 0 ≤ (if (60 : Int) < (s.size : Int) then (60 : Int) else (s.size : Int)) ∧ (if (60 : Int) < (s.size : Int) then (60 : Int) else (s.size : Int)) ≤ _; split <;> omega
  have e2 : x2.toNat = cutL s := by show (if (60 : Int) < (s.size : Int) then (60 : Int) else (s.size : Int)).toNat = min s.size 60; split <;> omega
  have e3 : x3 = cutL s := by
    show (s.extract 0 x2.toNat).size = cutL s
    rw [e2, ByteArray.size_extract]
    unfold cutL
    omega
  have e1 : IntKind.i64.wrap (a * b) = x1 := rfl
  rw [e1, e2, e3]
  clear_value x1 x2 x3
  have F : ∀ i, i < cutL s → (((s.extract 0 (cutL s)).data.getD i (0 : UInt8)).toNat : Int) = cutF s i := fun _ _ => rfl
  simp [k1, a1, b1, h1, h2]
  intro _ _ i hi
  have := F i hi
  simpa using this
theorem cxok_Bod : CxOK Try.prog cxBod := pgl_cons card_pkW (pgl_cons card_word ⟨fun p hp => by
  simp only [List.mem_cons, List.not_mem_nil, or_false] at hp
  rcases hp with rfl | rfl | rfl <;> exact fun _ _ _ h => (by cases h), fun _ h => (by cases h)⟩)
theorem card_body {gl : Globs} : FnOKs Try.prog gl 26 cBod := by
  refine FnOKs.up0 (FnOKs_Q (cx := cxBod) cxok_Bod (sl := []) (fun p hp => (by cases hp)) Try.func26 (by kernel_rfl) (by kernel_rfl) fun ls hc => ?_) gl
  unfold bodC at hc
  split at hc
  · rename_i k a b s
    refine ⟨_, _, fun r hr => ?_, ok_body k a b s hc.1⟩
    rw [List.mem_singleton.1 hr]
    intro z hz
    simp only [List.mem_cons, List.not_mem_nil, or_false] at hz
    rcases hz with rfl | rfl | rfl | rfl | rfl | rfl | rfl
    · exact trivial
    · exact trivial
    · exact trivial
    · exact trivial
    · exact trivial
    · exact trivial
    · exact fun i _ c _ => ⟨trivial, rfl⟩
  · exact hc.1.elim
end Go.Proofs.Ytajfifmlkgojnaa
end

section
namespace Go.Proofs.Ytajfifmlkgojnaa
open Go.Sx
set_option maxRecDepth 100000
def rawF (K A B : Nat → Int) (s : Nat → ByteArray) (i c : Nat) : SC :=
  match c with
  | 0 => .val (.int .i64 (K i))
  | 1 => .val (.int .i64 (A i))
  | 2 => .val (.int .i64 (B i))
  | _ => .val (.string (s i))
def wrW (K : Nat → Int) (i : Nat) : Int := K i % 256
def wrR (K A B : Nat → Int) (i : Nat) : Nat := rawN (K i) (A i) (B i)
def wrS (A B : Nat → Int) (i : Nat) : Nat := rawN (B i) (B i) (A i)
def wrO (A : Nat → Int) (i : Nat) : Int := A i % 256
def wrL (n : Nat) : Nat := min n 19
def invWr (K A B : Nat → Int) (s : Nat → ByteArray) (a : Option Addr) (n cap : Nat) (st t b c u l : Int) (em : Nat → Int) (m : Nat) (f : Nat → Nat → Int) : Inv where
  X := Nat × Nat × Option Addr × Nat
  tm x := slotsAt 47 [(6, .one (.sc (.ptr 0 0))), (7, .one (.sc (.ptr 6 0))), (16, .one (.sc (.xs a (wrL n) cap 4 (rawF K A B s)))), (17, .one (sI .i64 (wrL n : Int))), (18, .one (sI .i64 (x.1 : Int)))]
  ob x := [.cells 46 zPap 0] ++ List.replicate 5 .dead ++ [.cells 46 [.c (.val (.int .i64 st)), .c (.slw 33 10 0 x.1 (x.1 + x.2.1)), .c (.val (.int .i64 t)), .c (.val (.int .i64 b)), .c (.val (.int .i64 c)), .f .u8 32 em, .c (.val (.int .i64 u)), .c (.val (.int .i64 l)), .c (.xs x.2.2.1 m x.2.2.2 1 (u8F f))] 0] ++ List.replicate 26 .dead ++ [.row 59 10 x.1 (sgnF (wrW K) (wrR K A B) (wrS A B) (wrO A)) (x.2.1 * 10)]
  holds x := 1 ≤ x.1 ∧ x.1 ≤ wrL n ∧ x.1 + x.2.1 ≤ maxLen
  less x := wrL n - x.1
def cxWr : Cx := ⟨[(8, cPk), (27, specRaw rawG), (1000000007, fun _ => none), (1000000008, fun _ => none), (1000000010, fun _ => none), (1000000012, fun _ => none), (1000000013, fun _ => none)], [], 0, []⟩
def slWr : List (Nat × SSpec) := [(26, cBod)]
set_option maxHeartbeats 4000000 in
theorem vc_wr (a : Option Addr) (n cap : Nat) (K A B : Nat → Int) (s : Nat → ByteArray) (set : Int) (xk xa xb : Int) (xs : ByteArray) (ST t b c u l : Int) (em' : Nat → Int) (m' : Nat) (f' : Nat → Nat → Int) (st : Int) (N m : Nat) (em w o : Nat → Int) (R S : Nat → Nat) (f : Nat → Nat → Int) (t1 b1 c1 u1 l1 : Int) :
    OwesR Try.prog cxWr slWr [(3, .inv1 (invWr K A B s a n cap ST t b c u l em' m' f'))] 30 Try.f11 [.sc (.xs a n cap 4 (rawF K A B s)), sI .i64 set, sRaw xk xa xb xs] true [.st [.k (.c (.val (.int .i64 st))), .s N 10 (sgnF w R S o), .k (.c (.val (.int .i64 t1))), .k (.c (.val (.int .i64 b1))), .k (.c (.val (.int .i64 c1))), .k (.f .u8 32 em), .k (.c (.val (.int .i64 u1))), .k (.c (.val (.int .i64 l1))), .s m 1 (u8F f)]] =
    (let x1 : Int := if (19 : Int) < (↑n : Int) then (19 : Int) else (↑n : Int); let x2 : Nat := x1.toNat; let x3 : Int := (↑x2 : Int); ∀ (_ : Go.Addr), (((-9223372036854775808 : Int) ≤ set ∧ set ≤ (9223372036854775807 : Int)) ∧ ((0 : Int) < (4294967296 : Int) ∧ (4294967296 : Int) ≤ (1099511627776 : Int)) ∧ (xk = xk ∧ xa = xa ∧ xb = xb ∧ xs = xs ∧ rawP xk xa xb xs ∧ ∀ (a_2 : Option Go.Addr) (cap_1 : Nat), (a_2 = Option.none → cutL xs = 0 ∧ cap_1 = 0) → cutL xs ≤ cap_1 → ((0 : Int) ≤ x1 ∧ x1 ≤ (↑n : Int)) ∧ (∀ (y : Nat × Nat × Option Go.Addr × Nat), closedB (slotsAt 47 [(6, SV.one (SA.sc (SC.ptr 0 0))), (7, SV.one (SA.sc (SC.ptr 6 0))), (16, SV.one (SA.sc (SC.xs a (wrL n) cap 4 (rawF K A B s)))), (17, SV.one (sI Go.IntKind.i64 (↑(wrL n) : Int))), (18, SV.one (sI Go.IntKind.i64 (↑y.fst : Int)))]) ([SO.cells (46 : Go.TypeId) zPap 0] ++ List.replicate 5 SO.dead ++ [SO.cells (46 : Go.TypeId) [SK.c (SC.val (Go.Value.int Go.IntKind.i64 ST)), SK.c (SC.slw 33 10 0 y.fst (y.fst + y.snd.fst)), SK.c (SC.val (Go.Value.int Go.IntKind.i64 t)), SK.c (SC.val (Go.Value.int Go.IntKind.i64 b)), SK.c (SC.val (Go.Value.int Go.IntKind.i64 c)), SK.f Go.IntKind.u8 32 em', SK.c (SC.val (Go.Value.int Go.IntKind.i64 u)), SK.c (SC.val (Go.Value.int Go.IntKind.i64 l)), SK.c (SC.xs y.snd.snd.fst m' y.snd.snd.snd 1 (u8F f'))] 0] ++ List.replicate 26 SO.dead ++ [SO.row (59 : Go.TypeId) 10 y.fst (sgnF (wrW K) (wrR K A B) (wrS A B) (wrO A)) (y.snd.fst * 10)]) = Bool.true) ∧ (∀ (y : Nat × Nat × Option Go.Addr × Nat), 1 ≤ y.fst ∧ y.fst ≤ wrL n ∧ y.fst + y.snd.fst ≤ Go.maxLen → (Decidable.decide ((↑y.fst : Int) < (↑(wrL n) : Int)) = Bool.true → ((0 : Int) ≤ (↑y.fst : Int) ∧ (↑y.fst : Int) < (↑(wrL n) : Int)) ∧ ((-9223372036854775808 : Int) ≤ K (↑y.fst : Int).toNat ∧ K (↑y.fst : Int).toNat ≤ (9223372036854775807 : Int)) ∧ ((0 : Int) < (256 : Int) ∧ (256 : Int) ≤ (1099511627776 : Int)) ∧ ((-9223372036854775808 : Int) ≤ K (↑y.fst : Int).toNat ∧ K (↑y.fst : Int).toNat ≤ (9223372036854775807 : Int)) ∧ ((-9223372036854775808 : Int) ≤ A (↑y.fst : Int).toNat ∧ A (↑y.fst : Int).toNat ≤ (9223372036854775807 : Int)) ∧ ((-9223372036854775808 : Int) ≤ B (↑y.fst : Int).toNat ∧ B (↑y.fst : Int).toNat ≤ (9223372036854775807 : Int)) ∧ ((-9223372036854775808 : Int) ≤ B (↑y.fst : Int).toNat ∧ B (↑y.fst : Int).toNat ≤ (9223372036854775807 : Int)) ∧ ((-9223372036854775808 : Int) ≤ B (↑y.fst : Int).toNat ∧ B (↑y.fst : Int).toNat ≤ (9223372036854775807 : Int)) ∧ ((-9223372036854775808 : Int) ≤ A (↑y.fst : Int).toNat ∧ A (↑y.fst : Int).toNat ≤ (9223372036854775807 : Int)) ∧ ((-9223372036854775808 : Int) ≤ A (↑y.fst : Int).toNat ∧ A (↑y.fst : Int).toNat ≤ (9223372036854775807 : Int)) ∧ ((0 : Int) < (256 : Int) ∧ (256 : Int) ≤ (1099511627776 : Int)) ∧ ∀ (_ : Nat → Go.Addr), 0 = 0 ∧ y.fst = y.fst ∧ (y.fst ≤ y.fst + y.snd.fst ∧ y.fst + y.snd.fst ≤ Go.maxLen ∧ (y.fst + y.snd.fst) * 10 = y.fst * 10 + y.snd.fst * 10) ∧ (y.fst + 1 ≤ Go.maxLen ∧ (y.fst + 1) * 80 ≤ 140737488355328) ∧ ∀ (c_1 : Nat), y.fst + 1 + c_1 ≤ Go.maxLen → ∃ (y' : Nat × Nat × Option Go.Addr × Nat), (1 ≤ y'.fst ∧ y'.fst ≤ wrL n ∧ y'.fst + y'.snd.fst ≤ Go.maxLen) ∧ (a = a ∧ wrL n = wrL n ∧ cap = cap ∧ ∀ (i : Nat), i < wrL n → simC (rawF K A B s i 0) (rawF K A B s i 0) ∧ simC (rawF K A B s i 1) (rawF K A B s i 1) ∧ simC (rawF K A B s i 2) (rawF K A B s i 2) ∧ s i = s i) ∧ (↑(wrL n) : Int) = (↑(wrL n) : Int) ∧ Go.IntKind.i64.wrap ((↑y.fst : Int) + (1 : Int)) = (↑y'.fst : Int) ∧ Go.Value.slice Option.none 0 0 = Go.Value.slice Option.none 0 0 ∧ Go.Value.slice Option.none 0 0 = Go.Value.slice Option.none 0 0 ∧ 0 = 0 ∧ ST = ST ∧ (33 = 33 ∧ 10 = 10 ∧ 0 = 0 ∧ y.fst + 1 = y'.fst ∧ y.fst + 1 + c_1 = y'.fst + y'.snd.fst) ∧ t = t ∧ b = b ∧ c = c ∧ (∀ (j : Nat), j < 32 → em' j = em' j) ∧ u = u ∧ l = l ∧ (y.snd.snd.fst = y'.snd.snd.fst ∧ m' = m' ∧ y.snd.snd.snd = y'.snd.snd.snd ∧ ∀ (i : Nat), i < m' → f' i 0 = f' i 0) ∧ 0 = 0 ∧ y.fst + 1 = y'.fst ∧ c_1 * 10 = y'.snd.fst * 10 ∧ (∀ (i : Nat), i < y.fst + 1 → (bif Decidable.decide (i < y.fst) then wrW K i else K (↑y.fst : Int).toNat % (256 : Int)) = wrW K i ∧ (bif Decidable.decide (i < y.fst) then limb (wrR K A B i) 0 else limb (rawN (K (↑y.fst : Int).toNat) (A (↑y.fst : Int).toNat) (B (↑y.fst : Int).toNat)) 0) = limb (wrR K A B i) 0 ∧ (bif Decidable.decide (i < y.fst) then limb (wrR K A B i) 1 else limb (rawN (K (↑y.fst : Int).toNat) (A (↑y.fst : Int).toNat) (B (↑y.fst : Int).toNat)) 1) = limb (wrR K A B i) 1 ∧ (bif Decidable.decide (i < y.fst) then limb (wrR K A B i) 2 else limb (rawN (K (↑y.fst : Int).toNat) (A (↑y.fst : Int).toNat) (B (↑y.fst : Int).toNat)) 2) = limb (wrR K A B i) 2 ∧ (bif Decidable.decide (i < y.fst) then limb (wrR K A B i) 3 else limb (rawN (K (↑y.fst : Int).toNat) (A (↑y.fst : Int).toNat) (B (↑y.fst : Int).toNat)) 3) = limb (wrR K A B i) 3 ∧ (bif Decidable.decide (i < y.fst) then limb (wrS A B i) 0 else limb (rawN (B (↑y.fst : Int).toNat) (B (↑y.fst : Int).toNat) (A (↑y.fst : Int).toNat)) 0) = limb (wrS A B i) 0 ∧ (bif Decidable.decide (i < y.fst) then limb (wrS A B i) 1 else limb (rawN (B (↑y.fst : Int).toNat) (B (↑y.fst : Int).toNat) (A (↑y.fst : Int).toNat)) 1) = limb (wrS A B i) 1 ∧ (bif Decidable.decide (i < y.fst) then limb (wrS A B i) 2 else limb (rawN (B (↑y.fst : Int).toNat) (B (↑y.fst : Int).toNat) (A (↑y.fst : Int).toNat)) 2) = limb (wrS A B i) 2 ∧ (bif Decidable.decide (i < y.fst) then limb (wrS A B i) 3 else limb (rawN (B (↑y.fst : Int).toNat) (B (↑y.fst : Int).toNat) (A (↑y.fst : Int).toNat)) 3) = limb (wrS A B i) 3 ∧ (bif Decidable.decide (i < y.fst) then wrO A i else A (↑y.fst : Int).toNat % (256 : Int)) = wrO A i) ∧ (wrL n - y'.fst).succ.le (wrL n - y.fst)) ∧ (Decidable.decide ((↑y.fst : Int) < (↑(wrL n) : Int)) = Bool.false → (ST = st ∧ True) ∧ (0 + y.fst ≤ y.fst ∧ y.fst = N ∧ y.fst ≤ y.fst + y.snd.fst ∧ ∀ (i : Nat), i < N → wrW K (0 + i) = w i ∧ limb (wrR K A B (0 + i)) 0 = limb (R i) 0 ∧ limb (wrR K A B (0 + i)) 1 = limb (R i) 1 ∧ limb (wrR K A B (0 + i)) 2 = limb (R i) 2 ∧ limb (wrR K A B (0 + i)) 3 = limb (R i) 3 ∧ limb (wrS A B (0 + i)) 0 = limb (S i) 0 ∧ limb (wrS A B (0 + i)) 1 = limb (S i) 1 ∧ limb (wrS A B (0 + i)) 2 = limb (S i) 2 ∧ limb (wrS A B (0 + i)) 3 = limb (S i) 3 ∧ wrO A (0 + i) = o i) ∧ (t = t1 ∧ True) ∧ (b = b1 ∧ True) ∧ (c = c1 ∧ True) ∧ ((∀ (j : Nat), j < 32 → em' j = em j) ∧ True) ∧ (u = u1 ∧ True) ∧ (l = l1 ∧ True) ∧ (m' = m ∧ ∀ (i : Nat), i < m → f' i 0 = f i 0) ∧ True)) ∧ (Decidable.decide ((0 : Int) < x3) = Bool.true → ((0 : Int) ≤ (0 : Int) ∧ (0 : Int) < x3) ∧ ((-9223372036854775808 : Int) ≤ K 0 ∧ K 0 ≤ (9223372036854775807 : Int)) ∧ ((0 : Int) < (256 : Int) ∧ (256 : Int) ≤ (1099511627776 : Int)) ∧ ((-9223372036854775808 : Int) ≤ K 0 ∧ K 0 ≤ (9223372036854775807 : Int)) ∧ ((-9223372036854775808 : Int) ≤ A 0 ∧ A 0 ≤ (9223372036854775807 : Int)) ∧ ((-9223372036854775808 : Int) ≤ B 0 ∧ B 0 ≤ (9223372036854775807 : Int)) ∧ ((-9223372036854775808 : Int) ≤ B 0 ∧ B 0 ≤ (9223372036854775807 : Int)) ∧ ((-9223372036854775808 : Int) ≤ B 0 ∧ B 0 ≤ (9223372036854775807 : Int)) ∧ ((-9223372036854775808 : Int) ≤ A 0 ∧ A 0 ≤ (9223372036854775807 : Int)) ∧ ((-9223372036854775808 : Int) ≤ A 0 ∧ A 0 ≤ (9223372036854775807 : Int)) ∧ ((0 : Int) < (256 : Int) ∧ (256 : Int) ≤ (1099511627776 : Int)) ∧ (1 ≤ Go.maxLen ∧ 80 ≤ 140737488355328) ∧ ∀ (c_1 : Nat), 1 + c_1 ≤ Go.maxLen → ∃ (y' : Nat × Nat × Option Go.Addr × Nat), (1 ≤ y'.fst ∧ y'.fst ≤ wrL n ∧ y'.fst + y'.snd.fst ≤ Go.maxLen) ∧ (a = a ∧ x2 = wrL n ∧ cap = cap ∧ ∀ (i : Nat), i < x2 → simC (rawF K A B s i 0) (rawF K A B s i 0) ∧ simC (rawF K A B s i 1) (rawF K A B s i 1) ∧ simC (rawF K A B s i 2) (rawF K A B s i 2) ∧ s i = s i) ∧ x3 = (↑(wrL n) : Int) ∧ (1 : Int) = (↑y'.fst : Int) ∧ Go.Value.slice Option.none 0 0 = Go.Value.slice Option.none 0 0 ∧ Go.Value.slice Option.none 0 0 = Go.Value.slice Option.none 0 0 ∧ 0 = 0 ∧ set % (4294967296 : Int) = ST ∧ (33 = 33 ∧ 10 = 10 ∧ 0 = 0 ∧ 1 = y'.fst ∧ 1 + c_1 = y'.fst + y'.snd.fst) ∧ xa % (1000 : Int) = t ∧ xb % (4294967296 : Int) = b ∧ xk % (65536 : Int) = c ∧ (∀ (j : Nat), j < 32 → wordF xa xb xs j = em' j) ∧ Go.IntKind.i64.wrap (xa * xb) % (1099511627776 : Int) = u ∧ xk % (256 : Int) = l ∧ (a_2 = y'.snd.snd.fst ∧ cutL xs = m' ∧ cap_1 = y'.snd.snd.snd ∧ ∀ (i : Nat), i < cutL xs → cutF xs i = f' i 0) ∧ 0 = 0 ∧ 1 = y'.fst ∧ c_1 * 10 = y'.snd.fst * 10 ∧ (∀ (i : Nat), i < 1 → K 0 % (256 : Int) = wrW K i ∧ limb (rawN (K 0) (A 0) (B 0)) 0 = limb (wrR K A B i) 0 ∧ limb (rawN (K 0) (A 0) (B 0)) 1 = limb (wrR K A B i) 1 ∧ limb (rawN (K 0) (A 0) (B 0)) 2 = limb (wrR K A B i) 2 ∧ limb (rawN (K 0) (A 0) (B 0)) 3 = limb (wrR K A B i) 3 ∧ limb (rawN (B 0) (B 0) (A 0)) 0 = limb (wrS A B i) 0 ∧ limb (rawN (B 0) (B 0) (A 0)) 1 = limb (wrS A B i) 1 ∧ limb (rawN (B 0) (B 0) (A 0)) 2 = limb (wrS A B i) 2 ∧ limb (rawN (B 0) (B 0) (A 0)) 3 = limb (wrS A B i) 3 ∧ A 0 % (256 : Int) = wrO A i) ∧ True) ∧ (Decidable.decide ((0 : Int) < x3) = Bool.false → (set % (4294967296 : Int) = st ∧ True) ∧ N = 0 ∧ (xa % (1000 : Int) = t1 ∧ True) ∧ (xb % (4294967296 : Int) = b1 ∧ True) ∧ (xk % (65536 : Int) = c1 ∧ True) ∧ ((∀ (j : Nat), j < 32 → wordF xa xb xs j = em j) ∧ True) ∧ (Go.IntKind.i64.wrap (xa * xb) % (1099511627776 : Int) = u1 ∧ True) ∧ (xk % (256 : Int) = l1 ∧ True) ∧ (cutL xs = m ∧ ∀ (i : Nat), i < m → cutF xs i = f i 0) ∧ True)) ∧ xk = xk ∧ xa = xa ∧ xb = xb ∧ xs = xs ∧ rawP xk xa xb xs ∧ ∀ (a_2 : Option Go.Addr) (cap_1 : Nat), (a_2 = Option.none → cutL xs = 0 ∧ cap_1 = 0) → cutL xs ≤ cap_1 → ((0 : Int) ≤ x1 ∧ x1 ≤ (↑n : Int)) ∧ (∀ (y : Nat × Nat × Option Go.Addr × Nat), closedB (slotsAt 47 [(6, SV.one (SA.sc (SC.ptr 0 0))), (7, SV.one (SA.sc (SC.ptr 6 0))), (16, SV.one (SA.sc (SC.xs a (wrL n) cap 4 (rawF K A B s)))), (17, SV.one (sI Go.IntKind.i64 (↑(wrL n) : Int))), (18, SV.one (sI Go.IntKind.i64 (↑y.fst : Int)))]) ([SO.cells (46 : Go.TypeId) zPap 0] ++ List.replicate 5 SO.dead ++ [SO.cells (46 : Go.TypeId) [SK.c (SC.val (Go.Value.int Go.IntKind.i64 ST)), SK.c (SC.slw 33 10 0 y.fst (y.fst + y.snd.fst)), SK.c (SC.val (Go.Value.int Go.IntKind.i64 t)), SK.c (SC.val (Go.Value.int Go.IntKind.i64 b)), SK.c (SC.val (Go.Value.int Go.IntKind.i64 c)), SK.f Go.IntKind.u8 32 em', SK.c (SC.val (Go.Value.int Go.IntKind.i64 u)), SK.c (SC.val (Go.Value.int Go.IntKind.i64 l)), SK.c (SC.xs y.snd.snd.fst m' y.snd.snd.snd 1 (u8F f'))] 0] ++ List.replicate 26 SO.dead ++ [SO.row (59 : Go.TypeId) 10 y.fst (sgnF (wrW K) (wrR K A B) (wrS A B) (wrO A)) (y.snd.fst * 10)]) = Bool.true) ∧ (∀ (y : Nat × Nat × Option Go.Addr × Nat), 1 ≤ y.fst ∧ y.fst ≤ wrL n ∧ y.fst + y.snd.fst ≤ Go.maxLen → (Decidable.decide ((↑y.fst : Int) < (↑(wrL n) : Int)) = Bool.true → ((0 : Int) ≤ (↑y.fst : Int) ∧ (↑y.fst : Int) < (↑(wrL n) : Int)) ∧ ((-9223372036854775808 : Int) ≤ K (↑y.fst : Int).toNat ∧ K (↑y.fst : Int).toNat ≤ (9223372036854775807 : Int)) ∧ ((0 : Int) < (256 : Int) ∧ (256 : Int) ≤ (1099511627776 : Int)) ∧ ((-9223372036854775808 : Int) ≤ K (↑y.fst : Int).toNat ∧ K (↑y.fst : Int).toNat ≤ (9223372036854775807 : Int)) ∧ ((-9223372036854775808 : Int) ≤ A (↑y.fst : Int).toNat ∧ A (↑y.fst : Int).toNat ≤ (9223372036854775807 : Int)) ∧ ((-9223372036854775808 : Int) ≤ B (↑y.fst : Int).toNat ∧ B (↑y.fst : Int).toNat ≤ (9223372036854775807 : Int)) ∧ ((-9223372036854775808 : Int) ≤ B (↑y.fst : Int).toNat ∧ B (↑y.fst : Int).toNat ≤ (9223372036854775807 : Int)) ∧ ((-9223372036854775808 : Int) ≤ B (↑y.fst : Int).toNat ∧ B (↑y.fst : Int).toNat ≤ (9223372036854775807 : Int)) ∧ ((-9223372036854775808 : Int) ≤ A (↑y.fst : Int).toNat ∧ A (↑y.fst : Int).toNat ≤ (9223372036854775807 : Int)) ∧ ((-9223372036854775808 : Int) ≤ A (↑y.fst : Int).toNat ∧ A (↑y.fst : Int).toNat ≤ (9223372036854775807 : Int)) ∧ ((0 : Int) < (256 : Int) ∧ (256 : Int) ≤ (1099511627776 : Int)) ∧ ∀ (_ : Nat → Go.Addr), 0 = 0 ∧ y.fst = y.fst ∧ (y.fst ≤ y.fst + y.snd.fst ∧ y.fst + y.snd.fst ≤ Go.maxLen ∧ (y.fst + y.snd.fst) * 10 = y.fst * 10 + y.snd.fst * 10) ∧ (y.fst + 1 ≤ Go.maxLen ∧ (y.fst + 1) * 80 ≤ 140737488355328) ∧ ∀ (c_1 : Nat), y.fst + 1 + c_1 ≤ Go.maxLen → ∃ (y' : Nat × Nat × Option Go.Addr × Nat), (1 ≤ y'.fst ∧ y'.fst ≤ wrL n ∧ y'.fst + y'.snd.fst ≤ Go.maxLen) ∧ (a = a ∧ wrL n = wrL n ∧ cap = cap ∧ ∀ (i : Nat), i < wrL n → simC (rawF K A B s i 0) (rawF K A B s i 0) ∧ simC (rawF K A B s i 1) (rawF K A B s i 1) ∧ simC (rawF K A B s i 2) (rawF K A B s i 2) ∧ s i = s i) ∧ (↑(wrL n) : Int) = (↑(wrL n) : Int) ∧ Go.IntKind.i64.wrap ((↑y.fst : Int) + (1 : Int)) = (↑y'.fst : Int) ∧ Go.Value.slice Option.none 0 0 = Go.Value.slice Option.none 0 0 ∧ Go.Value.slice Option.none 0 0 = Go.Value.slice Option.none 0 0 ∧ 0 = 0 ∧ ST = ST ∧ (33 = 33 ∧ 10 = 10 ∧ 0 = 0 ∧ y.fst + 1 = y'.fst ∧ y.fst + 1 + c_1 = y'.fst + y'.snd.fst) ∧ t = t ∧ b = b ∧ c = c ∧ (∀ (j : Nat), j < 32 → em' j = em' j) ∧ u = u ∧ l = l ∧ (y.snd.snd.fst = y'.snd.snd.fst ∧ m' = m' ∧ y.snd.snd.snd = y'.snd.snd.snd ∧ ∀ (i : Nat), i < m' → f' i 0 = f' i 0) ∧ 0 = 0 ∧ y.fst + 1 = y'.fst ∧ c_1 * 10 = y'.snd.fst * 10 ∧ (∀ (i : Nat), i < y.fst + 1 → (bif Decidable.decide (i < y.fst) then wrW K i else K (↑y.fst : Int).toNat % (256 : Int)) = wrW K i ∧ (bif Decidable.decide (i < y.fst) then limb (wrR K A B i) 0 else limb (rawN (K (↑y.fst : Int).toNat) (A (↑y.fst : Int).toNat) (B (↑y.fst : Int).toNat)) 0) = limb (wrR K A B i) 0 ∧ (bif Decidable.decide (i < y.fst) then limb (wrR K A B i) 1 else limb (rawN (K (↑y.fst : Int).toNat) (A (↑y.fst : Int).toNat) (B (↑y.fst : Int).toNat)) 1) = limb (wrR K A B i) 1 ∧ (bif Decidable.decide (i < y.fst) then limb (wrR K A B i) 2 else limb (rawN (K (↑y.fst : Int).toNat) (A (↑y.fst : Int).toNat) (B (↑y.fst : Int).toNat)) 2) = limb (wrR K A B i) 2 ∧ (bif Decidable.decide (i < y.fst) then limb (wrR K A B i) 3 else limb (rawN (K (↑y.fst : Int).toNat) (A (↑y.fst : Int).toNat) (B (↑y.fst : Int).toNat)) 3) = limb (wrR K A B i) 3 ∧ (bif Decidable.decide (i < y.fst) then limb (wrS A B i) 0 else limb (rawN (B (↑y.fst : Int).toNat) (B (↑y.fst : Int).toNat) (A (↑y.fst : Int).toNat)) 0) = limb (wrS A B i) 0 ∧ (bif Decidable.decide (i < y.fst) then limb (wrS A B i) 1 else limb (rawN (B (↑y.fst : Int).toNat) (B (↑y.fst : Int).toNat) (A (↑y.fst : Int).toNat)) 1) = limb (wrS A B i) 1 ∧ (bif Decidable.decide (i < y.fst) then limb (wrS A B i) 2 else limb (rawN (B (↑y.fst : Int).toNat) (B (↑y.fst : Int).toNat) (A (↑y.fst : Int).toNat)) 2) = limb (wrS A B i) 2 ∧ (bif Decidable.decide (i < y.fst) then limb (wrS A B i) 3 else limb (rawN (B (↑y.fst : Int).toNat) (B (↑y.fst : Int).toNat) (A (↑y.fst : Int).toNat)) 3) = limb (wrS A B i) 3 ∧ (bif Decidable.decide (i < y.fst) then wrO A i else A (↑y.fst : Int).toNat % (256 : Int)) = wrO A i) ∧ (wrL n - y'.fst).succ.le (wrL n - y.fst)) ∧ (Decidable.decide ((↑y.fst : Int) < (↑(wrL n) : Int)) = Bool.false → (ST = st ∧ True) ∧ (0 + y.fst ≤ y.fst ∧ y.fst = N ∧ y.fst ≤ y.fst + y.snd.fst ∧ ∀ (i : Nat), i < N → wrW K (0 + i) = w i ∧ limb (wrR K A B (0 + i)) 0 = limb (R i) 0 ∧ limb (wrR K A B (0 + i)) 1 = limb (R i) 1 ∧ limb (wrR K A B (0 + i)) 2 = limb (R i) 2 ∧ limb (wrR K A B (0 + i)) 3 = limb (R i) 3 ∧ limb (wrS A B (0 + i)) 0 = limb (S i) 0 ∧ limb (wrS A B (0 + i)) 1 = limb (S i) 1 ∧ limb (wrS A B (0 + i)) 2 = limb (S i) 2 ∧ limb (wrS A B (0 + i)) 3 = limb (S i) 3 ∧ wrO A (0 + i) = o i) ∧ (t = t1 ∧ True) ∧ (b = b1 ∧ True) ∧ (c = c1 ∧ True) ∧ ((∀ (j : Nat), j < 32 → em' j = em j) ∧ True) ∧ (u = u1 ∧ True) ∧ (l = l1 ∧ True) ∧ (m' = m ∧ ∀ (i : Nat), i < m → f' i 0 = f i 0) ∧ True)) ∧ (Decidable.decide ((0 : Int) < x3) = Bool.true → ((0 : Int) ≤ (0 : Int) ∧ (0 : Int) < x3) ∧ ((-9223372036854775808 : Int) ≤ K 0 ∧ K 0 ≤ (9223372036854775807 : Int)) ∧ ((0 : Int) < (256 : Int) ∧ (256 : Int) ≤ (1099511627776 : Int)) ∧ ((-9223372036854775808 : Int) ≤ K 0 ∧ K 0 ≤ (9223372036854775807 : Int)) ∧ ((-9223372036854775808 : Int) ≤ A 0 ∧ A 0 ≤ (9223372036854775807 : Int)) ∧ ((-9223372036854775808 : Int) ≤ B 0 ∧ B 0 ≤ (9223372036854775807 : Int)) ∧ ((-9223372036854775808 : Int) ≤ B 0 ∧ B 0 ≤ (9223372036854775807 : Int)) ∧ ((-9223372036854775808 : Int) ≤ B 0 ∧ B 0 ≤ (9223372036854775807 : Int)) ∧ ((-9223372036854775808 : Int) ≤ A 0 ∧ A 0 ≤ (9223372036854775807 : Int)) ∧ ((-9223372036854775808 : Int) ≤ A 0 ∧ A 0 ≤ (9223372036854775807 : Int)) ∧ ((0 : Int) < (256 : Int) ∧ (256 : Int) ≤ (1099511627776 : Int)) ∧ (1 ≤ Go.maxLen ∧ 80 ≤ 140737488355328) ∧ ∀ (c_1 : Nat), 1 + c_1 ≤ Go.maxLen → ∃ (y' : Nat × Nat × Option Go.Addr × Nat), (1 ≤ y'.fst ∧ y'.fst ≤ wrL n ∧ y'.fst + y'.snd.fst ≤ Go.maxLen) ∧ (a = a ∧ x2 = wrL n ∧ cap = cap ∧ ∀ (i : Nat), i < x2 → simC (rawF K A B s i 0) (rawF K A B s i 0) ∧ simC (rawF K A B s i 1) (rawF K A B s i 1) ∧ simC (rawF K A B s i 2) (rawF K A B s i 2) ∧ s i = s i) ∧ x3 = (↑(wrL n) : Int) ∧ (1 : Int) = (↑y'.fst : Int) ∧ Go.Value.slice Option.none 0 0 = Go.Value.slice Option.none 0 0 ∧ Go.Value.slice Option.none 0 0 = Go.Value.slice Option.none 0 0 ∧ 0 = 0 ∧ set % (4294967296 : Int) = ST ∧ (33 = 33 ∧ 10 = 10 ∧ 0 = 0 ∧ 1 = y'.fst ∧ 1 + c_1 = y'.fst + y'.snd.fst) ∧ xa % (1000 : Int) = t ∧ xb % (4294967296 : Int) = b ∧ xk % (65536 : Int) = c ∧ (∀ (j : Nat), j < 32 → wordF xa xb xs j = em' j) ∧ Go.IntKind.i64.wrap (xa * xb) % (1099511627776 : Int) = u ∧ xk % (256 : Int) = l ∧ (a_2 = y'.snd.snd.fst ∧ cutL xs = m' ∧ cap_1 = y'.snd.snd.snd ∧ ∀ (i : Nat), i < cutL xs → cutF xs i = f' i 0) ∧ 0 = 0 ∧ 1 = y'.fst ∧ c_1 * 10 = y'.snd.fst * 10 ∧ (∀ (i : Nat), i < 1 → K 0 % (256 : Int) = wrW K i ∧ limb (rawN (K 0) (A 0) (B 0)) 0 = limb (wrR K A B i) 0 ∧ limb (rawN (K 0) (A 0) (B 0)) 1 = limb (wrR K A B i) 1 ∧ limb (rawN (K 0) (A 0) (B 0)) 2 = limb (wrR K A B i) 2 ∧ limb (rawN (K 0) (A 0) (B 0)) 3 = limb (wrR K A B i) 3 ∧ limb (rawN (B 0) (B 0) (A 0)) 0 = limb (wrS A B i) 0 ∧ limb (rawN (B 0) (B 0) (A 0)) 1 = limb (wrS A B i) 1 ∧ limb (rawN (B 0) (B 0) (A 0)) 2 = limb (wrS A B i) 2 ∧ limb (rawN (B 0) (B 0) (A 0)) 3 = limb (wrS A B i) 3 ∧ A 0 % (256 : Int) = wrO A i) ∧ True) ∧ (Decidable.decide ((0 : Int) < x3) = Bool.false → (set % (4294967296 : Int) = st ∧ True) ∧ N = 0 ∧ (xa % (1000 : Int) = t1 ∧ True) ∧ (xb % (4294967296 : Int) = b1 ∧ True) ∧ (xk % (65536 : Int) = c1 ∧ True) ∧ ((∀ (j : Nat), j < 32 → wordF xa xb xs j = em j) ∧ True) ∧ (Go.IntKind.i64.wrap (xa * xb) % (1099511627776 : Int) = u1 ∧ True) ∧ (xk % (256 : Int) = l1 ∧ True) ∧ (cutL xs = m ∧ ∀ (i : Nat), i < m → cutF xs i = f i 0) ∧ True)) ∧ ((-9223372036854775808 : Int) ≤ set ∧ set ≤ (9223372036854775807 : Int)) ∧ ((0 : Int) < (4294967296 : Int) ∧ (4294967296 : Int) ≤ (1099511627776 : Int)) ∧ xk = xk ∧ xa = xa ∧ xb = xb ∧ xs = xs ∧ rawP xk xa xb xs ∧ ∀ (a_2 : Option Go.Addr) (cap_1 : Nat), (a_2 = Option.none → cutL xs = 0 ∧ cap_1 = 0) → cutL xs ≤ cap_1 → ((0 : Int) ≤ x1 ∧ x1 ≤ (↑n : Int)) ∧ (∀ (y : Nat × Nat × Option Go.Addr × Nat), closedB (slotsAt 47 [(6, SV.one (SA.sc (SC.ptr 0 0))), (7, SV.one (SA.sc (SC.ptr 6 0))), (16, SV.one (SA.sc (SC.xs a (wrL n) cap 4 (rawF K A B s)))), (17, SV.one (sI Go.IntKind.i64 (↑(wrL n) : Int))), (18, SV.one (sI Go.IntKind.i64 (↑y.fst : Int)))]) ([SO.cells (46 : Go.TypeId) zPap 0] ++ List.replicate 5 SO.dead ++ [SO.cells (46 : Go.TypeId) [SK.c (SC.val (Go.Value.int Go.IntKind.i64 ST)), SK.c (SC.slw 33 10 0 y.fst (y.fst + y.snd.fst)), SK.c (SC.val (Go.Value.int Go.IntKind.i64 t)), SK.c (SC.val (Go.Value.int Go.IntKind.i64 b)), SK.c (SC.val (Go.Value.int Go.IntKind.i64 c)), SK.f Go.IntKind.u8 32 em', SK.c (SC.val (Go.Value.int Go.IntKind.i64 u)), SK.c (SC.val (Go.Value.int Go.IntKind.i64 l)), SK.c (SC.xs y.snd.snd.fst m' y.snd.snd.snd 1 (u8F f'))] 0] ++ List.replicate 26 SO.dead ++ [SO.row (59 : Go.TypeId) 10 y.fst (sgnF (wrW K) (wrR K A B) (wrS A B) (wrO A)) (y.snd.fst * 10)]) = Bool.true) ∧ (∀ (y : Nat × Nat × Option Go.Addr × Nat), 1 ≤ y.fst ∧ y.fst ≤ wrL n ∧ y.fst + y.snd.fst ≤ Go.maxLen → (Decidable.decide ((↑y.fst : Int) < (↑(wrL n) : Int)) = Bool.true → ((0 : Int) ≤ (↑y.fst : Int) ∧ (↑y.fst : Int) < (↑(wrL n) : Int)) ∧ ((-9223372036854775808 : Int) ≤ K (↑y.fst : Int).toNat ∧ K (↑y.fst : Int).toNat ≤ (9223372036854775807 : Int)) ∧ ((0 : Int) < (256 : Int) ∧ (256 : Int) ≤ (1099511627776 : Int)) ∧ ((-9223372036854775808 : Int) ≤ K (↑y.fst : Int).toNat ∧ K (↑y.fst : Int).toNat ≤ (9223372036854775807 : Int)) ∧ ((-9223372036854775808 : Int) ≤ A (↑y.fst : Int).toNat ∧ A (↑y.fst : Int).toNat ≤ (9223372036854775807 : Int)) ∧ ((-9223372036854775808 : Int) ≤ B (↑y.fst : Int).toNat ∧ B (↑y.fst : Int).toNat ≤ (9223372036854775807 : Int)) ∧ ((-9223372036854775808 : Int) ≤ B (↑y.fst : Int).toNat ∧ B (↑y.fst : Int).toNat ≤ (9223372036854775807 : Int)) ∧ ((-9223372036854775808 : Int) ≤ B (↑y.fst : Int).toNat ∧ B (↑y.fst : Int).toNat ≤ (9223372036854775807 : Int)) ∧ ((-9223372036854775808 : Int) ≤ A (↑y.fst : Int).toNat ∧ A (↑y.fst : Int).toNat ≤ (9223372036854775807 : Int)) ∧ ((-9223372036854775808 : Int) ≤ A (↑y.fst : Int).toNat ∧ A (↑y.fst : Int).toNat ≤ (9223372036854775807 : Int)) ∧ ((0 : Int) < (256 : Int) ∧ (256 : Int) ≤ (1099511627776 : Int)) ∧ ∀ (_ : Nat → Go.Addr), 0 = 0 ∧ y.fst = y.fst ∧ (y.fst ≤ y.fst + y.snd.fst ∧ y.fst + y.snd.fst ≤ Go.maxLen ∧ (y.fst + y.snd.fst) * 10 = y.fst * 10 + y.snd.fst * 10) ∧ (y.fst + 1 ≤ Go.maxLen ∧ (y.fst + 1) * 80 ≤ 140737488355328) ∧ ∀ (c_1 : Nat), y.fst + 1 + c_1 ≤ Go.maxLen → ∃ (y' : Nat × Nat × Option Go.Addr × Nat), (1 ≤ y'.fst ∧ y'.fst ≤ wrL n ∧ y'.fst + y'.snd.fst ≤ Go.maxLen) ∧ (a = a ∧ wrL n = wrL n ∧ cap = cap ∧ ∀ (i : Nat), i < wrL n → simC (rawF K A B s i 0) (rawF K A B s i 0) ∧ simC (rawF K A B s i 1) (rawF K A B s i 1) ∧ simC (rawF K A B s i 2) (rawF K A B s i 2) ∧ s i = s i) ∧ (↑(wrL n) : Int) = (↑(wrL n) : Int) ∧ Go.IntKind.i64.wrap ((↑y.fst : Int) + (1 : Int)) = (↑y'.fst : Int) ∧ Go.Value.slice Option.none 0 0 = Go.Value.slice Option.none 0 0 ∧ Go.Value.slice Option.none 0 0 = Go.Value.slice Option.none 0 0 ∧ 0 = 0 ∧ ST = ST ∧ (33 = 33 ∧ 10 = 10 ∧ 0 = 0 ∧ y.fst + 1 = y'.fst ∧ y.fst + 1 + c_1 = y'.fst + y'.snd.fst) ∧ t = t ∧ b = b ∧ c = c ∧ (∀ (j : Nat), j < 32 → em' j = em' j) ∧ u = u ∧ l = l ∧ (y.snd.snd.fst = y'.snd.snd.fst ∧ m' = m' ∧ y.snd.snd.snd = y'.snd.snd.snd ∧ ∀ (i : Nat), i < m' → f' i 0 = f' i 0) ∧ 0 = 0 ∧ y.fst + 1 = y'.fst ∧ c_1 * 10 = y'.snd.fst * 10 ∧ (∀ (i : Nat), i < y.fst + 1 → (bif Decidable.decide (i < y.fst) then wrW K i else K (↑y.fst : Int).toNat % (256 : Int)) = wrW K i ∧ (bif Decidable.decide (i < y.fst) then limb (wrR K A B i) 0 else limb (rawN (K (↑y.fst : Int).toNat) (A (↑y.fst : Int).toNat) (B (↑y.fst : Int).toNat)) 0) = limb (wrR K A B i) 0 ∧ (bif Decidable.decide (i < y.fst) then limb (wrR K A B i) 1 else limb (rawN (K (↑y.fst : Int).toNat) (A (↑y.fst : Int).toNat) (B (↑y.fst : Int).toNat)) 1) = limb (wrR K A B i) 1 ∧ (bif Decidable.decide (i < y.fst) then limb (wrR K A B i) 2 else limb (rawN (K (↑y.fst : Int).toNat) (A (↑y.fst : Int).toNat) (B (↑y.fst : Int).toNat)) 2) = limb (wrR K A B i) 2 ∧ (bif Decidable.decide (i < y.fst) then limb (wrR K A B i) 3 else limb (rawN (K (↑y.fst : Int).toNat) (A (↑y.fst : Int).toNat) (B (↑y.fst : Int).toNat)) 3) = limb (wrR K A B i) 3 ∧ (bif Decidable.decide (i < y.fst) then limb (wrS A B i) 0 else limb (rawN (B (↑y.fst : Int).toNat) (B (↑y.fst : Int).toNat) (A (↑y.fst : Int).toNat)) 0) = limb (wrS A B i) 0 ∧ (bif Decidable.decide (i < y.fst) then limb (wrS A B i) 1 else limb (rawN (B (↑y.fst : Int).toNat) (B (↑y.fst : Int).toNat) (A (↑y.fst : Int).toNat)) 1) = limb (wrS A B i) 1 ∧ (bif Decidable.decide (i < y.fst) then limb (wrS A B i) 2 else limb (rawN (B (↑y.fst : Int).toNat) (B (↑y.fst : Int).toNat) (A (↑y.fst : Int).toNat)) 2) = limb (wrS A B i) 2 ∧ (bif Decidable.decide (i < y.fst) then limb (wrS A B i) 3 else limb (rawN (B (↑y.fst : Int).toNat) (B (↑y.fst : Int).toNat) (A (↑y.fst : Int).toNat)) 3) = limb (wrS A B i) 3 ∧ (bif Decidable.decide (i < y.fst) then wrO A i else A (↑y.fst : Int).toNat % (256 : Int)) = wrO A i) ∧ (wrL n - y'.fst).succ.le (wrL n - y.fst)) ∧ (Decidable.decide ((↑y.fst : Int) < (↑(wrL n) : Int)) = Bool.false → (ST = st ∧ True) ∧ (0 + y.fst ≤ y.fst ∧ y.fst = N ∧ y.fst ≤ y.fst + y.snd.fst ∧ ∀ (i : Nat), i < N → wrW K (0 + i) = w i ∧ limb (wrR K A B (0 + i)) 0 = limb (R i) 0 ∧ limb (wrR K A B (0 + i)) 1 = limb (R i) 1 ∧ limb (wrR K A B (0 + i)) 2 = limb (R i) 2 ∧ limb (wrR K A B (0 + i)) 3 = limb (R i) 3 ∧ limb (wrS A B (0 + i)) 0 = limb (S i) 0 ∧ limb (wrS A B (0 + i)) 1 = limb (S i) 1 ∧ limb (wrS A B (0 + i)) 2 = limb (S i) 2 ∧ limb (wrS A B (0 + i)) 3 = limb (S i) 3 ∧ wrO A (0 + i) = o i) ∧ (t = t1 ∧ True) ∧ (b = b1 ∧ True) ∧ (c = c1 ∧ True) ∧ ((∀ (j : Nat), j < 32 → em' j = em j) ∧ True) ∧ (u = u1 ∧ True) ∧ (l = l1 ∧ True) ∧ (m' = m ∧ ∀ (i : Nat), i < m → f' i 0 = f i 0) ∧ True)) ∧ (Decidable.decide ((0 : Int) < x3) = Bool.true → ((0 : Int) ≤ (0 : Int) ∧ (0 : Int) < x3) ∧ ((-9223372036854775808 : Int) ≤ K 0 ∧ K 0 ≤ (9223372036854775807 : Int)) ∧ ((0 : Int) < (256 : Int) ∧ (256 : Int) ≤ (1099511627776 : Int)) ∧ ((-9223372036854775808 : Int) ≤ K 0 ∧ K 0 ≤ (9223372036854775807 : Int)) ∧ ((-9223372036854775808 : Int) ≤ A 0 ∧ A 0 ≤ (9223372036854775807 : Int)) ∧ ((-9223372036854775808 : Int) ≤ B 0 ∧ B 0 ≤ (9223372036854775807 : Int)) ∧ ((-9223372036854775808 : Int) ≤ B 0 ∧ B 0 ≤ (9223372036854775807 : Int)) ∧ ((-9223372036854775808 : Int) ≤ B 0 ∧ B 0 ≤ (9223372036854775807 : Int)) ∧ ((-9223372036854775808 : Int) ≤ A 0 ∧ A 0 ≤ (9223372036854775807 : Int)) ∧ ((-9223372036854775808 : Int) ≤ A 0 ∧ A 0 ≤ (9223372036854775807 : Int)) ∧ ((0 : Int) < (256 : Int) ∧ (256 : Int) ≤ (1099511627776 : Int)) ∧ (1 ≤ Go.maxLen ∧ 80 ≤ 140737488355328) ∧ ∀ (c_1 : Nat), 1 + c_1 ≤ Go.maxLen → ∃ (y' : Nat × Nat × Option Go.Addr × Nat), (1 ≤ y'.fst ∧ y'.fst ≤ wrL n ∧ y'.fst + y'.snd.fst ≤ Go.maxLen) ∧ (a = a ∧ x2 = wrL n ∧ cap = cap ∧ ∀ (i : Nat), i < x2 → simC (rawF K A B s i 0) (rawF K A B s i 0) ∧ simC (rawF K A B s i 1) (rawF K A B s i 1) ∧ simC (rawF K A B s i 2) (rawF K A B s i 2) ∧ s i = s i) ∧ x3 = (↑(wrL n) : Int) ∧ (1 : Int) = (↑y'.fst : Int) ∧ Go.Value.slice Option.none 0 0 = Go.Value.slice Option.none 0 0 ∧ Go.Value.slice Option.none 0 0 = Go.Value.slice Option.none 0 0 ∧ 0 = 0 ∧ set % (4294967296 : Int) = ST ∧ (33 = 33 ∧ 10 = 10 ∧ 0 = 0 ∧ 1 = y'.fst ∧ 1 + c_1 = y'.fst + y'.snd.fst) ∧ xa % (1000 : Int) = t ∧ xb % (4294967296 : Int) = b ∧ xk % (65536 : Int) = c ∧ (∀ (j : Nat), j < 32 → wordF xa xb xs j = em' j) ∧ Go.IntKind.i64.wrap (xa * xb) % (1099511627776 : Int) = u ∧ xk % (256 : Int) = l ∧ (a_2 = y'.snd.snd.fst ∧ cutL xs = m' ∧ cap_1 = y'.snd.snd.snd ∧ ∀ (i : Nat), i < cutL xs → cutF xs i = f' i 0) ∧ 0 = 0 ∧ 1 = y'.fst ∧ c_1 * 10 = y'.snd.fst * 10 ∧ (∀ (i : Nat), i < 1 → K 0 % (256 : Int) = wrW K i ∧ limb (rawN (K 0) (A 0) (B 0)) 0 = limb (wrR K A B i) 0 ∧ limb (rawN (K 0) (A 0) (B 0)) 1 = limb (wrR K A B i) 1 ∧ limb (rawN (K 0) (A 0) (B 0)) 2 = limb (wrR K A B i) 2 ∧ limb (rawN (K 0) (A 0) (B 0)) 3 = limb (wrR K A B i) 3 ∧ limb (rawN (B 0) (B 0) (A 0)) 0 = limb (wrS A B i) 0 ∧ limb (rawN (B 0) (B 0) (A 0)) 1 = limb (wrS A B i) 1 ∧ limb (rawN (B 0) (B 0) (A 0)) 2 = limb (wrS A B i) 2 ∧ limb (rawN (B 0) (B 0) (A 0)) 3 = limb (wrS A B i) 3 ∧ A 0 % (256 : Int) = wrO A i) ∧ True) ∧ (Decidable.decide ((0 : Int) < x3) = Bool.false → (set % (4294967296 : Int) = st ∧ True) ∧ N = 0 ∧ (xa % (1000 : Int) = t1 ∧ True) ∧ (xb % (4294967296 : Int) = b1 ∧ True) ∧ (xk % (65536 : Int) = c1 ∧ True) ∧ ((∀ (j : Nat), j < 32 → wordF xa xb xs j = em j) ∧ True) ∧ (Go.IntKind.i64.wrap (xa * xb) % (1099511627776 : Int) = u1 ∧ True) ∧ (xk % (256 : Int) = l1 ∧ True) ∧ (cutL xs = m ∧ ∀ (i : Nat), i < m → cutF xs i = f i 0) ∧ True)) := by kernel_rfl
end Go.Proofs.Ytajfifmlkgojnaa
end

section
namespace Go.Proofs.Ytajfifmlkgojnaa
open Go.Sx
set_option maxRecDepth 100000
def nOf (f : Nat → Nat → SC) (c i : Nat) : Int := match f i c with | .val (.int _ v) => v | _ => 0
def tOf (f : Nat → Nat → SC) (i : Nat) : ByteArray := match f i 3 with | .val (.string s) => s | _ => ⟨#[]⟩
def shWr : List AQ := [.one (.x 4), .one (.i .i64), .st [.i .i64, .i .i64, .i .i64, .t]]
structure wrP (ad : Option Addr) (n : Nat) (f : Nat → Nat → SC) (set k a b : Int) (s : ByteArray) : Prop where
  nf : f = rawF (nOf f 0) (nOf f 1) (nOf f 2) (tOf f)
  rk : ∀ i, i < n → i64ok (nOf f 0 i) ∧ i64ok (nOf f 1 i) ∧ i64ok (nOf f 2 i)
  rs : i64ok set
  rr : rawP k a b s
  ha : ad = none → n = 0
def wrC : List (List FD) → List Prop
  | [[.x ad n _ f], [.i set], [.i k, .i a, .i b, .t s]] => [wrP ad n f set k a b s]
  | _ => [False]
def pF (f : Nat → Nat → SC) : Nat → Nat → SC := sgnF (wrW (nOf f 0)) (wrR (nOf f 0) (nOf f 1) (nOf f 2)) (wrS (nOf f 1) (nOf f 2)) (wrO (nOf f 1))
def bF (s : ByteArray) : Nat → Nat → SC := u8F fun i _ => cutF s i
def wrRS (n : Nat) (f : Nat → Nat → SC) (set k a b : Int) (s : ByteArray) : List RS :=
  [.st [.k (.c (.val (.int .i64 (set % 4294967296)))), .s (wrL n) 10 (pF f), .k (.c (.val (.int .i64 (a % 1000)))), .k (.c (.val (.int .i64 (b % 4294967296)))), .k (.c (.val (.int .i64 (k % 65536)))), .k (.f .u8 32 (wordF a b s)), .k (.c (.val (.int .i64 (IntKind.i64.wrap (a * b) % 1099511627776)))), .k (.c (.val (.int .i64 (k % 256)))), .s (cutL s) 1 (bF s)]]
def wrG : List (List FD) → List RS
  | [[.x _ n _ f], [.i set], [.i k, .i a, .i b, .t s]] => wrRS n f set k a b s
  | _ => []
def cWr : SSpec := specQ true shWr id wrC wrG
def eN (s : Int) (y : Nat) (f2 : Nat → Nat → SC) (t n c u l : Int) (m : Nat) : Nat := encN s y (wOf f2) (oOf f2) t n c u l m
def eF (s : Int) (y : Nat) (f2 : Nat → Nat → SC) (t n c : Int) (em : Nat → Int) (u l : Int) (f : Nat → Nat → SC) : Nat → Int := encF s y (wOf f2) (ROf f2) (SOf f2) (oOf f2) t n c em u l (kOf f)
def eE (s : Int) (y : Nat) (f2 : Nat → Nat → SC) (t n c u l : Int) (m : Nat) : Int := papE s y (wOf f2) (oOf f2) t n c u l m
def encI : List (List FD) → List RS
  | [[.i s, .x _ y _ f2, .i t, .i n, .i c, .y em, .i u, .i l, .x _ m _ f]] => [.s (eN s y f2 t n c u l m) .u8 (eF s y f2 t n c em u l f), .v (sI .i64 (eE s y f2 t n c u l m))]
  | _ => []
def cEnI : SSpec := specQ false shPap id papC encI
def fz (f : Nat → Nat → SC) (i : Nat) : Int := kOf f i 0
def qS (n : Nat) (f : Nat → Nat → SC) : Int := dI n (fz f) (numB (fz f) 1 4)
def qN (n : Nat) (f : Nat → Nat → SC) : Nat := dN n (fz f) (fz f 5).toNat
def qF (f : Nat → Nat → SC) : Nat → Nat → SC := sgnF (wD (fz f)) (RD (fz f)) (SD (fz f)) (oD (fz f))
def qT (n : Nat) (f : Nat → Nat → SC) : Int := dI n (fz f) (i64B (fz f) (oB (fz f)))
def qB (n : Nat) (f : Nat → Nat → SC) : Int := dI n (fz f) (numB (fz f) (oB (fz f) + 8) 4)
def qC (n : Nat) (f : Nat → Nat → SC) : Int := dI n (fz f) (numB (fz f) (oB (fz f) + 12) 2)
def qM (n : Nat) (f : Nat → Nat → SC) (j : Nat) : Int := dI n (fz f) (fz f (oB (fz f) + 14 + j))
def qU (n : Nat) (f : Nat → Nat → SC) : Int := dI n (fz f) (i64B (fz f) (oB (fz f) + 46))
def qL (n : Nat) (f : Nat → Nat → SC) : Int := dI n (fz f) (fz f (oB (fz f) + 54))
def qZ (n : Nat) (f : Nat → Nat → SC) : Nat := dN n (fz f) (n - (oB (fz f) + 55))
def qD (f : Nat → Nat → SC) : Nat → Nat → SC := u8F fun i _ => fz f (oB (fz f) + 55 + i)
def qE (n : Nat) (f : Nat → Nat → SC) : Int := decE n (fz f)
def decI : List (List FD) → List RS
  | [[.x _ n _ f]] => [.st [.k (.c (.val (.int .i64 (qS n f)))), .s (qN n f) 10 (qF f), .k (.c (.val (.int .i64 (qT n f)))), .k (.c (.val (.int .i64 (qB n f)))), .k (.c (.val (.int .i64 (qC n f)))), .k (.f .u8 32 (qM n f)), .k (.c (.val (.int .i64 (qU n f)))), .k (.c (.val (.int .i64 (qL n f)))), .s (qZ n f) 1 (qD f)], .v (sI .i64 (qE n f))]
  | _ => []
def cDeI : SSpec := specQ false shB id decC decI
def smI (t n c : Int) (em : Nat → Int) (u l : Int) (m : Nat) (f : Nat → Nat → SC) (t' n' c' : Int) (em' : Nat → Int) (u' l' : Int) (m' : Nat) (f' : Nat → Nat → SC) : Bool := sameB t n c em u l m (kOf f) t' n' c' em' u' l' m' (kOf f')
def sameI : List (List FD) → List RS
  | [[.i t, .i n, .i c, .y em, .i u, .i l, .x _ m _ f], [.i t', .i n', .i c', .y em', .i u', .i l', .x _ m' _ f']] => [.v (sB (smI t n c em u l m f t' n' c' em' u' l' m' f'))]
  | _ => []
def cSmI : SSpec := specQ false [.st pqBd, .st pqBd] id sameC sameI
def cxPk : Cx := ⟨[(8, cPk), (1000000010, fun _ => none), (1000000012, fun _ => none), (1000000013, fun _ => none), (1000000014, fun _ => none)], [], 0, []⟩
def slPk : List (Nat × SSpec) := [(11, cWr), (12, cEnI), (13, cDeI), (14, cSmI)]
def invPk (s : Int) (y : Nat) (w : Nat → Int) (R S : Nat → Nat) (o : Nat → Int) (t n c : Int) (em : Nat → Int) (u l : Int) (m : Nat) (k : Nat → Nat → Int) : Inv where
  X := Nat × (Option Addr × Nat) × (Option Addr × Nat) × (Option Addr × Nat) × (Option Addr × Nat)
  tm x := slotsAt 108 [(9, .one (.sc (.ptr 1 0))), (12, .one (.sc (.ptr 2 0))), (16, .one (sI .i64 4)), (90, .one (sI .i64 (y : Int))), (91, .one (sI .i64 (x.1 : Int)))]
  ob x := [.dead, .cells 46 (ksPap s x.2.1.1 y x.2.1.2 w R S o t n c em u l x.2.2.1.1 m x.2.2.1.2 k) 0, .cells 46 (ksPap s x.2.2.2.1.1 y x.2.2.2.1.2 w R S o t n c em u l x.2.2.2.2.1 m x.2.2.2.2.2 k) 0, .dead]
  holds x := x.1 ≤ y
  less x := y - x.1
theorem vc_PaperBack (a : Option Addr) (n cap : Nat) (K A B : Nat → Int) (s : Nat → ByteArray) (set : Int) (xk xa xb : Int) (xs : ByteArray) (at_ : Int) (ps : Int) (y : Nat) (w : Nat → Int) (R S : Nat → Nat) (o : Nat → Int) (t nc c : Int) (em : Nat → Int) (u l : Int) (m : Nat) (k : Nat → Nat → Int) :
    OwesV Try.prog cxPk slPk [(9, .inv (invPk ps y w R S o t nc c em u l m k))] 30 Try.f4 [.sc (.xs a n cap 4 (rawF K A B s)), sI .i64 set, sRaw xk xa xb xs, sI .i64 at_] yes =
    (let x1 : Int := set % (4294967296 : Int); let x2 : Int := xa % (1000 : Int); let x3 : Int := xb % (4294967296 : Int); let x4 : Int := xk % (65536 : Int); let x5 : Int := Go.IntKind.i64.wrap (xa * xb) % (1099511627776 : Int); let x6 : Int := xk % (256 : Int); let x7 : Nat := eN x1 (wrL n) (pF (rawF K A B s)) x2 x3 x4 x5 x6 (cutL xs); let x8 : Nat := qN x7 fun (i _ : Nat) => SC.val (Go.Value.int Go.IntKind.u8 (eF x1 (wrL n) (pF (rawF K A B s)) x2 x3 x4 (wordF xa xb xs) x5 x6 (bF xs) i)); let x9 : Nat := qZ x7 fun (i _ : Nat) => SC.val (Go.Value.int Go.IntKind.u8 (eF x1 (wrL n) (pF (rawF K A B s)) x2 x3 x4 (wordF xa xb xs) x5 x6 (bF xs) i)); let x10 : Int := (↑x7 : Int); let x11 : Int := Go.IntKind.i64.wrap (x10 - (↑(cutL xs) : Int)); let x12 : Int := if (1 : Int) > x11 then (1 : Int) else x11; let x13 : Int := at_ % x12; let x14 : Nat := x13.toNat; let x15 : Nat := qN x14 fun (i _ : Nat) => SC.val (Go.Value.int Go.IntKind.u8 (eF x1 (wrL n) (pF (rawF K A B s)) x2 x3 x4 (wordF xa xb xs) x5 x6 (bF xs) i)); let x16 : Nat := qZ x14 fun (i _ : Nat) => SC.val (Go.Value.int Go.IntKind.u8 (eF x1 (wrL n) (pF (rawF K A B s)) x2 x3 x4 (wordF xa xb xs) x5 x6 (bF xs) i)); let x17 : Bool := eE x1 (wrL n) (pF (rawF K A B s)) x2 x3 x4 x5 x6 (cutL xs) != (0 : Int); let x18 : Bool := x17 || (qE x7 fun (i _ : Nat) => SC.val (Go.Value.int Go.IntKind.u8 (eF x1 (wrL n) (pF (rawF K A B s)) x2 x3 x4 (wordF xa xb xs) x5 x6 (bF xs) i))) != (0 : Int); let x19 : Bool := x18 || x11 != Go.IntKind.i64.wrap ((61 : Int) + Go.IntKind.i64.wrap ((66 : Int) * (↑(wrL n) : Int))); let x20 : Int := qS x7 fun (i _ : Nat) => SC.val (Go.Value.int Go.IntKind.u8 (eF x1 (wrL n) (pF (rawF K A B s)) x2 x3 x4 (wordF xa xb xs) x5 x6 (bF xs) i)); let x21 : Int := qT x7 fun (i _ : Nat) => SC.val (Go.Value.int Go.IntKind.u8 (eF x1 (wrL n) (pF (rawF K A B s)) x2 x3 x4 (wordF xa xb xs) x5 x6 (bF xs) i)); let x22 : Int := qB x7 fun (i _ : Nat) => SC.val (Go.Value.int Go.IntKind.u8 (eF x1 (wrL n) (pF (rawF K A B s)) x2 x3 x4 (wordF xa xb xs) x5 x6 (bF xs) i)); let x23 : Int := qC x7 fun (i _ : Nat) => SC.val (Go.Value.int Go.IntKind.u8 (eF x1 (wrL n) (pF (rawF K A B s)) x2 x3 x4 (wordF xa xb xs) x5 x6 (bF xs) i)); let x24 : Int := qU x7 fun (i _ : Nat) => SC.val (Go.Value.int Go.IntKind.u8 (eF x1 (wrL n) (pF (rawF K A B s)) x2 x3 x4 (wordF xa xb xs) x5 x6 (bF xs) i)); let x25 : Int := qL x7 fun (i _ : Nat) => SC.val (Go.Value.int Go.IntKind.u8 (eF x1 (wrL n) (pF (rawF K A B s)) x2 x3 x4 (wordF xa xb xs) x5 x6 (bF xs) i)); let x26 : Bool := !smI x2 x3 x4 (wordF xa xb xs) x5 x6 (cutL xs) (bF xs) x21 x22 x23 (qM x7 fun (i _ : Nat) => SC.val (Go.Value.int Go.IntKind.u8 (eF x1 (wrL n) (pF (rawF K A B s)) x2 x3 x4 (wordF xa xb xs) x5 x6 (bF xs) i))) x24 x25 x9 (qD fun (i _ : Nat) => SC.val (Go.Value.int Go.IntKind.u8 (eF x1 (wrL n) (pF (rawF K A B s)) x2 x3 x4 (wordF xa xb xs) x5 x6 (bF xs) i))); a = a ∧ n = n ∧ cap = cap ∧ (∀ (i : Nat), i < n → K i = K i ∧ A i = A i ∧ B i = B i ∧ s i = s i) ∧ set = set ∧ xk = xk ∧ xa = xa ∧ xb = xb ∧ xs = xs ∧ wrP a n (rawF K A B s) set xk xa xb xs ∧ ∀ (a : Option Go.Addr) (cap : Nat), (a = Option.none → wrL n = 0 ∧ cap = 0) → wrL n ≤ cap → ∀ (a_3 : Option Go.Addr) (cap_1 : Nat), (a_3 = Option.none → cutL xs = 0 ∧ cap_1 = 0) → cutL xs ≤ cap_1 → x1 = x1 ∧ a = a ∧ wrL n = wrL n ∧ cap = cap ∧ (∀ (i : Nat), i < wrL n → wrW (nOf (rawF K A B s) 0) i = wrW (nOf (rawF K A B s) 0) i ∧ limb (wrR (nOf (rawF K A B s) 0) (nOf (rawF K A B s) 1) (nOf (rawF K A B s) 2) i) 0 = limb (wrR (nOf (rawF K A B s) 0) (nOf (rawF K A B s) 1) (nOf (rawF K A B s) 2) i) 0 ∧ limb (wrR (nOf (rawF K A B s) 0) (nOf (rawF K A B s) 1) (nOf (rawF K A B s) 2) i) 1 = limb (wrR (nOf (rawF K A B s) 0) (nOf (rawF K A B s) 1) (nOf (rawF K A B s) 2) i) 1 ∧ limb (wrR (nOf (rawF K A B s) 0) (nOf (rawF K A B s) 1) (nOf (rawF K A B s) 2) i) 2 = limb (wrR (nOf (rawF K A B s) 0) (nOf (rawF K A B s) 1) (nOf (rawF K A B s) 2) i) 2 ∧ limb (wrR (nOf (rawF K A B s) 0) (nOf (rawF K A B s) 1) (nOf (rawF K A B s) 2) i) 3 = limb (wrR (nOf (rawF K A B s) 0) (nOf (rawF K A B s) 1) (nOf (rawF K A B s) 2) i) 3 ∧ limb (wrS (nOf (rawF K A B s) 1) (nOf (rawF K A B s) 2) i) 0 = limb (wrS (nOf (rawF K A B s) 1) (nOf (rawF K A B s) 2) i) 0 ∧ limb (wrS (nOf (rawF K A B s) 1) (nOf (rawF K A B s) 2) i) 1 = limb (wrS (nOf (rawF K A B s) 1) (nOf (rawF K A B s) 2) i) 1 ∧ limb (wrS (nOf (rawF K A B s) 1) (nOf (rawF K A B s) 2) i) 2 = limb (wrS (nOf (rawF K A B s) 1) (nOf (rawF K A B s) 2) i) 2 ∧ limb (wrS (nOf (rawF K A B s) 1) (nOf (rawF K A B s) 2) i) 3 = limb (wrS (nOf (rawF K A B s) 1) (nOf (rawF K A B s) 2) i) 3 ∧ wrO (nOf (rawF K A B s) 1) i = wrO (nOf (rawF K A B s) 1) i) ∧ x2 = x2 ∧ x3 = x3 ∧ x4 = x4 ∧ (∀ (j : Nat), j < 32 → wordF xa xb xs j = wordF xa xb xs j) ∧ x5 = x5 ∧ x6 = x6 ∧ a_3 = a_3 ∧ cutL xs = cutL xs ∧ cap_1 = cap_1 ∧ (∀ (i : Nat), i < cutL xs → cutF xs i = cutF xs i) ∧ papP (pF (rawF K A B s)) (bF xs) (wrL n) ∧ ∀ (a_6 : Option Go.Addr) (cap_2 : Nat), (a_6 = Option.none → x7 = 0 ∧ cap_2 = 0) → x7 ≤ cap_2 → a_6 = a_6 ∧ x7 = x7 ∧ cap_2 = cap_2 ∧ (∀ (i : Nat), i < x7 → eF x1 (wrL n) (pF (rawF K A B s)) x2 x3 x4 (wordF xa xb xs) x5 x6 (bF xs) i = eF x1 (wrL n) (pF (rawF K A B s)) x2 x3 x4 (wordF xa xb xs) x5 x6 (bF xs) i) ∧ (decP x7 (kOf fun (i _ : Nat) => SC.val (Go.Value.int Go.IntKind.u8 (eF x1 (wrL n) (pF (rawF K A B s)) x2 x3 x4 (wordF xa xb xs) x5 x6 (bF xs) i))) fun (i _ : Nat) => SC.val (Go.Value.int Go.IntKind.u8 (eF x1 (wrL n) (pF (rawF K A B s)) x2 x3 x4 (wordF xa xb xs) x5 x6 (bF xs) i))) ∧ ∀ (a_9 : Option Go.Addr) (cap_3 : Nat), (a_9 = Option.none → x8 = 0 ∧ cap_3 = 0) → x8 ≤ cap_3 → ∀ (a_12 : Option Go.Addr) (cap_4 : Nat), (a_12 = Option.none → x9 = 0 ∧ cap_4 = 0) → x9 ≤ cap_4 → ((-9223372036854775808 : Int) ≤ at_ ∧ at_ ≤ (9223372036854775807 : Int)) ∧ ((0 : Int) < x12 ∧ x12 ≤ (1099511627776 : Int)) ∧ ((0 : Int) ≤ x13 ∧ x13 ≤ x10) ∧ a_6 = a_6 ∧ x14 = x14 ∧ cap_2 = cap_2 ∧ (∀ (i : Nat), i < x14 → eF x1 (wrL n) (pF (rawF K A B s)) x2 x3 x4 (wordF xa xb xs) x5 x6 (bF xs) i = eF x1 (wrL n) (pF (rawF K A B s)) x2 x3 x4 (wordF xa xb xs) x5 x6 (bF xs) i) ∧ (decP x14 (kOf fun (i _ : Nat) => SC.val (Go.Value.int Go.IntKind.u8 (eF x1 (wrL n) (pF (rawF K A B s)) x2 x3 x4 (wordF xa xb xs) x5 x6 (bF xs) i))) fun (i _ : Nat) => SC.val (Go.Value.int Go.IntKind.u8 (eF x1 (wrL n) (pF (rawF K A B s)) x2 x3 x4 (wordF xa xb xs) x5 x6 (bF xs) i))) ∧ ∀ (a_15 : Option Go.Addr) (cap_5 : Nat), (a_15 = Option.none → x15 = 0 ∧ cap_5 = 0) → x15 ≤ cap_5 → ∀ (a_18 : Option Go.Addr) (cap_6 : Nat), (a_18 = Option.none → x16 = 0 ∧ cap_6 = 0) → x16 ≤ cap_6 → ((!x17) = Bool.true → (!x17) = Bool.true) ∧ (x17 = Bool.false → (!x17) = Bool.true) ∧ ((!x18) = Bool.true → (!x18) = Bool.true) ∧ ((!x18) = Bool.true → (!x18) = Bool.true) ∧ ((!x18) = Bool.true → (!x18) = Bool.true) ∧ ((!x18) = Bool.true → (!x18) = Bool.true) ∧ ((!x18) = Bool.true → (!x18) = Bool.true) ∧ ((!x18) = Bool.true → (!x18) = Bool.true) ∧ (x18 = Bool.false → (!x18) = Bool.true) ∧ ((!x19) = Bool.true → (!x19) = Bool.true) ∧ ((!x19) = Bool.true → (!x19) = Bool.true) ∧ ((!x19) = Bool.true → (!x19) = Bool.true) ∧ ((!x19) = Bool.true → (!x19) = Bool.true) ∧ (x19 = Bool.false → (!x19) = Bool.true) ∧ ((!(x19 || x1 != x20)) = Bool.true → (!(x19 || x1 != x20)) = Bool.true) ∧ ((!(x19 || x1 != x20)) = Bool.true → (!(x19 || x1 != x20)) = Bool.true) ∧ ((!(x19 || x1 != x20)) = Bool.true → (!(x19 || x1 != x20)) = Bool.true ∧ (!(x19 || x1 != x20)) = Bool.true ∧ x2 = x2 ∧ x3 = x3 ∧ x4 = x4 ∧ (∀ (j : Nat), j < 32 → wordF xa xb xs j = wordF xa xb xs j) ∧ x5 = x5 ∧ x6 = x6 ∧ a_3 = a_3 ∧ cutL xs = cutL xs ∧ cap_1 = cap_1 ∧ (∀ (i : Nat), i < cutL xs → cutF xs i = cutF xs i) ∧ x21 = x21 ∧ x22 = x22 ∧ x23 = x23 ∧ (∀ (j : Nat), j < 32 → qM x7 (fun (i _ : Nat) => SC.val (Go.Value.int Go.IntKind.u8 (eF x1 (wrL n) (pF (rawF K A B s)) x2 x3 x4 (wordF xa xb xs) x5 x6 (bF xs) i))) j = qM x7 (fun (i _ : Nat) => SC.val (Go.Value.int Go.IntKind.u8 (eF x1 (wrL n) (pF (rawF K A B s)) x2 x3 x4 (wordF xa xb xs) x5 x6 (bF xs) i))) j) ∧ x24 = x24 ∧ x25 = x25 ∧ a_12 = a_12 ∧ x9 = x9 ∧ cap_4 = cap_4 ∧ (∀ (i : Nat), i < x9 → fz (fun (i _ : Nat) => SC.val (Go.Value.int Go.IntKind.u8 (eF x1 (wrL n) (pF (rawF K A B s)) x2 x3 x4 (wordF xa xb xs) x5 x6 (bF xs) i))) (oB (fz fun (i _ : Nat) => SC.val (Go.Value.int Go.IntKind.u8 (eF x1 (wrL n) (pF (rawF K A B s)) x2 x3 x4 (wordF xa xb xs) x5 x6 (bF xs) i))) + 55 + i) = fz (fun (i _ : Nat) => SC.val (Go.Value.int Go.IntKind.u8 (eF x1 (wrL n) (pF (rawF K A B s)) x2 x3 x4 (wordF xa xb xs) x5 x6 (bF xs) i))) (oB (fz fun (i _ : Nat) => SC.val (Go.Value.int Go.IntKind.u8 (eF x1 (wrL n) (pF (rawF K A B s)) x2 x3 x4 (wordF xa xb xs) x5 x6 (bF xs) i))) + 55 + i)) ∧ bF xs = u8F (kOf (bF xs)) ∧ (qD fun (i _ : Nat) => SC.val (Go.Value.int Go.IntKind.u8 (eF x1 (wrL n) (pF (rawF K A B s)) x2 x3 x4 (wordF xa xb xs) x5 x6 (bF xs) i))) = u8F (kOf (qD fun (i _ : Nat) => SC.val (Go.Value.int Go.IntKind.u8 (eF x1 (wrL n) (pF (rawF K A B s)) x2 x3 x4 (wordF xa xb xs) x5 x6 (bF xs) i)))) ∧ ((!x26) = Bool.true → (!x26) = Bool.true) ∧ ((!x26) = Bool.true → (!x26) = Bool.true) ∧ ((!x26) = Bool.true → (!x26) = Bool.true) ∧ ((!x26) = Bool.true → (!x26) = Bool.true) ∧ ((!x26) = Bool.true → (!x26) = Bool.true) ∧ ((!x26) = Bool.true → (!x26) = Bool.true) ∧ (x26 = Bool.false → (!x26) = Bool.true) ∧ ((x26 || (↑(wrL n) : Int) != (↑x8 : Int)) = Bool.true → Bool.false = Bool.true) ∧ ((x26 || (↑(wrL n) : Int) != (↑x8 : Int)) = Bool.false → (∀ (y_1 : Nat × (Option Go.Addr × Nat) × (Option Go.Addr × Nat) × (Option Go.Addr × Nat) × Option Go.Addr × Nat), closedB (slotsAt 108 [(9, SV.one (SA.sc (SC.ptr 1 0))), (12, SV.one (SA.sc (SC.ptr 2 0))), (16, SV.one (sI Go.IntKind.i64 (4 : Int))), (90, SV.one (sI Go.IntKind.i64 (↑y : Int))), (91, SV.one (sI Go.IntKind.i64 (↑y_1.fst : Int)))]) [SO.dead, SO.cells (46 : Go.TypeId) (ksPap ps y_1.snd.fst.fst y y_1.snd.fst.snd w R S o t nc c em u l y_1.snd.snd.fst.fst m y_1.snd.snd.fst.snd k) 0, SO.cells (46 : Go.TypeId) (ksPap ps y_1.snd.snd.snd.fst.fst y y_1.snd.snd.snd.fst.snd w R S o t nc c em u l y_1.snd.snd.snd.snd.fst m y_1.snd.snd.snd.snd.snd k) 0, SO.dead] = Bool.true) ∧ ∃ (y_1 : Nat × (Option Go.Addr × Nat) × (Option Go.Addr × Nat) × (Option Go.Addr × Nat) × Option Go.Addr × Nat), y_1.fst ≤ y ∧ (qE x14 fun (i _ : Nat) => SC.val (Go.Value.int Go.IntKind.u8 (eF x1 (wrL n) (pF (rawF K A B s)) x2 x3 x4 (wordF xa xb xs) x5 x6 (bF xs) i))) = (4 : Int) ∧ (↑(wrL n) : Int) = (↑y : Int) ∧ (0 : Int) = (↑y_1.fst : Int) ∧ x1 = ps ∧ (a = y_1.snd.fst.fst ∧ wrL n = y ∧ cap = y_1.snd.fst.snd ∧ ∀ (i : Nat), i < wrL n → simC (pF (rawF K A B s) i 0) (sgnF w R S o i 0) ∧ simC (pF (rawF K A B s) i 1) (sgnF w R S o i 1) ∧ simC (pF (rawF K A B s) i 2) (sgnF w R S o i 2) ∧ simC (pF (rawF K A B s) i 3) (sgnF w R S o i 3) ∧ simC (pF (rawF K A B s) i 4) (sgnF w R S o i 4) ∧ simC (pF (rawF K A B s) i 5) (sgnF w R S o i 5) ∧ simC (pF (rawF K A B s) i 6) (sgnF w R S o i 6) ∧ simC (pF (rawF K A B s) i 7) (sgnF w R S o i 7) ∧ simC (pF (rawF K A B s) i 8) (sgnF w R S o i 8) ∧ wrO (nOf (rawF K A B s) 1) i = o i) ∧ x2 = t ∧ x3 = nc ∧ x4 = c ∧ (∀ (j : Nat), j < 32 → wordF xa xb xs j = em j) ∧ x5 = u ∧ x6 = l ∧ (a_3 = y_1.snd.snd.fst.fst ∧ cutL xs = m ∧ cap_1 = y_1.snd.snd.fst.snd ∧ ∀ (i : Nat), i < cutL xs → cutF xs i = k i 0) ∧ 0 = 0 ∧ x20 = ps ∧ (a_9 = y_1.snd.snd.snd.fst.fst ∧ x8 = y ∧ cap_3 = y_1.snd.snd.snd.fst.snd ∧ ∀ (i : Nat), i < x8 → simC (qF (fun (i _ : Nat) => SC.val (Go.Value.int Go.IntKind.u8 (eF x1 (wrL n) (pF (rawF K A B s)) x2 x3 x4 (wordF xa xb xs) x5 x6 (bF xs) i))) i 0) (sgnF w R S o i 0) ∧ simC (qF (fun (i _ : Nat) => SC.val (Go.Value.int Go.IntKind.u8 (eF x1 (wrL n) (pF (rawF K A B s)) x2 x3 x4 (wordF xa xb xs) x5 x6 (bF xs) i))) i 1) (sgnF w R S o i 1) ∧ simC (qF (fun (i _ : Nat) => SC.val (Go.Value.int Go.IntKind.u8 (eF x1 (wrL n) (pF (rawF K A B s)) x2 x3 x4 (wordF xa xb xs) x5 x6 (bF xs) i))) i 2) (sgnF w R S o i 2) ∧ simC (qF (fun (i _ : Nat) => SC.val (Go.Value.int Go.IntKind.u8 (eF x1 (wrL n) (pF (rawF K A B s)) x2 x3 x4 (wordF xa xb xs) x5 x6 (bF xs) i))) i 3) (sgnF w R S o i 3) ∧ simC (qF (fun (i _ : Nat) => SC.val (Go.Value.int Go.IntKind.u8 (eF x1 (wrL n) (pF (rawF K A B s)) x2 x3 x4 (wordF xa xb xs) x5 x6 (bF xs) i))) i 4) (sgnF w R S o i 4) ∧ simC (qF (fun (i _ : Nat) => SC.val (Go.Value.int Go.IntKind.u8 (eF x1 (wrL n) (pF (rawF K A B s)) x2 x3 x4 (wordF xa xb xs) x5 x6 (bF xs) i))) i 5) (sgnF w R S o i 5) ∧ simC (qF (fun (i _ : Nat) => SC.val (Go.Value.int Go.IntKind.u8 (eF x1 (wrL n) (pF (rawF K A B s)) x2 x3 x4 (wordF xa xb xs) x5 x6 (bF xs) i))) i 6) (sgnF w R S o i 6) ∧ simC (qF (fun (i _ : Nat) => SC.val (Go.Value.int Go.IntKind.u8 (eF x1 (wrL n) (pF (rawF K A B s)) x2 x3 x4 (wordF xa xb xs) x5 x6 (bF xs) i))) i 7) (sgnF w R S o i 7) ∧ simC (qF (fun (i _ : Nat) => SC.val (Go.Value.int Go.IntKind.u8 (eF x1 (wrL n) (pF (rawF K A B s)) x2 x3 x4 (wordF xa xb xs) x5 x6 (bF xs) i))) i 8) (sgnF w R S o i 8) ∧ oD (fz fun (i _ : Nat) => SC.val (Go.Value.int Go.IntKind.u8 (eF x1 (wrL n) (pF (rawF K A B s)) x2 x3 x4 (wordF xa xb xs) x5 x6 (bF xs) i))) i = o i) ∧ x21 = t ∧ x22 = nc ∧ x23 = c ∧ (∀ (j : Nat), j < 32 → qM x7 (fun (i _ : Nat) => SC.val (Go.Value.int Go.IntKind.u8 (eF x1 (wrL n) (pF (rawF K A B s)) x2 x3 x4 (wordF xa xb xs) x5 x6 (bF xs) i))) j = em j) ∧ x24 = u ∧ x25 = l ∧ (a_12 = y_1.snd.snd.snd.snd.fst ∧ x9 = m ∧ cap_4 = y_1.snd.snd.snd.snd.snd ∧ ∀ (i : Nat), i < x9 → fz (fun (i _ : Nat) => SC.val (Go.Value.int Go.IntKind.u8 (eF x1 (wrL n) (pF (rawF K A B s)) x2 x3 x4 (wordF xa xb xs) x5 x6 (bF xs) i))) (oB (fz fun (i _ : Nat) => SC.val (Go.Value.int Go.IntKind.u8 (eF x1 (wrL n) (pF (rawF K A B s)) x2 x3 x4 (wordF xa xb xs) x5 x6 (bF xs) i))) + 55 + i) = k i 0) ∧ 0 = 0 ∧ ∀ (y_2 : Nat × (Option Go.Addr × Nat) × (Option Go.Addr × Nat) × (Option Go.Addr × Nat) × Option Go.Addr × Nat), y_2.fst ≤ y → (Decidable.decide ((↑y_2.fst : Int) < (↑y : Int)) = Bool.true → ((0 : Int) ≤ (↑y_2.fst : Int) ∧ (↑y_2.fst : Int) < (↑y : Int)) ∧ ((0 : Int) ≤ (↑y_2.fst : Int) ∧ (↑y_2.fst : Int) < (↑y : Int)) ∧ ((!conj [w (↑y_2.fst : Int).toNat == w (↑y_2.fst : Int).toNat, limb (R (↑y_2.fst : Int).toNat) 0 == limb (R (↑y_2.fst : Int).toNat) 0, limb (R (↑y_2.fst : Int).toNat) 1 == limb (R (↑y_2.fst : Int).toNat) 1, limb (R (↑y_2.fst : Int).toNat) 2 == limb (R (↑y_2.fst : Int).toNat) 2, limb (R (↑y_2.fst : Int).toNat) 3 == limb (R (↑y_2.fst : Int).toNat) 3, limb (S (↑y_2.fst : Int).toNat) 0 == limb (S (↑y_2.fst : Int).toNat) 0, limb (S (↑y_2.fst : Int).toNat) 1 == limb (S (↑y_2.fst : Int).toNat) 1, limb (S (↑y_2.fst : Int).toNat) 2 == limb (S (↑y_2.fst : Int).toNat) 2, limb (S (↑y_2.fst : Int).toNat) 3 == limb (S (↑y_2.fst : Int).toNat) 3, o (↑y_2.fst : Int).toNat == o (↑y_2.fst : Int).toNat]) = Bool.true → Bool.false = Bool.true) ∧ ((!conj [w (↑y_2.fst : Int).toNat == w (↑y_2.fst : Int).toNat, limb (R (↑y_2.fst : Int).toNat) 0 == limb (R (↑y_2.fst : Int).toNat) 0, limb (R (↑y_2.fst : Int).toNat) 1 == limb (R (↑y_2.fst : Int).toNat) 1, limb (R (↑y_2.fst : Int).toNat) 2 == limb (R (↑y_2.fst : Int).toNat) 2, limb (R (↑y_2.fst : Int).toNat) 3 == limb (R (↑y_2.fst : Int).toNat) 3, limb (S (↑y_2.fst : Int).toNat) 0 == limb (S (↑y_2.fst : Int).toNat) 0, limb (S (↑y_2.fst : Int).toNat) 1 == limb (S (↑y_2.fst : Int).toNat) 1, limb (S (↑y_2.fst : Int).toNat) 2 == limb (S (↑y_2.fst : Int).toNat) 2, limb (S (↑y_2.fst : Int).toNat) 3 == limb (S (↑y_2.fst : Int).toNat) 3, o (↑y_2.fst : Int).toNat == o (↑y_2.fst : Int).toNat]) = Bool.false → ∃ (y' : Nat × (Option Go.Addr × Nat) × (Option Go.Addr × Nat) × (Option Go.Addr × Nat) × Option Go.Addr × Nat), y'.fst ≤ y ∧ (4 : Int) = (4 : Int) ∧ (↑y : Int) = (↑y : Int) ∧ Go.IntKind.i64.wrap ((↑y_2.fst : Int) + (1 : Int)) = (↑y'.fst : Int) ∧ ps = ps ∧ (y_2.snd.fst.fst = y'.snd.fst.fst ∧ y = y ∧ y_2.snd.fst.snd = y'.snd.fst.snd ∧ ∀ (i : Nat), i < y → simC (sgnF w R S o i 0) (sgnF w R S o i 0) ∧ simC (sgnF w R S o i 1) (sgnF w R S o i 1) ∧ simC (sgnF w R S o i 2) (sgnF w R S o i 2) ∧ simC (sgnF w R S o i 3) (sgnF w R S o i 3) ∧ simC (sgnF w R S o i 4) (sgnF w R S o i 4) ∧ simC (sgnF w R S o i 5) (sgnF w R S o i 5) ∧ simC (sgnF w R S o i 6) (sgnF w R S o i 6) ∧ simC (sgnF w R S o i 7) (sgnF w R S o i 7) ∧ simC (sgnF w R S o i 8) (sgnF w R S o i 8) ∧ o i = o i) ∧ t = t ∧ nc = nc ∧ c = c ∧ (∀ (j : Nat), j < 32 → em j = em j) ∧ u = u ∧ l = l ∧ (y_2.snd.snd.fst.fst = y'.snd.snd.fst.fst ∧ m = m ∧ y_2.snd.snd.fst.snd = y'.snd.snd.fst.snd ∧ ∀ (i : Nat), i < m → k i 0 = k i 0) ∧ 0 = 0 ∧ ps = ps ∧ (y_2.snd.snd.snd.fst.fst = y'.snd.snd.snd.fst.fst ∧ y = y ∧ y_2.snd.snd.snd.fst.snd = y'.snd.snd.snd.fst.snd ∧ ∀ (i : Nat), i < y → simC (sgnF w R S o i 0) (sgnF w R S o i 0) ∧ simC (sgnF w R S o i 1) (sgnF w R S o i 1) ∧ simC (sgnF w R S o i 2) (sgnF w R S o i 2) ∧ simC (sgnF w R S o i 3) (sgnF w R S o i 3) ∧ simC (sgnF w R S o i 4) (sgnF w R S o i 4) ∧ simC (sgnF w R S o i 5) (sgnF w R S o i 5) ∧ simC (sgnF w R S o i 6) (sgnF w R S o i 6) ∧ simC (sgnF w R S o i 7) (sgnF w R S o i 7) ∧ simC (sgnF w R S o i 8) (sgnF w R S o i 8) ∧ o i = o i) ∧ t = t ∧ nc = nc ∧ c = c ∧ (∀ (j : Nat), j < 32 → em j = em j) ∧ u = u ∧ l = l ∧ (y_2.snd.snd.snd.snd.fst = y'.snd.snd.snd.snd.fst ∧ m = m ∧ y_2.snd.snd.snd.snd.snd = y'.snd.snd.snd.snd.snd ∧ ∀ (i : Nat), i < m → k i 0 = k i 0) ∧ 0 = 0 ∧ (y - y'.fst).succ.le (y - y_2.fst))) ∧ (Decidable.decide ((↑y_2.fst : Int) < (↑y : Int)) = Bool.false → ((4 : Int) == (4 : Int)) = Bool.true))) ∧ ((!(x19 || x1 != x20)) = Bool.false → Bool.false = Bool.true)) := by kernel_rfl
end Go.Proofs.Ytajfifmlkgojnaa
end

section
namespace Go.Proofs.Ytajfifmlkgojnaa
open Go.Sx
set_option maxRecDepth 100000
theorem bif_st {α : Type} {A : Nat → α} {B : α} {i y : Nat} (hi : i < y + 1) (h : B = A y) : (bif decide (i < y) then A i else B) = A i := by
  by_cases c : i < y
  · rw [decide_eq_true c]; rfl
  · rw [decide_eq_false c, show i = y by omega]; exact h
set_option maxHeartbeats 1000000 in
theorem ok_wr (a : Option Addr) (n cap : Nat) (K A B : Nat → Int) (s : Nat → ByteArray) (set xk xa xb : Int) (xs : ByteArray) (hK : ∀ i, i < n → i64ok (K i) ∧ i64ok (A i) ∧ i64ok (B i)) (hs : i64ok set) (hx : rawP xk xa xb xs) (_ : a = none → n = 0) :
    OwesR Try.prog cxWr slWr [(3, .inv1 (invWr K A B s a n cap (set % 4294967296) (xa % 1000) (xb % 4294967296) (xk % 65536) (IntKind.i64.wrap (xa * xb) % 1099511627776) (xk % 256) (wordF xa xb xs) (cutL xs) (fun i _ => cutF xs i)))] 30 Try.f11 [.sc (.xs a n cap 4 (rawF K A B s)), sI .i64 set, sRaw xk xa xb xs] true
      [.st [.k (.c (.val (.int .i64 (set % 4294967296)))), .s (wrL n) 10 (sgnF (wrW K) (wrR K A B) (wrS A B) (wrO A)), .k (.c (.val (.int .i64 (xa % 1000)))), .k (.c (.val (.int .i64 (xb % 4294967296)))), .k (.c (.val (.int .i64 (xk % 65536)))), .k (.f .u8 32 (wordF xa xb xs)), .k (.c (.val (.int .i64 (IntKind.i64.wrap (xa * xb) % 1099511627776)))), .k (.c (.val (.int .i64 (xk % 256)))), .s (cutL xs) 1 (u8F fun i _ => cutF xs i)]] := by
  rw [vc_wr]
  intro x1 x2 x3
  have e1 : x1 = (wrL n : Int) := by
    show (if (19 : Int) < (n : Int) then (19 : Int) else (n : Int)) = ((min n 19 : Nat) : Int)
    split <;> omega
  have e2 : x2 = wrL n := by show x1.toNat = _; rw [e1]; exact Int.toNat_natCast _
  have e3 : x3 = (wrL n : Int) := by show (x2 : Int) = _; rw [e2]
  clear_value x1 x2 x3
  subst e1 e2 e3
  have hL : wrL n ≤ n ∧ wrL n ≤ 19 := ⟨Nat.min_le_left _ _, Nat.min_le_right _ _⟩
  have hs' : -9223372036854775808 ≤ set ∧ set ≤ 9223372036854775807 := hs
  have hn : ((0 : Int) < 4294967296 ∧ (4294967296 : Int) ≤ 1099511627776) := by decide
  have hn2 : ((0 : Int) < 256 ∧ (256 : Int) ≤ 1099511627776) := by decide
  simp only [eq_self, true_and, and_true, and_self, implies_true, imp_self, reduceCtorEq, Nat.not_lt_zero, false_imp_iff, forall_const, Int.toNat_natCast, Nat.zero_add, id_eq, hs', hn, hn2, hx]
  intro a2 cap1 _ _
  have hML : maxLen = 9223372036854775807 := rfl
  have z : ∀ i, simC (rawF K A B s i 0) (rawF K A B s i 0) ∧ simC (rawF K A B s i 1) (rawF K A B s i 1) ∧ simC (rawF K A B s i 2) (rawF K A B s i 2) := fun i => ⟨rfl, rfl, rfl⟩
  refine ⟨⟨by omega, by omega⟩, fun _ => rfl, fun y hy => ⟨fun hl => ?_, fun hl => ?_⟩, fun hl => ?_, fun hl => ?_⟩
  · obtain ⟨y, sp, ad, cp⟩ := y
    dsimp only at hy hl ⊢
    have hl := of_decide_eq_true hl
    obtain ⟨h1, h2, h3⟩ := hK y (by omega)
    exact ⟨⟨by omega, by omega⟩, h1, h1, h2, h3, h3, h3, h2, h2, ⟨by omega, by omega, by omega⟩, ⟨by omega, by omega⟩, fun c hc => ⟨(y + 1, c, ad, cp), ⟨by omega, by omega, by dsimp only; omega⟩, fun i _ => z i, by rw [IntKind.wrap_i64]; dsimp only; omega, ⟨rfl, rfl⟩, ⟨rfl, rfl⟩, rfl, rfl, fun i hi => ⟨bif_st (A := fun i => wrW K i) hi rfl, bif_st (A := fun i => limb (wrR K A B i) 0) hi rfl, bif_st (A := fun i => limb (wrR K A B i) 1) hi rfl, bif_st (A := fun i => limb (wrR K A B i) 2) hi rfl, bif_st (A := fun i => limb (wrR K A B i) 3) hi rfl, bif_st (A := fun i => limb (wrS A B i) 0) hi rfl, bif_st (A := fun i => limb (wrS A B i) 1) hi rfl, bif_st (A := fun i => limb (wrS A B i) 2) hi rfl, bif_st (A := fun i => limb (wrS A B i) 3) hi rfl, bif_st (A := fun i => wrO A i) hi rfl⟩, by show wrL n - (y + 1) + 1 ≤ wrL n - y; omega⟩⟩
  · obtain ⟨y, sp, ad, cp⟩ := y
    dsimp only at hy hl ⊢
    have hl := of_decide_eq_false hl
    exact ⟨Nat.le_refl _, by omega, by omega⟩
  · have hl := of_decide_eq_true hl
    obtain ⟨h1, h2, h3⟩ := hK 0 (by omega)
    refine ⟨⟨by omega, by omega⟩, h1, h1, h2, h3, h3, h3, h2, h2, ⟨by omega, by decide⟩, fun c hc => ⟨(1, c, a2, cap1), ⟨by dsimp only; omega, by dsimp only; omega, by dsimp only; omega⟩, fun i _ => z i, rfl, ⟨rfl, rfl⟩, ⟨rfl, rfl⟩, rfl, rfl, fun i hi => ?_⟩⟩
    obtain rfl : i = 0 := by omega
    exact ⟨rfl, rfl, rfl, rfl, rfl, rfl, rfl, rfl, rfl, rfl⟩
  · have hl := of_decide_eq_false hl
    omega
end Go.Proofs.Ytajfifmlkgojnaa
end

section
namespace Go.Sx
open Go.RowKit
theorem okx_nil {P : Program} {gl : Globs} : CxOK P ⟨[], gl, 0, []⟩ := ⟨fun _ h => (by cases h), fun _ h => (by cases h)⟩
theorem okx_cons {P : Program} {gl : Globs} {f : Nat} {s : FSpec} {l : List (Nat × FSpec)} {wf : List (Nat × WSpec)} (h : FnOKg P gl f s) (hs : CxOK P ⟨l, gl, 0, wf⟩) : CxOK P ⟨(f, s) :: l, gl, 0, wf⟩ :=
  ⟨fun p hp => by
    rcases List.mem_cons.1 hp with rfl | hp
    · exact h
    · exact hs.1 p hp, hs.2⟩
theorem okx_mark {P : Program} {gl : Globs} {f : Nat} {l : List (Nat × FSpec)} {wf : List (Nat × WSpec)} (hs : CxOK P ⟨l, gl, 0, wf⟩) : CxOK P ⟨(f, fun _ => none) :: l, gl, 0, wf⟩ :=
  okx_cons (fun _ _ _ h => (by cases h)) hs
theorem oks_nil {P : Program} {gl : Globs} : ∀ p ∈ ([] : List (Nat × SSpec)), FnOKs P gl p.1 p.2 := fun _ h => (by cases h)
theorem oks_cons {P : Program} {gl : Globs} {f : Nat} {s : SSpec} {l : List (Nat × SSpec)} (h : FnOKs P gl f s) (hl : ∀ p ∈ l, FnOKs P gl p.1 p.2) : ∀ p ∈ (f, s) :: l, FnOKs P gl p.1 p.2 := fun p hp => by
  rcases List.mem_cons.1 hp with rfl | hp
  · exact h
  · exact hl p hp
end Go.Sx
end

section
namespace Go.Proofs.Ytajfifmlkgojnaa
open Go.Sx
set_option maxRecDepth 100000
theorem FnOKs_id {P : Program} {gl : Globs} {f : Nat} {share : Bool} {aq : List AQ} {nf : List (List FD) → List (List FD)} {c : List (List FD) → List Prop} {g g' : List (List FD) → List RS}
    (h : FnOKs P gl f (specQ share aq nf c g)) (hn : ∀ ls, Ok (c ls) → nf ls = ls ∧ g ls = g' ls) : FnOKs P gl f (specQ share aq id c g') := by
  intro args ps rs hs hp
  simp only [specQ] at hs
  split at hs
  case h_2 => cases hs
  rename_i q ls ha
  simp only [Option.some.injEq, Prod.mk.injEq] at hs
  obtain ⟨rfl, rfl⟩ := hs
  obtain ⟨o1, o23⟩ := Ok.append.1 hp
  obtain ⟨o2, o3⟩ := Ok.append.1 o23
  obtain ⟨e1, e2⟩ := hn ls o3
  refine h args (q ++ (simQs aq ls (nf ls) ++ c (nf ls))) (g' (id ls)) ?_ (by rw [e1]; exact Ok.append.2 ⟨o1, Ok.append.2 ⟨o2, o3⟩⟩)
  simp only [specQ, ha, e1, e2, id_eq]
theorem card_enI {gl : Globs} : FnOKs Try.prog gl 12 cEnI := by
  refine FnOKs_id card_enc2 fun ls hc => ?_
  unfold papC at hc
  split at hc
  · obtain ⟨p, _⟩ := hc
    exact ⟨by have h1 := p.nf; have h2 := p.mf; simp only [nfPap]; rw [← h1, ← h2], rfl⟩
  · exact hc.1.elim
theorem card_deI {gl : Globs} : FnOKs Try.prog gl 13 cDeI := by
  refine FnOKs_id card_dec fun ls hc => ?_
  unfold decC at hc
  split at hc
  · obtain ⟨p, _⟩ := hc
    exact ⟨by have h1 := p.nf; simp only [nfB]; rw [← h1], rfl⟩
  · exact hc.1.elim
theorem card_smI {gl : Globs} : FnOKs Try.prog gl 14 cSmI := by
  refine FnOKs_id card_same fun ls hc => ?_
  unfold sameC at hc
  split at hc
  · obtain ⟨p, p', _⟩ := hc
    exact ⟨by simp only [nf2]; rw [← p, ← p'], rfl⟩
  · exact hc.1.elim
theorem wr_closed {n : Nat} {f : Nat → Nat → SC} {set k a b : Int} {s : ByteArray} : ∀ r ∈ wrRS n f set k a b s, r.closed := by
  intro r hr
  rw [List.mem_singleton.1 hr]
  refine closed_st fun z hz => ?_
  simp only [List.mem_cons, List.not_mem_nil, or_false] at hz
  rcases hz with rfl | rfl | rfl | rfl | rfl | rfl | rfl | rfl | rfl
  · exact trivial
  · exact closed_sgnF _ _ _ _ _
  · exact trivial
  · exact trivial
  · exact trivial
  · exact trivial
  · exact trivial
  · exact trivial
  · exact closed_u8F _ _
theorem okx_Wr : CxOK Try.prog cxWr := okx_cons card_pkW (okx_cons card_number (okx_mark (okx_mark (okx_mark (okx_mark (okx_mark okx_nil))))))
theorem card_wr {gl : Globs} : FnOKs Try.prog gl 11 cWr := by
  refine FnOKs.up0 (FnOKs_Q (cx := cxWr) okx_Wr (sl := slWr) (oks_cons card_body oks_nil) Try.func11 (by kernel_rfl) (by kernel_rfl) fun ls hc => ?_) gl
  unfold wrC at hc
  split at hc
  · rename_i a n cap f set k x b s
    obtain ⟨p, _⟩ := hc
    have := ok_wr a n cap (nOf f 0) (nOf f 1) (nOf f 2) (tOf f) set k x b s p.rk p.rs p.rr p.ha
    rw [← p.nf] at this
    exact ⟨_, _, wr_closed, this⟩
  · exact hc.1.elim
end Go.Proofs.Ytajfifmlkgojnaa
end

section
namespace Go.Proofs.Ytajfifmlkgojnaa
open Go.Sx
set_option maxRecDepth 100000
section
variable {s : Int} {y : Nat} {w : Nat → Int} {R S : Nat → Nat} {o : Nat → Int} {t n c : Int} {em : Nat → Int} {u l : Int} {k : Nat → Nat → Int}
theorem E_0 : encF s y w R S o t n c em u l k 0 = 1 := by
  unfold encF catB papF; rw [if_pos (by omega), if_pos (by omega)]
theorem E_s {j : Nat} (h : j < 4) : encF s y w R S o t n c em u l k (1 + j) = bigAt 4 s j := by
  unfold encF catB papF; rw [if_pos (by omega), if_neg (by omega), if_pos (by omega)]; congr 1; omega
theorem E_5 (h : y ≤ 19) : encF s y w R S o t n c em u l k 5 = (y : Int) := by
  unfold encF catB papF; rw [if_pos (by omega), if_neg (by omega), if_neg (by omega), if_pos (by omega)]; omega
theorem E_g {i r : Nat} (h : i < y) (hr : r < 66) : encF s y w R S o t n c em u l k (6 + 66 * i + r) = sgnB (w i) (R i) (S i) (o i) r := by
  unfold encF catB papF; rw [if_pos (by omega), if_neg (by omega), if_neg (by omega), if_neg (by omega), show (6 + 66 * i + r - 6) / 66 = i by omega, show (6 + 66 * i + r - 6) % 66 = r by omega]
theorem E_b {j : Nat} : encF s y w R S o t n c em u l k (6 + 66 * y + j) = bodyF t n c em u l k j := by
  unfold encF catB; rw [if_neg (by omega)]; congr 1; omega
theorem sg_in (w : Int) (R S : Nat) (o : Int) (r : Nat) : 0 ≤ sgnB w R S o r ∧ sgnB w R S o r < 256 := by
  have b := by8_ok
  unfold sgnB
  split
  · omega
  · split
    · exact b _ _
    · split
      · exact b _ _
      · omega
theorem bg_in (z : Nat) (v : Int) (j : Nat) : 0 ≤ bigAt z v j ∧ bigAt z v j < 256 := ⟨Int.emod_nonneg _ (by decide), Int.emod_lt_of_pos _ (by decide)⟩
theorem E_in {m : Nat} (he : ∀ j, j < 32 → 0 ≤ em j ∧ em j < 256) (hk : ∀ i, i < m → 0 ≤ k i 0 ∧ k i 0 < 256) {i : Nat} (hi : i < 6 + 66 * y + (55 + m)) :
    0 ≤ encF s y w R S o t n c em u l k i ∧ encF s y w R S o t n c em u l k i < 256 := by
  unfold encF catB
  split
  · unfold papF
    split
    · omega
    · split
      · exact bg_in _ _ _
      · split
        · omega
        · exact sg_in _ _ _ _ _
  · unfold bodyF
    split
    · exact bg_in _ _ _
    · split
      · exact bg_in _ _ _
      · split
        · exact bg_in _ _ _
        · split
          · exact he _ (by omega)
          · split
            · exact bg_in _ _ _
            · split
              · exact bg_in _ _ _
              · exact hk _ (by omega)
end
theorem num_big {f : Nat → Int} {o z : Nat} {v : Int} (hv : 0 ≤ v) (hv2 : v < 256 ^ z) (h : ∀ j, j < z → f (o + j) = bigAt z v j) : numB f o z = v := by
  have hb : ∀ j, j < z → 0 ≤ f (o + j) ∧ f (o + j) < 256 := fun j hj => by rw [h j hj]; exact bg_in _ _ _
  obtain ⟨h1, h2⟩ := numB_in hb
  exact big_inj z _ _ h1 h2 hv hv2 fun j hj => (numB_byte hb j hj).trans (h j hj)
theorem fr_big {f : Nat → Int} {a : Nat} (h : ∀ j, j < 32 → f j = by8 a (31 - j)) : fromN f 32 = a % M256 := by
  have e : ∀ z, z ≤ 32 → fromN f z = fromN (fun j => by8 a (31 - j)) z := by
    intro z
    induction z with
    | zero => intro _; rfl
    | succ z ih => intro hz; show _ + _ = _ + _; simp only [ih (by omega), h (31 - z) (by omega)]
  rw [e 32 (Nat.le_refl _), fromN_bytes a 32 (Nat.le_refl _)]; rfl
theorem rd_enc {s : Int} {y : Nat} {w : Nat → Int} {R S : Nat → Nat} {o : Nat → Int} {t n c : Int} {em : Nat → Int} {u l : Int} {m : Nat} {k : Nat → Nat → Int}
    (hs : 0 ≤ s ∧ s < 4294967296) (hy : y ≤ 19) (hw : ∀ i, 0 ≤ w i ∧ w i < 256) (ho : ∀ i, 0 ≤ o i ∧ o i < 256) (ht : 0 ≤ t ∧ t < 1099511627776) (hn : 0 ≤ n ∧ n < 4294967296) (hc : 0 ≤ c ∧ c < 65536)
    (hu : 0 ≤ u ∧ u < 1099511627776) (hl : 0 ≤ l ∧ l < 256) (hm : m ≤ 300) {F : Nat → Int} (hF : F = encF s y w R S o t n c em u l k) :
    papE s y w o t n c u l m = 0 ∧ decE (6 + 66 * y + (55 + m)) F = 0 ∧ (∀ z, z < 61 + 66 * y → decE z F = 4) ∧ numB F 1 4 = s ∧ (F 5).toNat = y ∧ oB F = 6 + 66 * y ∧
      (∀ i, i < y → wD F i = w i ∧ RD F i = R i % M256 ∧ SD F i = S i % M256 ∧ oD F i = o i) ∧
      i64B F (oB F) = t ∧ numB F (oB F + 8) 4 = n ∧ numB F (oB F + 12) 2 = c ∧ (∀ j, j < 32 → F (oB F + 14 + j) = em j) ∧ i64B F (oB F + 46) = u ∧ F (oB F + 54) = l ∧ ∀ j, F (oB F + 55 + j) = k j 0 := by
  subst hF
  have a5 : encF s y w R S o t n c em u l k 5 = (y : Int) := E_5 hy
  have e5 : (encF s y w R S o t n c em u l k 5).toNat = y := by rw [a5]; exact Int.toNat_natCast _
  have eo : oB (encF s y w R S o t n c em u l k) = 6 + 66 * y := by unfold oB; rw [e5]
  have es : numB (encF s y w R S o t n c em u l k) 1 4 = s := num_big hs.1 hs.2 fun j hj => E_s hj
  have sg : ∀ i, i < y → wD (encF s y w R S o t n c em u l k) i = w i ∧ RD (encF s y w R S o t n c em u l k) i = R i % M256 ∧ SD (encF s y w R S o t n c em u l k) i = S i % M256 ∧ oD (encF s y w R S o t n c em u l k) i = o i := by
    intro i hi
    have hwi := hw i
    have hoi := ho i
    refine ⟨?_, ?_, ?_, ?_⟩
    · show encF s y w R S o t n c em u l k (6 + 66 * i + 0) = _
      rw [E_g hi (by omega)]; unfold sgnB; rw [if_pos (by omega)]; omega
    · refine fr_big fun j hj => ?_
      rw [show 6 + 66 * i + 1 + j = 6 + 66 * i + (1 + j) by omega, E_g hi (by omega)]; unfold sgnB; rw [if_neg (by omega), if_pos (by omega)]; congr 1; omega
    · refine fr_big fun j hj => ?_
      rw [show 6 + 66 * i + 33 + j = 6 + 66 * i + (33 + j) by omega, E_g hi (by omega)]; unfold sgnB; rw [if_neg (by omega), if_neg (by omega), if_pos (by omega)]; congr 1; omega
    · show encF s y w R S o t n c em u l k (6 + 66 * i + 65) = _
      rw [E_g hi (by omega)]; unfold sgnB; rw [if_neg (by omega), if_neg (by omega), if_neg (by omega)]; omega
  have at' : ∀ q j, encF s y w R S o t n c em u l k (6 + 66 * y + q + j) = bodyF t n c em u l k (q + j) := fun q j => by rw [Nat.add_assoc, E_b]
  have et : numB (encF s y w R S o t n c em u l k) (6 + 66 * y) 8 = t := num_big ht.1 (by have := ht.2; omega) fun j hj => by rw [E_b, bF_t hj]
  have en : numB (encF s y w R S o t n c em u l k) (6 + 66 * y + 8) 4 = n := num_big hn.1 hn.2 fun j hj => by rw [at', bF_n hj]
  have ec : numB (encF s y w R S o t n c em u l k) (6 + 66 * y + 12) 2 = c := num_big hc.1 hc.2 fun j hj => by rw [at', bF_c hj]
  have eu : numB (encF s y w R S o t n c em u l k) (6 + 66 * y + 46) 8 = u := num_big hu.1 (by have := hu.2; omega) fun j hj => by rw [at', bF_u hj]
  have et' : i64B (encF s y w R S o t n c em u l k) (6 + 66 * y) = t := by unfold i64B; rw [et, IntKind.wrap_i64]; omega
  have eu' : i64B (encF s y w R S o t n c em u l k) (6 + 66 * y + 46) = u := by unfold i64B; rw [eu, IntKind.wrap_i64]; omega
  have el : encF s y w R S o t n c em u l k (6 + 66 * y + 54) = l := by
    rw [show 6 + 66 * y + 54 = 6 + 66 * y + (54 + 0) by omega, E_b, bF_l (by omega)]
    have h : bigAt 1 l 0 = l % 256 := by unfold bigAt; rw [show 1 - 1 - 0 = 0 from rfl, Int.pow_zero, Int.ediv_one]
    rw [h]; omega
  have f0 : formE (6 + 66 * y + (55 + m)) (encF s y w R S o t n c em u l k) = 0 := by
    unfold formE
    rw [a5, if_neg (by omega), if_neg (fun h => h E_0), if_neg (by omega), if_neg (by omega), if_neg (by omega)]
  have hE : ∀ (w' o' : Nat → Int), (∀ i, i < y → w' i = w i ∧ o' i = o i) → papE s y w' o' t n c u l m = 0 := by
    intro w' o' hwo
    have ha : ∀ z, z ≤ y → allSg w' o' z = true := by
      intro z
      induction z with
      | zero => intro _; rfl
      | succ z ih =>
        intro hz
        have hwi := hw z
        have hoi := ho z
        unfold allSg okSg
        rw [ih (by omega), (hwo z (by omega)).1, (hwo z (by omega)).2, decide_eq_true (show 0 ≤ w z by omega), decide_eq_true (show w z ≤ 255 by omega), decide_eq_true (show 0 ≤ o z by omega), decide_eq_true (show o z ≤ 255 by omega)]
        rfl
    unfold papE bodyE
    rw [if_pos (by omega), if_neg (by omega), if_pos (ha y (Nat.le_refl _)), if_pos (by omega), if_pos hm]
  refine ⟨hE w o fun _ _ => ⟨rfl, rfl⟩, ?_, ?_, es, e5, eo, sg, by rw [eo]; exact et', by rw [eo]; exact en, by rw [eo]; exact ec, fun j hj => by rw [eo, at', bF_e hj], by rw [eo]; exact eu', by rw [eo]; exact el, fun j => by rw [eo, at', bF_k]⟩
  · unfold decE
    rw [if_neg (fun h => h f0), es, e5, eo, et', en, ec, eu', el, show 6 + 66 * y + (55 + m) - (6 + 66 * y + 55) = m by omega]
    exact hE _ _ fun i hi => ⟨(sg i hi).1, (sg i hi).2.2.2⟩
  · intro z hz
    have h4 : formE z (encF s y w R S o t n c em u l k) = 4 := by
      unfold formE
      rw [a5]
      split
      · rfl
      · rw [if_neg (fun h => h E_0)]
        split
        · rfl
        · rw [if_neg (by omega), if_pos (by omega)]
    unfold decE
    rw [if_pos (by rw [h4]; decide), h4]
theorem rd_q {s : Int} {y : Nat} {w : Nat → Int} {R S : Nat → Nat} {o : Nat → Int} {t n c : Int} {em : Nat → Int} {u l : Int} {m : Nat} {k : Nat → Nat → Int}
    (hs : 0 ≤ s ∧ s < 4294967296) (hy : y ≤ 19) (hw : ∀ i, 0 ≤ w i ∧ w i < 256) (ho : ∀ i, 0 ≤ o i ∧ o i < 256) (ht : 0 ≤ t ∧ t < 1099511627776) (hn : 0 ≤ n ∧ n < 4294967296) (hc : 0 ≤ c ∧ c < 65536)
    (hu : 0 ≤ u ∧ u < 1099511627776) (hl : 0 ≤ l ∧ l < 256) (hm : m ≤ 300) {F : Nat → Int} (hF : F = encF s y w R S o t n c em u l k) {N : Nat} (hN : N = 6 + 66 * y + (55 + m)) :
    qE N (fun i _ => SC.val (.int .u8 (F i))) = 0 ∧ qS N (fun i _ => SC.val (.int .u8 (F i))) = s ∧ qN N (fun i _ => SC.val (.int .u8 (F i))) = y ∧ qT N (fun i _ => SC.val (.int .u8 (F i))) = t ∧ qB N (fun i _ => SC.val (.int .u8 (F i))) = n ∧ qC N (fun i _ => SC.val (.int .u8 (F i))) = c ∧
      (∀ j, j < 32 → qM N (fun i _ => SC.val (.int .u8 (F i))) j = em j) ∧ qU N (fun i _ => SC.val (.int .u8 (F i))) = u ∧ qL N (fun i _ => SC.val (.int .u8 (F i))) = l ∧ qZ N (fun i _ => SC.val (.int .u8 (F i))) = m ∧ (∀ z, z < 61 + 66 * y → qE z (fun i _ => SC.val (.int .u8 (F i))) = 4) ∧
      (∀ j, F (oB F + 55 + j) = k j 0) ∧ ∀ i, i < y → wD F i = w i ∧ RD F i = R i % M256 ∧ SD F i = S i % M256 ∧ oD F i = o i := by
  obtain ⟨_, h2, h3, h4, h5, h6, h7, h8, h9, h10, h11, h12, h13, h14⟩ := rd_enc hs hy hw ho ht hn hc hu hl hm hF
  rw [← hN] at h2
  refine ⟨h2, (if_pos h2).trans h4, (if_pos h2).trans h5, (if_pos h2).trans h8, (if_pos h2).trans h9, (if_pos h2).trans h10, fun j hj => (if_pos h2).trans (h11 j hj), (if_pos h2).trans h12, (if_pos h2).trans h13, (if_pos h2).trans ?_, h3, h14, h7⟩
  show N - (oB F + 55) = m
  rw [h6]; omega
theorem same_refl {t n c : Int} {em em' : Nat → Int} {u l : Int} {m : Nat} {k : Nat → Nat → Int} (h : ∀ j, j < 32 → em j = em' j) : sameB t n c em u l m k t n c em' u l m k = true := by
  have e : conj [(List.range 32).all fun j => em j == em' j] = true := by
    rw [conj_all]
    simp only [List.all_cons, List.all_nil, Bool.and_true, id_eq, List.all_eq_true, List.mem_range, beq_iff_eq]
    exact h
  unfold sameB
  rw [e]
  simp only [beq_self_eq_true, Bool.and_self]
end Go.Proofs.Ytajfifmlkgojnaa
end

section
namespace Go.Proofs.Ytajfifmlkgojnaa
open Go.Sx
set_option maxRecDepth 100000
theorem word_in (a b : Int) (s : ByteArray) (j : Nat) : 0 ≤ wordF a b s j ∧ wordF a b s j < 256 := by
  unfold wordF
  split
  · rw [IntKind.wrap_u8]; omega
  · split
    · rw [IntKind.wrap_u8]; omega
    · split
      · have := (s.data.getD j (0 : UInt8)).toNat_lt; omega
      · omega
theorem cut_in (s : ByteArray) (i : Nat) : 0 ≤ cutF s i ∧ cutF s i < 256 := by
  unfold cutF
  have := ((s.extract 0 (cutL s)).data.getD i (0 : UInt8)).toNat_lt; omega
theorem conj_t10 : conj [true, true, true, true, true, true, true, true, true, true] = true := rfl
theorem sgn_at (w : Nat → Int) (R S : Nat → Nat) (o : Nat → Int) (i c : Nat) : sgnF w R S o i c = sgnF (fun _ => w i) (fun _ => R i) (fun _ => S i) (fun _ => o i) i c := by
  unfold sgnF; rfl
set_option maxHeartbeats 1000000 in
theorem ok_PaperBack (a : Option Addr) (n cap : Nat) (K A B : Nat → Int) (s : Nat → ByteArray) (set xk xa xb : Int) (xs : ByteArray) (at_ : Int) (hK : ∀ i, i < n → i64ok (K i) ∧ i64ok (A i) ∧ i64ok (B i)) (hs : i64ok set) (hx : rawP xk xa xb xs) (ha : a = none → n = 0) (hat : i64ok at_) :
    OwesV Try.prog cxPk slPk [(9, .inv (invPk (set % 4294967296) (wrL n) (wrW K) (wrR K A B) (wrS A B) (wrO A) (xa % 1000) (xb % 4294967296) (xk % 65536) (wordF xa xb xs) (IntKind.i64.wrap (xa * xb) % 1099511627776) (xk % 256) (cutL xs) (fun i _ => cutF xs i)))] 30 Try.f4 [.sc (.xs a n cap 4 (rawF K A B s)), sI .i64 set, sRaw xk xa xb xs, sI .i64 at_] yes := by
  rw [vc_PaperBack]
  intro x1 x2 x3 x4 x5 x6 x7 x8 x9 x10 x11 x12 x13 x14 x15 x16 x17 x18 x19 x20 x21 x22 x23 x24 x25 x26
  have hL : wrL n ≤ n ∧ wrL n ≤ 19 := ⟨Nat.min_le_left _ _, Nat.min_le_right _ _⟩
  have hC : cutL xs ≤ 60 := Nat.min_le_right _ _
  have hat' : -9223372036854775808 ≤ at_ ∧ at_ ≤ 9223372036854775807 := hat
  have b1 : 0 ≤ x1 ∧ x1 < 4294967296 := ⟨Int.emod_nonneg _ (by decide), Int.emod_lt_of_pos _ (by decide)⟩
  have b2 : 0 ≤ x2 ∧ x2 < 1000 := ⟨Int.emod_nonneg _ (by decide), Int.emod_lt_of_pos _ (by decide)⟩
  have b3 : 0 ≤ x3 ∧ x3 < 4294967296 := ⟨Int.emod_nonneg _ (by decide), Int.emod_lt_of_pos _ (by decide)⟩
  have b4 : 0 ≤ x4 ∧ x4 < 65536 := ⟨Int.emod_nonneg _ (by decide), Int.emod_lt_of_pos _ (by decide)⟩
  have b5 : 0 ≤ x5 ∧ x5 < 1099511627776 := ⟨Int.emod_nonneg _ (by decide), Int.emod_lt_of_pos _ (by decide)⟩
  have b6 : 0 ≤ x6 ∧ x6 < 256 := ⟨Int.emod_nonneg _ (by decide), Int.emod_lt_of_pos _ (by decide)⟩
  have b2' : 0 ≤ x2 ∧ x2 < 1099511627776 := ⟨b2.1, by omega⟩
  have bw : ∀ i, 0 ≤ wrW K i ∧ wrW K i < 256 := fun i => ⟨Int.emod_nonneg _ (by decide), Int.emod_lt_of_pos _ (by decide)⟩
  have bo : ∀ i, 0 ≤ wrO A i ∧ wrO A i < 256 := fun i => ⟨Int.emod_nonneg _ (by decide), Int.emod_lt_of_pos _ (by decide)⟩
  have hF : eF x1 (wrL n) (pF (rawF K A B s)) x2 x3 x4 (wordF xa xb xs) x5 x6 (bF xs) = encF x1 (wrL n) (wrW K) (fun i => wrR K A B i % M256) (fun i => wrS A B i % M256) (wrO A) x2 x3 x4 (wordF xa xb xs) x5 x6 (fun i _ => cutF xs i) := by
    unfold eF
    rw [show pF (rawF K A B s) = sgnF (wrW K) (wrR K A B) (wrS A B) (wrO A) from rfl, ROf_e, SOf_e, wOf_e, oOf_e]
    rfl
  have r := rd_enc b1 hL.2 bw bo b2' b3 b4 b5 b6 (show cutL xs ≤ 300 by omega) hF
  have h17 : eE x1 (wrL n) (pF (rawF K A B s)) x2 x3 x4 x5 x6 (cutL xs) = 0 := r.1
  have h7 : x7 = 6 + 66 * wrL n + (55 + cutL xs) := if_pos r.1
  obtain ⟨q1, q2, q3, q4, q5, q6, q7, q8, q9, q10, q11, q12, q13⟩ := rd_q b1 hL.2 bw bo b2' b3 b4 b5 b6 (show cutL xs ≤ 300 by omega) hF h7
  have hin : ∀ i, i < x7 → 0 ≤ eF x1 (wrL n) (pF (rawF K A B s)) x2 x3 x4 (wordF xa xb xs) x5 x6 (bF xs) i ∧ eF x1 (wrL n) (pF (rawF K A B s)) x2 x3 x4 (wordF xa xb xs) x5 x6 (bF xs) i < 256 := fun i hi => by
    rw [hF]; exact E_in (fun j _ => word_in _ _ _ j) (fun i _ => cut_in xs i) (by rw [← h7]; exact hi)
  have e17 : x17 = false := by show (eE x1 (wrL n) (pF (rawF K A B s)) x2 x3 x4 x5 x6 (cutL xs) != 0) = false; rw [h17]; rfl
  have e18 : x18 = false := by show (x17 || (_ : Int) != 0) = false; rw [e17, q1]; rfl
  have h11 : x11 = 61 + 66 * (wrL n : Int) := by show IntKind.i64.wrap ((x7 : Int) - (cutL xs : Int)) = _; rw [IntKind.wrap_i64, h7]; omega
  have e19 : x19 = false := by
    show (x18 || x11 != IntKind.i64.wrap (61 + IntKind.i64.wrap (66 * (wrL n : Int)))) = false
    have w1 : IntKind.i64.wrap (66 * (wrL n : Int)) = 66 * (wrL n : Int) := by rw [IntKind.wrap_i64]; omega
    have w2 : IntKind.i64.wrap (61 + 66 * (wrL n : Int)) = 61 + 66 * (wrL n : Int) := by rw [IntKind.wrap_i64]; omega
    rw [e18, w1, w2, h11, bne_self_eq_false]; rfl
  have h12 : x12 = x11 := by show (if (1 : Int) > x11 then (1 : Int) else x11) = x11; rw [if_neg (by omega)]
  have h13 : 0 ≤ x13 ∧ x13 < x12 := ⟨Int.emod_nonneg _ (by omega), Int.emod_lt_of_pos _ (by omega)⟩
  have h14 : x14 < 61 + 66 * wrL n := by have h : x14 = x13.toNat := rfl; omega
  have h10 : x10 = (x7 : Int) := rfl
  have h4 := q11 x14 h14
  have e20 : x20 = x1 := q2
  have e8 : x8 = wrL n := q3
  have e21 : x21 = x2 := q4
  have e22 : x22 = x3 := q5
  have e23 : x23 = x4 := q6
  have e24 : x24 = x5 := q8
  have e25 : x25 = x6 := q9
  have e9 : x9 = cutL xs := q10
  have e26 : x26 = false := by
    show (!smI x2 x3 x4 (wordF xa xb xs) x5 x6 (cutL xs) (bF xs) x21 x22 x23 _ x24 x25 x9 (qD _)) = false
    rw [e21, e22, e23, e24, e25, e9]
    unfold smI
    rw [show kOf (bF xs) = fun i _ => cutF xs i from rfl, show kOf (qD (fun i _ => SC.val (Value.int .u8 (eF x1 (wrL n) (pF (rawF K A B s)) x2 x3 x4 (wordF xa xb xs) x5 x6 (bF xs) i)))) = fun i _ => cutF xs i from funext fun i => funext fun _ => q12 i, same_refl fun j hj => (q7 j hj).symm]
    rfl
  have hp : wrP a n (rawF K A B s) set xk xa xb xs := ⟨rfl, hK, hs, hx, ha⟩
  have hpp : papP (pF (rawF K A B s)) (bF xs) (wrL n) := papP_sgn _ _ _ _ _ (by omega)
  have hd : ∀ z, z ≤ x7 → decP z (kOf fun (i : Nat) (_ : Nat) => SC.val (.int .u8 (eF x1 (wrL n) (pF (rawF K A B s)) x2 x3 x4 (wordF xa xb xs) x5 x6 (bF xs) i))) (fun i _ => SC.val (.int .u8 (eF x1 (wrL n) (pF (rawF K A B s)) x2 x3 x4 (wordF xa xb xs) x5 x6 (bF xs) i))) := fun z hz => ⟨rfl, fun i hi => hin i (by omega), by omega⟩
  have hd1 := hd x7 (Nat.le_refl _)
  have hd2 := hd x14 (by omega)
  have b12 : 0 < x12 ∧ x12 ≤ 1099511627776 := by omega
  have b13 : 0 ≤ x13 ∧ x13 ≤ x10 := by omega
  have hbF : bF xs = u8F (kOf (bF xs)) := rfl
  have kq : ∀ i, i < wrL n → ∀ c, qF (fun (i : Nat) (_ : Nat) => SC.val (.int .u8 (eF x1 (wrL n) (pF (rawF K A B s)) x2 x3 x4 (wordF xa xb xs) x5 x6 (bF xs) i))) i c = sgnF (wrW K) (wrR K A B) (wrS A B) (wrO A) i c := fun i hi c => by
    obtain ⟨w1, w2, w3, w4⟩ := q13 i hi
    show sgnF (wD (eF x1 (wrL n) (pF (rawF K A B s)) x2 x3 x4 (wordF xa xb xs) x5 x6 (bF xs))) (RD (eF x1 (wrL n) (pF (rawF K A B s)) x2 x3 x4 (wordF xa xb xs) x5 x6 (bF xs))) (SD (eF x1 (wrL n) (pF (rawF K A B s)) x2 x3 x4 (wordF xa xb xs) x5 x6 (bF xs))) (oD (eF x1 (wrL n) (pF (rawF K A B s)) x2 x3 x4 (wordF xa xb xs) x5 x6 (bF xs))) i c = _
    rw [sgn_at, w1, w2, w3, w4, Nat.mod_mod, Nat.mod_mod]
    exact (congrFun (congrFun (sgnF_M (fun _ => wrW K i) (fun _ => wrR K A B i) (fun _ => wrS A B i) (fun _ => wrO A i)) i) c).trans (sgn_at ..).symm
  clear_value x7 x8 x9 x10 x11 x12 x13 x14 x15 x16 x17 x18 x19 x20 x21 x22 x23 x24 x25 x26
  simp only [e17, e18, e19, e20, e21, e22, e23, e24, e25, e26, e8, e9, hp, hpp, hd1, hd2, h4, hat', b12, b13, eq_self, true_and, and_true, and_self, implies_true, imp_self, reduceCtorEq, false_imp_iff, forall_const, Bool.not_false, Bool.or_self, bne_self_eq_false, beq_self_eq_true, conj_t10, Bool.not_true]
  intro a1 c1 _ _ a3 c3 _ _ a6 c6 _ _ a9 c9 _ _ a12 c12 _ _ a15 c15 _ _ a18 c18 _ _
  refine ⟨rfl, rfl, fun _ => rfl, ⟨(0, (a1, c1), (a3, c3), (a9, c9), (a12, c12)), Nat.zero_le _, rfl, rfl, ⟨rfl, rfl, fun i _ => ⟨rfl, rfl, rfl, rfl, rfl, rfl, rfl, rfl, rfl, rfl⟩⟩, rfl, rfl, rfl, rfl, rfl, ⟨rfl, rfl⟩, rfl, ⟨rfl, rfl, fun i hi => ?_⟩, rfl, rfl, rfl, q7, rfl, rfl, ⟨rfl, rfl, fun i _ => q12 i⟩, ?_⟩⟩
  · have e := kq i hi
    exact ⟨by rw [e 0]; exact rfl, by rw [e 1]; exact rfl, by rw [e 2]; exact rfl, by rw [e 3]; exact rfl, by rw [e 4]; exact rfl, by rw [e 5]; exact rfl, by rw [e 6]; exact rfl, by rw [e 7]; exact rfl, by rw [e 8]; exact rfl, (q13 i hi).2.2.2⟩
  · intro y hy
    obtain ⟨z, ⟨p1, p2⟩, ⟨p3, p4⟩, ⟨p5, p6⟩, p7, p8⟩ := y
    dsimp only at hy ⊢
    intro hl
    have hl := of_decide_eq_true hl
    exact ⟨⟨by omega, by omega⟩, ⟨by omega, by omega⟩, (z + 1, (p1, p2), (p3, p4), (p5, p6), (p7, p8)), by dsimp only; omega, by rw [IntKind.wrap_i64]; dsimp only; omega, ⟨rfl, rfl, fun i _ => ⟨rfl, rfl, rfl, rfl, rfl, rfl, rfl, rfl, rfl⟩⟩, ⟨rfl, rfl⟩, ⟨rfl, rfl, fun i _ => ⟨rfl, rfl, rfl, rfl, rfl, rfl, rfl, rfl, rfl⟩⟩, ⟨rfl, rfl⟩, by show wrL n - (z + 1) + 1 ≤ wrL n - z; omega⟩
theorem okl_PaperBack (a : Option Addr) (n cap : Nat) (K A B : Nat → Int) (s : Nat → ByteArray) (set xk xa xb : Int) (xs : ByteArray) (at_ : Int) (hK : ∀ i, i < n → i64ok (K i) ∧ i64ok (A i) ∧ i64ok (B i)) (hs : i64ok set) (h1 : i64ok xk) (h2 : i64ok xa) (h3 : i64ok xb) (ha : a = none → n = 0) (hat : i64ok at_) :
    ∃ iv, OwesV Try.prog cxPk slPk iv 30 Try.f4 [.sc (.xs a n cap 4 (rawF K A B s)), sI .i64 set, sRaw xk xa xb xs, sI .i64 at_] yes :=
  ⟨_, ok_PaperBack a n cap K A B s set xk xa xb xs at_ hK hs ⟨h1, h2, h3⟩ ha hat⟩
theorem sl_PB : ∀ p ∈ slPk, FnOKs Try.prog [] p.1 p.2 := oks_cons card_wr (oks_cons card_enI (oks_cons card_deI (oks_cons card_smI oks_nil)))
theorem okx_Pk : CxOK Try.prog cxPk := okx_cons card_pkW (okx_mark (okx_mark (okx_mark (okx_mark okx_nil))))
end Go.Proofs.Ytajfifmlkgojnaa
end

section
namespace Go.Sx
open Go.RowKit Go.ChangeShapes Go.WideShapes
inductive LQ where
  | k (x : LK)
  | sl (ks : List LK)
def LQ.fits (W : World) : LQ → Value → Prop
  | .k x, v => x.fits v
  | .sl ks, v => ∃ (a : Option Addr) (n cap : Nat) (f : Nat → Nat → Value), v = .slice a n cap ∧ n ≤ maxLen ∧ (∀ i, i < n → ∀ (c : Nat) (x : LK), ks[c]? = some x → x.fits (f i c)) ∧
      SC.bnd ⟨fun _ => False, (Rho.whole W).fz⟩ (.xs a n cap ks.length fun i c => .val (f i c))
def fitsQ (W : World) : List LQ → List Value → Prop
  | [], [] => True
  | l :: ls, v :: vs => l.fits W v ∧ fitsQ W ls vs
  | _, _ => False
theorem fitsL_at : ∀ {ks : List LK} {vs : List Value} {c : Nat} {x : LK}, fitsL ks vs → ks[c]? = some x → ∃ v, vs[c]? = some v ∧ x.fits v
  | [], _, _, _, _, h => by simp at h
  | _ :: _, [], _, _, h, _ => h.elim
  | _ :: _, v :: _, 0, _, h, e => by
    simp only [List.getElem?_cons_zero, Option.some.injEq] at e
    subst e
    exact ⟨v, rfl, h.1⟩
  | _ :: _, _ :: _, c + 1, _, h, e => by
    simp only [List.getElem?_cons_succ] at e ⊢
    exact fitsL_at h.2 e
theorem LK.fits_fit {x : LK} {v : Value} (h : x.fits v) : oneCell v = true := by
  cases x <;> cases v <;> first | rfl | exact h.elim
theorem cells_at {w : World} {base : Nat} {a : Addr} {n : Nat} {cs : List Value} (h : w.cells? base a n = some cs) : cs.length = n ∧ ∀ j v, cs[j]? = some v → w.cell? (a.add j) = some v := by
  unfold World.cells? at h
  split at h
  · obtain ⟨h1, h2⟩ := mapM_get h
    rw [List.length_range] at h1
    refine ⟨h1, fun j v hv => ?_⟩
    have hj : j < n := by rw [← h1]; exact (List.getElem?_eq_some_iff.1 hv).1
    obtain ⟨b, hb, hc⟩ := h2 j j (by rw [List.getElem?_range hj])
    rw [hv] at hb
    cases hb
    exact hc
  · cases h
section
variable {H : Type} {enc : TypeId × Value → H} {P : Program} {w : World} {base : Nat} {sp : Nat → Bool} {held : Bool}
theorem trod_sl {fuel : Nat} {t e : TypeId} {ks : List LK} {d : Nat} {cs : List Value} {y : DataW H × List MemPlace} (ht : P.underlying t = some (.slice e)) (he : lks P d e = some ks) (hc : P.cellsOf e = ks.length) (hk : 1 ≤ ks.length)
    (hs : ∀ v ∈ cs, ∀ a n cap, v = .slice (some a) n cap → a.spot = none) (h : DataW.trod enc P w base sp held fuel t cs = some y) : fitsQ w [.sl ks] cs := by
  cases fuel with
  | zero => simp [DataW.trod] at h
  | succ fuel =>
    match cs, h with
    | [], h => simp [DataW.trod, ht] at h
    | _ :: _ :: _, h => simp [DataW.trod, ht] at h
    | [v], h =>
      cases v <;> simp only [DataW.trod, ht] at h <;> try (cases h)
      rename_i a n cap
      cases a with
      | none =>
        match n, cap, h with
        | 0, 0, _ => exact ⟨⟨none, 0, 0, fun _ _ => .nilIface, rfl, Nat.zero_le _, fun i hi => by omega, fun _ => ⟨rfl, rfl⟩, Nat.le_refl _, fun b hb => by cases hb⟩, trivial⟩
        | 0, c + 1, h => simp at h
        | m + 1, c, h => simp at h
      | some a =>
        have hsp : a.spot = none := hs _ (by simp) a n cap rfl
        simp only at h
        split at h
        case isFalse => cases h
        rename_i hb
        obtain ⟨elems, hel, _⟩ := Option.bind_eq_some_iff.1 h
        obtain ⟨h1, h2⟩ := mapM_get hel
        have hrow : ∀ i, i < n → ∃ vs : List Value, fitsL ks vs ∧ ∀ c v, vs[c]? = some v → w.cell? ⟨a.block, a.off + (i * ks.length + c), none⟩ = some v := by
          intro i hi
          obtain ⟨b, _, hb'⟩ := h2 i i (by rw [List.getElem?_range hi])
          obtain ⟨vs, hvs, ht'⟩ := Option.bind_eq_some_iff.1 hb'
          rw [hc] at hvs
          obtain ⟨_, q2⟩ := cells_at hvs
          refine ⟨vs, trod_fits he ht', fun c v hv => ?_⟩
          have := q2 c v hv
          rw [← this, fz_add (add_spot hsp _) c, add_block, add_off, Nat.add_assoc]
        refine ⟨⟨some a, n, cap, fun i c => if h : i < n then (hrow i h).choose.getD c .nilIface else .nilIface, rfl, Nat.le_trans hb.2.1 hb.2.2, fun i hi c x hx => ?_, fun e => (by cases e), hb.2.1, fun b hb' => ?_⟩, trivial⟩
        · obtain ⟨q1, q2⟩ := (hrow i hi).choose_spec
          obtain ⟨v, hv, hf⟩ := fitsL_at q1 hx
          dsimp only
          rw [dif_pos hi, List.getD_eq_getElem?_getD, hv]
          exact hf
        · cases hb'
          refine ⟨hsp, fun i hi c hc' => ?_⟩
          obtain ⟨q1, q2⟩ := (hrow i hi).choose_spec
          obtain ⟨v, hv, hf⟩ := fitsL_at q1 (c := c) (x := ks[c]) (List.getElem?_eq_getElem hc')
          have e : (if h : i < n then (hrow i h).choose.getD c .nilIface else .nilIface) = v := by rw [dif_pos hi, List.getD_eq_getElem?_getD, hv]; rfl
          dsimp only
          rw [e]
          exact ⟨trivial, LK.fits_fit hf, q2 c v hv⟩
theorem spot_cell {r : Reach} {b0 : Nat} {u : TypeId} {a : Addr} {n cap : Nat} (h : Cell.okWide P w r b0 u (.slice (some a) n cap)) : a.spot = none := by
  have h2 : Cell.ok P w r b0 u (.slice (some a) n cap) := by
    unfold Cell.okWide at h
    split at h <;> first | exact h | simp_all
  unfold Cell.ok at h2
  split at h2 <;> first | exact h2.elim | (simp_all; done) | (rename_i e1; cases e1; exact h2.2.2.2.1)
theorem open_sl {d : Nat} {t e : TypeId} {ks : List LK} {r : Reach} {b0 : Nat} {v : Value} {x : DataW H} {ps : List MemPlace} (ht : P.underlying t = some (.slice e)) (he : lks P d e = some ks) (hc : P.cellsOf e = ks.length) (hk : 1 ≤ ks.length)
    (hval : Value.okWide P w r b0 t v) (hd : DataW.Trod enc P w base sp held t v x ps) : (LQ.sl ks).fits w v := by
  obtain ⟨fuel, hf⟩ := hd
  obtain ⟨a, n, cap, rfl⟩ := Go.WideShapes.okWide_slice ht hval
  have hv : (Value.slice a n cap).cells.toList = [.slice a n cap] := rfl
  rw [hv] at hf
  refine (trod_sl ht he hc hk (fun v hv a' n' cap' e => ?_) hf).1
  rw [List.mem_singleton.1 hv] at e
  cases e
  unfold Value.okWide at hval
  rw [ht] at hval
  exact spot_cell hval
theorem xs_told {E : Env} {a : Option Addr} {n cap wd : Nat} {g g' : Nat → Nat → SC} (h : SC.bnd E (.xs a n cap wd g)) (e : ∀ i, i < n → ∀ c, c < wd → (g i c).conc Rho.nil = (g' i c).conc Rho.nil ∧ (g' i c).bnd E.bare ∧ (g' i c).fit = true) : SC.bnd E (.xs a n cap wd g') := by
  obtain ⟨h1, h2, h3⟩ := h
  refine ⟨h1, h2, fun b hb => ⟨(h3 b hb).1, fun i hi c hc => ?_⟩⟩
  obtain ⟨e1, e2, e3⟩ := e i hi c hc
  exact ⟨e2, e3, by rw [← e1]; exact ((h3 b hb).2 i hi c hc).2.2⟩
end
theorem calls_of_owesV {P : Program} {cx : Cx} (hcx : CxOK P cx) {sl : List (Nat × SSpec)} (hsl : ∀ p ∈ sl, FnOKs P cx.gl p.1 p.2) {iv : List (Nat × Hint)} {N : Nat} {f : FuncId} {fn : Func} (hf : P.funcs[f]? = some fn) (hb : fn.body.isSome = true) {args : List SA} {out : SV}
    (h : OwesV P cx sl iv N fn args out) (ρ : Rho) (w : World) (hz : FzOK ρ.fz w) (hg : GlobsOK cx.gl ρ.fz) (hargs : ∀ x ∈ args, x.bnd ⟨fun _ => False, ρ.fz⟩) :
    Calls P f (args.map (SA.conc ρ)).toArray w fun e w' => ∃ v, e = .returned v ∧ (∃ ρ', out.rep ρ' v) ∧ Below w.heap.size w w' := by
  unfold OwesV at h
  refine (calls_of_owesS hcx hsl hf hb h ρ w hz hg hargs).mono ?_
  rintro e w' ⟨v, rfl, hbl, sv, ob', ρ', hp, hr, _⟩
  exact ⟨v, rfl, ⟨ρ', same_sound hp ρ' v hr⟩, hbl⟩
def intV : Value → Int
  | .int _ n => n
  | _ => 0
theorem fit_int {k : IntKind} {v : Value} (h : (LK.int k).fits v) : v = .int k (intV v) ∧ (Lit.int k (intV v)).wf = true := by
  cases v <;> try exact h.elim
  obtain ⟨rfl, h⟩ := h
  exact ⟨rfl, h⟩
end Go.Sx
end
