/-
  Texts: Ks, V31, P61, V32, P62, Kl, V33, P63.
-/
import Derived.Test.YtbfcccoeekonlaaGreatDoorM1
import Derived.Test.YtbfcccoeekonlaaGreatDoorM2
import Derived.Test.YtbfcccoeekonlaaGreatDoorM3
import Derived.Test.YtbfcccoeekonlaaGreatDoorM4
import Derived.Test.YtbfcccoeekonlaaGreatDoorM5
import Derived.Test.YtbfcccoeekonlaaGreatDoorM6
import Derived.Test.YtbfcccoeekonlaaGreatDoorM7
import Derived.Test.YtbfcccoeekonlaaGreatDoorM8
import Derived.Test.YtbfcccoeekonlaaGreatDoorM9
import Derived.Test.YtbfcccoeekonlaaGreatDoorM10
import Derived.Test.YtbfcccoeekonlaaGreatDoorM11
import Derived.Test.YtbfcccoeekonlaaGreatDoorM12
import Derived.Test.YtbfcccoeekonlaaGreatDoorM13
section
/-
  Sponges: cards for what takes one, and bytes in a slice of any length.
-/
namespace Go.Sx
open Go.RowKit

/-- A sponge: its lanes, its held bytes, how many these are. -/
abbrev sSp (L H : Nat → Int) (N : Int) : SA := .agg [.f .u64 25 L, .f .u8 136 H, .c (.val (.int .i64 N))]
def asSp : SA → Option ((Nat → Int) × (Nat → Int) × Int)
  | .agg ks => match sub ks 0 25, sub ks 25 136, sub ks 161 1 with
    | some l, some h, some [.c c] => match asI (.sc c) with
      | some (.i64, n) => if kindAll .u64 l = true ∧ kindAll .u8 h = true ∧ (flat ks).length = 162 then some (selG l, selG h, n) else none
      | _ => none
    | _, _, _ => none
  | _ => none
theorem row_of {ks : List SK} {k : IntKind} {n : Nat} (hk : kindAll k ks = true) (hl : (flat ks).length = n) (ρ : Rho) : concs ρ ks = concs ρ [.f k n (selG ks)] := by
  rw [concs_f]
  apply List.ext_getElem?
  intro j
  rcases Nat.lt_or_ge j n with hj | hj
  · rw [selG_conc hk ρ (by omega), List.getElem?_map, List.getElem?_range hj]; rfl
  · rw [List.getElem?_eq_none (by simp only [concs, List.length_map]; omega), List.getElem?_eq_none (by simpa using hj)]
theorem asSp_canon {x : SA} {L H : Nat → Int} {N : Int} (h : asSp x = some (L, H, N)) (ρ : Rho) : x.conc ρ = (sSp L H N).conc ρ := by
  unfold asSp at h
  split at h
  · rename_i ks
    split at h
    · rename_i l hh c e1 e2 e3
      split at h
      · rename_i n hn
        split at h
        · rename_i hc
          obtain ⟨c1, c2, c3⟩ := hc
          simp only [Option.some.injEq, Prod.mk.injEq] at h
          obtain ⟨rfl, rfl, rfl⟩ := h
          obtain ⟨l1, l2⟩ := concs_sub e1 ρ
          obtain ⟨l3, l4⟩ := concs_sub e2 ρ
          obtain ⟨l5, l6⟩ := concs_sub e3 ρ
          have hlen : (concs ρ ks).length = 162 := by simp [concs, c3]
          have f1 : (flat l).length = 25 := by have := congrArg List.length l2; simp only [concs, List.length_map, List.length_take, List.length_drop] at this; omega
          have f2 : (flat hh).length = 136 := by have := congrArg List.length l4; simp only [concs, List.length_map, List.length_take, List.length_drop] at this; omega
          have hcn : concs ρ [.c c] = [.int .i64 n] := by
            have := asI_sound hn ρ
            simp only [SA.conc] at this
            simp [concs, flat, SK.cells, this]
          simp only [SA.conc]
          congr 1
          congr 1
          rw [concs_cons, concs_cons ρ (.f .u8 136 _), ← row_of c1 f1 ρ, ← row_of c2 f2 ρ]
          have e0 : concs ρ [.c (.val (.int .i64 n))] = concs ρ [.c c] := by rw [hcn]; rfl
          rw [e0, l2, l4, l6]
          have t1 : ((concs ρ ks).drop 161).take 1 = (concs ρ ks).drop 161 := List.take_of_length_le (by simp; omega)
          have t2 : ((concs ρ ks).drop 25).take 136 ++ (concs ρ ks).drop 161 = (concs ρ ks).drop 25 := by
            have := List.take_append_drop 136 ((concs ρ ks).drop 25)
            rw [List.drop_drop] at this
            exact this
          rw [t1, t2, List.drop_zero, List.take_append_drop]
        · cases h
      · cases h
    · cases h
  · cases h
/-- Of a sponge. -/
def specSp (c : (Nat → Int) → (Nat → Int) → Int → List Prop) (g : (Nat → Int) → (Nat → Int) → Int → SV) : FSpec := fun args =>
  match args with
  | [x] => match asSp x with
    | some (L, H, N) => some (c L H N, g L H N)
    | none => none
  | _ => none
theorem bnd_sSp (L H : Nat → Int) (N : Int) (n : Env) : (sSp L H N).bnd n := by
  intro k hk
  simp only [List.mem_cons, List.not_mem_nil, or_false] at hk
  rcases hk with rfl | rfl | rfl <;> trivial
theorem FnOK_Sp {P : Program} {cx : Cx} (hcx : CxOK P cx) {c : (Nat → Int) → (Nat → Int) → Int → List Prop} {g : (Nat → Int) → (Nat → Int) → Int → SV} {iv : (Nat → Int) → (Nat → Int) → Int → List (Nat × Hint)} {N : Nat} {f : Nat} {fn : Func} (hf : P.funcs[f]? = some fn) (hb : fn.body.isSome = true) (hn : (fn.name == "runtime.NumGoroutine") = false) (hg : ∀ L H N, (g L H N).bnd none0)
    (h : ∀ L H M, Ok (c L H M) → Owes P cx (iv L H M) N fn [sSp L H M] (g L H M)) : FnOKg P cx.gl f (specSp c g) := by
  refine FnOK_owesG hcx hf hb hn fun args ps sv hs hp => ?_
  unfold specSp at hs
  split at hs
  · rename_i x
    split at hs
    · rename_i L H M hx
      simp only [Option.some.injEq, Prod.mk.injEq] at hs
      obtain ⟨rfl, rfl⟩ := hs
      exact ⟨iv L H M, N, [sSp L H M], fun ρ => by rw [List.map_singleton, List.map_singleton, asSp_canon hx ρ], fun fz _ z hz => by simp only [List.mem_singleton] at hz; subst hz; exact bnd_sSp _ _ _ _, hg L H M, h L H M hp⟩
    · cases hs
  · cases hs
/-- Bytes in a slice of any length, that nobody turns. -/
abbrev sXs (a : Option Addr) (n cap : Nat) (f : Nat → Int) : SA := .sc (.xs a n cap 1 fun i _ => .val (.int .u8 (f i)))
def asBs : SA → Option (List Prop × Option Addr × Nat × Nat × (Nat → Int))
  | .sc (.xs a n cap w g) => if w = 1 then some ([∀ j, isKind .u8 (g j 0)], a, n, cap, fun j => intsC (g j 0)) else none
  | .sc (.val (.slice none 0 0)) => some ([], none, 0, 0, fun _ => 0)
  | _ => none
theorem asBs_canon {x : SA} {ps : List Prop} {a : Option Addr} {n cap : Nat} {f : Nat → Int} (h : asBs x = some (ps, a, n, cap, f)) (hp : Ok ps) : (∀ ρ, x.conc ρ = (sXs a n cap f).conc ρ) ∧ ∀ fz, x.bnd ⟨fun _ => True, fz⟩ → (sXs a n cap f).bnd ⟨fun _ => False, fz⟩ := by
  unfold asBs at h
  split at h
  · rename_i a' n' cap' w g
    split at h
    · rename_i hw
      subst hw
      simp only [Option.some.injEq, Prod.mk.injEq] at h
      obtain ⟨rfl, rfl, rfl, rfl, rfl⟩ := h
      obtain ⟨hk, _⟩ := hp
      refine ⟨fun ρ => rfl, fun fz hb => ?_⟩
      obtain ⟨k1, k2, k3⟩ := hb
      refine ⟨k1, k2, fun b hb => ⟨(k3 b hb).1, fun i hi c hc => ⟨trivial, rfl, ?_⟩⟩⟩
      have hc0 : c = 0 := by omega
      subst hc0
      have := ((k3 b hb).2 i hi 0 hc).2.2
      rw [isKind_sound (hk i) Rho.nil] at this
      exact this
    · cases h
  · simp only [Option.some.injEq, Prod.mk.injEq] at h
    obtain ⟨rfl, rfl, rfl, rfl, rfl⟩ := h
    exact ⟨fun ρ => rfl, fun fz _ => ⟨fun _ => ⟨rfl, rfl⟩, Nat.le_refl _, fun b hb => by cases hb⟩⟩
  · cases h
/-- Of a sponge and bytes. -/
def specSpB (c : (Nat → Int) → (Nat → Int) → Int → Nat → (Nat → Int) → List Prop) (g : (Nat → Int) → (Nat → Int) → Int → Nat → (Nat → Int) → SV) : FSpec := fun args =>
  match args with
  | [x, y] => match asSp x, asBs y with
    | some (L, H, N), some (ps, _, n, _, f) => some (ps ++ c L H N n f, g L H N n f)
    | _, _ => none
  | _ => none
theorem FnOK_SpB {P : Program} {cx : Cx} (hcx : CxOK P cx) {c : (Nat → Int) → (Nat → Int) → Int → Nat → (Nat → Int) → List Prop} {g : (Nat → Int) → (Nat → Int) → Int → Nat → (Nat → Int) → SV} {iv : (Nat → Int) → (Nat → Int) → Int → Option Addr → Nat → Nat → (Nat → Int) → List (Nat × Hint)} {N : Nat} {f : Nat} {fn : Func} (hf : P.funcs[f]? = some fn) (hb : fn.body.isSome = true) (hn : (fn.name == "runtime.NumGoroutine") = false) (hg : ∀ L H N n f, (g L H N n f).bnd none0)
    (h : ∀ L H M a n cap b, Ok (c L H M n b) → Owes P cx (iv L H M a n cap b) N fn [sSp L H M, sXs a n cap b] (g L H M n b)) : FnOKg P cx.gl f (specSpB c g) := by
  refine FnOK_owesG hcx hf hb hn fun args ps sv hs hp => ?_
  unfold specSpB at hs
  split at hs
  · rename_i x y
    split at hs
    · rename_i L H M ps' a n cap b hx hy
      simp only [Option.some.injEq, Prod.mk.injEq] at hs
      obtain ⟨rfl, rfl⟩ := hs
      obtain ⟨o1, o2⟩ := Ok.append.1 hp
      obtain ⟨k1, k2⟩ := asBs_canon hy o1
      refine ⟨iv L H M a n cap b, N, [sSp L H M, sXs a n cap b], fun ρ => by simp only [List.map_cons, List.map_nil, asSp_canon hx ρ, k1 ρ], fun fz ha z hz => ?_, hg L H M n b, h L H M a n cap b o2⟩
      simp only [List.mem_cons, List.not_mem_nil, or_false] at hz
      rcases hz with rfl | rfl
      · exact bnd_sSp _ _ _ _
      · exact k2 fz (ha y (by simp))
    · cases hs
  · cases hs
/-- Of bytes. -/
def specBs (c : Nat → (Nat → Int) → List Prop) (g : Nat → (Nat → Int) → SV) : FSpec := fun args =>
  match args with
  | [y] => match asBs y with
    | some (ps, _, n, _, f) => some (ps ++ c n f, g n f)
    | _ => none
  | _ => none
theorem FnOK_Bs {P : Program} {cx : Cx} (hcx : CxOK P cx) {c : Nat → (Nat → Int) → List Prop} {g : Nat → (Nat → Int) → SV} {iv : Option Addr → Nat → Nat → (Nat → Int) → List (Nat × Hint)} {N : Nat} {f : Nat} {fn : Func} (hf : P.funcs[f]? = some fn) (hb : fn.body.isSome = true) (hn : (fn.name == "runtime.NumGoroutine") = false) (hg : ∀ n f, (g n f).bnd none0)
    (h : ∀ a n cap b, Ok (c n b) → Owes P cx (iv a n cap b) N fn [sXs a n cap b] (g n b)) : FnOKg P cx.gl f (specBs c g) := by
  refine FnOK_owesG hcx hf hb hn fun args ps sv hs hp => ?_
  unfold specBs at hs
  split at hs
  · rename_i y
    split at hs
    · rename_i ps' a n cap b hy
      simp only [Option.some.injEq, Prod.mk.injEq] at hs
      obtain ⟨rfl, rfl⟩ := hs
      obtain ⟨o1, o2⟩ := Ok.append.1 hp
      obtain ⟨k1, k2⟩ := asBs_canon hy o1
      refine ⟨iv a n cap b, N, [sXs a n cap b], fun ρ => by simp only [List.map_cons, List.map_nil, k1 ρ], fun fz ha z hz => ?_, hg n b, h a n cap b o2⟩
      simp only [List.mem_singleton] at hz
      subst hz
      exact k2 fz (ha y (by simp))
    · cases hs
  · cases hs

/-- A card that says less. -/
theorem FnOKg_weak {P : Program} {gl : Globs} {f : Nat} {s s' : FSpec} (h : FnOKg P gl f s) (hs : ∀ args ps sv', s' args = some (ps, sv') → Ok ps → sv'.bnd none0 ∧ ∃ ps0 sv, s args = some (ps0, sv) ∧ Ok ps0 ∧ ∀ ρ v, sv.rep ρ v → sv'.rep ρ v) : FnOKg P gl f s' := by
  intro args ps sv' h' hp
  obtain ⟨hb, ps0, sv, h0, hp0, hr⟩ := hs args ps sv' h' hp
  refine ⟨hb, fun ρ w hz hg ha => ?_⟩
  rcases (h args ps0 sv h0 hp0).2 ρ w hz hg ha with ⟨r, hc⟩ | ⟨v, r, hv⟩
  · refine .inl ⟨r, hc.mono ?_⟩
    rintro e w' ⟨v, rfl, hv, hbl⟩
    exact ⟨v, rfl, hr ρ v hv, hbl⟩
  · exact .inr ⟨v, r, hr ρ v hv⟩

/-! ## What is soaked -/
def shB (x : Int) (k : Nat) : BitVec 64 := BitVec.ofInt 64 (IntKind.u64.wrap (IntKind.u64.wrap x * 2 ^ k))
def absB (a : Nat → BitVec 64) (H : Nat → Int) : Nat → Nat → BitVec 64
  | 0 => a
  | i + 1 => fun j => if j = i / 8 then absB a H i j ^^^ shB (H i) (i % 8 * 8) else absB a H i j
def soakB (a : Nat → BitVec 64) (H : Nat → Int) : Nat → BitVec 64 := turnB (absB a H 136)
def firstG (L : Nat → Int) (i : Nat) : Int := IntKind.u8.wrap ((L (i / 8)).fdiv (2 ^ (i % 8 * 8)))
structure Sp where
  a : Nat → BitVec 64
  H : Nat → Int
  n : Nat
/-- One byte more. -/
def pushB (s : Sp) (b : Int) : Sp :=
  if s.n + 1 = 136 then ⟨soakB s.a (fun j => if j = s.n then b else s.H j), fun _ => 0, 0⟩ else ⟨s.a, fun j => if j = s.n then b else s.H j, s.n + 1⟩
def addB (s : Sp) (f : Nat → Int) : Nat → Sp
  | 0 => s
  | p + 1 => pushB (addB s f p) (f p)
/-- What ends the bytes. -/
def pad1 (H : Nat → Int) (n : Nat) (j : Nat) : Int := if j = n then IntKind.u8.wrap (H j + 1) else H j
def padB (H : Nat → Int) (n : Nat) (j : Nat) : Int := if j = 135 then IntKind.u8.wrap (pad1 H n 135 + 128) else pad1 H n j
def endB (s : Sp) (j : Nat) : Int := firstG (fun i => lw (soakB s.a (padB s.H s.n) i)) j
def specRow (k k' : IntKind) (n m : Nat) (c : (Nat → Int) → List Prop) (F : (Nat → Int) → Nat → Int) : FSpec := fun args =>
  match args with
  | [x] => match asRow k n x with
    | some g => some (c g, .one (sRow k' m (F g)))
    | none => none
  | _ => none
theorem FnOK_row {P : Program} {cx : Cx} (hcx : CxOK P cx) {k k' : IntKind} {n m : Nat} {c : (Nat → Int) → List Prop} {F : (Nat → Int) → Nat → Int} {iv : (Nat → Int) → List (Nat × Hint)} {N : Nat} {f : Nat} {fn : Func} (hf : P.funcs[f]? = some fn) (hb : fn.body.isSome = true) (hn : (fn.name == "runtime.NumGoroutine") = false)
    (h : ∀ g, Ok (c g) → Owes P cx (iv g) N fn [sRow k n g] (.one (sRow k' m (F g)))) : FnOKg P cx.gl f (specRow k k' n m c F) := by
  refine FnOK_owesG hcx hf hb hn fun args ps sv hs hp => ?_
  unfold specRow at hs
  split at hs
  · rename_i x
    split at hs
    · rename_i g hg
      simp only [Option.some.injEq, Prod.mk.injEq] at hs
      obtain ⟨rfl, rfl⟩ := hs
      refine ⟨iv g, N, [sRow k n g], fun ρ => by rw [List.map_singleton, List.map_singleton, asRow_canon hg ρ], fun fz _ z hz => ?_, ?_, h g hp⟩
      · simp only [List.mem_singleton] at hz; subst hz; intro k hk; simp only [List.mem_singleton] at hk; subst hk; trivial
      · intro k hk; simp only [List.mem_singleton] at hk; subst hk; trivial
    · cases hs
  · cases hs
end Go.Sx
end

section
/-
  Duties of package keccak: what each function comes to, part 2.
-/
namespace Go.Proofs.YtbfcccoeekonlaaGreatDoor
open Go Go.Sx Go.RowKit
def cxKTurn : Cx := ⟨[(112, specLanes 25 25 thetaB), (111, specLanes 25 25 scatB), (110, specLanes 25 25 chiB)], glK, 0⟩
def kRow25 (a : Nat → BitVec 64) : List SK := [.f .u64 25 fun i => lw (a i)]
def rcSK : List SK := [.c (.num .u64 1), .c (.num .u64 32898), .c (.num .u64 9223372036854808714), .c (.num .u64 9223372039002292224), .c (.num .u64 32907), .c (.num .u64 2147483649), .c (.num .u64 9223372039002292353), .c (.num .u64 9223372036854808585), .c (.num .u64 138), .c (.num .u64 136), .c (.num .u64 2147516425), .c (.num .u64 2147483658), .c (.num .u64 2147516555), .c (.num .u64 9223372036854775947), .c (.num .u64 9223372036854808713), .c (.num .u64 9223372036854808579), .c (.num .u64 9223372036854808578), .c (.num .u64 9223372036854775936), .c (.num .u64 32778), .c (.num .u64 9223372039002259466), .c (.num .u64 9223372039002292353), .c (.num .u64 9223372036854808704), .c (.num .u64 2147483649), .c (.num .u64 9223372039002292232)]
def invTurn (a : Nat → BitVec 64) : Inv where
  X := Nat
  tm r := slotsAt 20 [(1, .one (.sc (.ptr 0 0))), (2, .one (.sc (.ptr 1 0))), (5, .one (.agg rcSK)), (6, .one (sI .i64 (r : Int)))]
  ob r := [.cells 103 (kRow25 (roundsB r a)) 0, .cells 103 (List.replicate 25 (.c (.num .u64 0))) 0]
  holds r := r ≤ 24
  less r := 24 - r
def mayG (H : Nat → Int) (N : Int) : Bool := decide (0 ≤ N ∧ N < 136) && (List.range (136 - N.toNat)).all fun j => H (N.toNat + j) == 0
def invMay (L H : Nat → Int) (N : Int) : Inv where
  X := Nat
  tm i := slotsAt 25 [(1, .one (.sc (.ptr 0 0))), (16, .one (.sc (.sls 0 25 N.toNat 136 (136 - N.toNat)))), (17, .one (sI .i64 ((136 - N.toNat : Nat) : Int))), (18, .one (sI .i64 (i : Int)))]
  ob _ := [.cells 106 [.f .u64 25 L, .f .u8 136 H, .c (.val (.int .i64 N))] 0]
  holds i := 0 ≤ N ∧ N < 136 ∧ i ≤ 136 - N.toNat ∧ ∀ j, j < i → H (N.toNat + j) = 0
  less i := 136 - i
def invSoak (a : Nat → BitVec 64) (H : Nat → Int) (N : Int) : Inv where
  X := Nat
  tm i := slotsAt 30 [(1, .one (.sc (.ptr 0 0))), (2, .one (.sc (.ptr 1 0))), (6, .one (.agg [.f .u8 136 H])), (7, .one (sI .i64 (i : Int)))]
  ob i := [.cells 106 [.f .u64 25 (fun j => lw (absB a H i j)), .f .u8 136 H, .c (.val (.int .i64 N))] 0, .cells 106 (List.replicate 25 (.c (.num .u64 0)) ++ List.replicate 136 (.c (.num .u8 0)) ++ [.c (.num .i64 0)]) 0]
  holds i := i ≤ 136
  less i := 136 - i
def zeroSp : List SK := [.f .u8 136 (fun _ => 0), .c (.num .i64 0)]
def invFirst (L : Nat → Int) : Inv where
  X := Nat
  tm i := slotsAt 21 [(1, .one (.sc (.ptr 0 0))), (2, .one (.sc (.ptr 1 0))), (3, .one (.sc (.ptr 2 0))), (5, .one (sI .i64 (i : Int)))]
  ob i := [.cells 103 [.f .u64 25 L] 0, .cells 40 (List.replicate 32 (.c (.num .u8 0))) 0, .cells 40 [.f .u8 32 (fun j => if j < i then firstG L j else 0)] 0]
  holds i := i ≤ 32
  less i := 32 - i
-- VC vc_Turn HASH 3d7d6344f39c43da
theorem vc_Turn (a : Nat → BitVec 64) :
    Owes Tryz.prog cxKTurn [(2, .inv (invTurn a))] 30 Tryz.f105 [sRow .u64 25 fun i => lw (a i)] (.one (sRow .u64 25 fun i => lw (turnB a i))) =
    ((∀ (y : Nat), Go.Sx.closedB (Go.Sx.slotsAt (20 : Nat) [((1 : Nat), Go.Sx.SV.one (Go.Sx.SA.sc (Go.Sx.SC.ptr (0 : Nat) (0 : Nat)))), ((2 : Nat), Go.Sx.SV.one (Go.Sx.SA.sc (Go.Sx.SC.ptr (1 : Nat) (0 : Nat)))), ((5 : Nat), Go.Sx.SV.one (Go.Sx.SA.agg rcSK)), ((6 : Nat), Go.Sx.SV.one (Go.Sx.sI Go.IntKind.i64 (↑y : Int)))]) [Go.Sx.SO.cells (103 : Go.TypeId) (kRow25 (Go.Sx.roundsB y a)) (0 : Nat), Go.Sx.SO.cells (103 : Go.TypeId) (List.replicate (25 : Nat) (Go.Sx.SK.c (Go.Sx.SC.num Go.IntKind.u64 (0 : Int)))) (0 : Nat)] = Bool.true) ∧ ∃ (y : Nat), y ≤ (24 : Nat) ∧ (0 : Int) = (↑y : Int) ∧ ((∀ (j : Nat), j < (25 : Nat) → Go.Sx.lw (a j) = Go.Sx.lw (Go.Sx.roundsB y a j)) ∧ True) ∧ (0 : Nat) = (0 : Nat) ∧ (0 : Nat) = (0 : Nat) ∧ ∀ (y : Nat), y ≤ (24 : Nat) → (Decidable.decide ((↑y : Int) < (24 : Int)) = Bool.true → ((0 : Int) ≤ (↑y : Int) ∧ (↑y : Int) < (24 : Int)) ∧ (∀ (i : Nat), i < (25 : Nat) → (0 : Int) ≤ Go.Sx.lw (Go.Sx.roundsB y a i) ∧ Go.Sx.lw (Go.Sx.roundsB y a i) < (18446744073709551616 : Int)) ∧ (∀ (i : Nat), i < (25 : Nat) → (0 : Int) ≤ Go.Sx.lw (Go.Sx.thetaB (Go.Sx.ofRow fun (i : Nat) => Go.Sx.lw (Go.Sx.roundsB y a i)) i) ∧ Go.Sx.lw (Go.Sx.thetaB (Go.Sx.ofRow fun (i : Nat) => Go.Sx.lw (Go.Sx.roundsB y a i)) i) < (18446744073709551616 : Int)) ∧ (∀ (i : Nat), i < (25 : Nat) → (0 : Int) ≤ Go.Sx.lw (Go.Sx.scatB (Go.Sx.ofRow fun (i : Nat) => Go.Sx.lw (Go.Sx.thetaB (Go.Sx.ofRow fun (i : Nat) => Go.Sx.lw (Go.Sx.roundsB y a i)) i)) i) ∧ Go.Sx.lw (Go.Sx.scatB (Go.Sx.ofRow fun (i : Nat) => Go.Sx.lw (Go.Sx.thetaB (Go.Sx.ofRow fun (i : Nat) => Go.Sx.lw (Go.Sx.roundsB y a i)) i)) i) < (18446744073709551616 : Int)) ∧ ∃ (y' : Nat), y' ≤ (24 : Nat) ∧ Go.IntKind.i64.wrap ((↑y : Int) + (1 : Int)) = (↑y' : Int) ∧ (Go.IntKind.u64.wrap (↑(BitVec.ofInt (64 : Nat) (Go.Sx.lw (Go.Sx.chiB (Go.Sx.ofRow fun (i : Nat) => Go.Sx.lw (Go.Sx.scatB (Go.Sx.ofRow fun (i : Nat) => Go.Sx.lw (Go.Sx.thetaB (Go.Sx.ofRow fun (i : Nat) => Go.Sx.lw (Go.Sx.roundsB y a i)) i)) i)) (0 : Nat))) ^^^ BitVec.ofInt (64 : Nat) ((Go.Sx.intsL [Go.Sx.SK.c (Go.Sx.SC.num Go.IntKind.u64 (1 : Int)), Go.Sx.SK.c (Go.Sx.SC.num Go.IntKind.u64 (32898 : Int)), Go.Sx.SK.c (Go.Sx.SC.num Go.IntKind.u64 (9223372036854808714 : Int)), Go.Sx.SK.c (Go.Sx.SC.num Go.IntKind.u64 (9223372039002292224 : Int)), Go.Sx.SK.c (Go.Sx.SC.num Go.IntKind.u64 (32907 : Int)), Go.Sx.SK.c (Go.Sx.SC.num Go.IntKind.u64 (2147483649 : Int)), Go.Sx.SK.c (Go.Sx.SC.num Go.IntKind.u64 (9223372039002292353 : Int)), Go.Sx.SK.c (Go.Sx.SC.num Go.IntKind.u64 (9223372036854808585 : Int)), Go.Sx.SK.c (Go.Sx.SC.num Go.IntKind.u64 (138 : Int)), Go.Sx.SK.c (Go.Sx.SC.num Go.IntKind.u64 (136 : Int)), Go.Sx.SK.c (Go.Sx.SC.num Go.IntKind.u64 (2147516425 : Int)), Go.Sx.SK.c (Go.Sx.SC.num Go.IntKind.u64 (2147483658 : Int)), Go.Sx.SK.c (Go.Sx.SC.num Go.IntKind.u64 (2147516555 : Int)), Go.Sx.SK.c (Go.Sx.SC.num Go.IntKind.u64 (9223372036854775947 : Int)), Go.Sx.SK.c (Go.Sx.SC.num Go.IntKind.u64 (9223372036854808713 : Int)), Go.Sx.SK.c (Go.Sx.SC.num Go.IntKind.u64 (9223372036854808579 : Int)), Go.Sx.SK.c (Go.Sx.SC.num Go.IntKind.u64 (9223372036854808578 : Int)), Go.Sx.SK.c (Go.Sx.SC.num Go.IntKind.u64 (9223372036854775936 : Int)), Go.Sx.SK.c (Go.Sx.SC.num Go.IntKind.u64 (32778 : Int)), Go.Sx.SK.c (Go.Sx.SC.num Go.IntKind.u64 (9223372039002259466 : Int)), Go.Sx.SK.c (Go.Sx.SC.num Go.IntKind.u64 (9223372039002292353 : Int)), Go.Sx.SK.c (Go.Sx.SC.num Go.IntKind.u64 (9223372036854808704 : Int)), Go.Sx.SK.c (Go.Sx.SC.num Go.IntKind.u64 (2147483649 : Int)), Go.Sx.SK.c (Go.Sx.SC.num Go.IntKind.u64 (9223372039002292232 : Int))]).getD (↑y : Int).toNat (0 : Int))).toNat : Int) = Go.Sx.lw (Go.Sx.roundsB y' a (0 : Nat)) ∧ Go.Sx.lw (Go.Sx.chiB (Go.Sx.ofRow fun (i : Nat) => Go.Sx.lw (Go.Sx.scatB (Go.Sx.ofRow fun (i : Nat) => Go.Sx.lw (Go.Sx.thetaB (Go.Sx.ofRow fun (i : Nat) => Go.Sx.lw (Go.Sx.roundsB y a i)) i)) i)) (1 : Nat)) = Go.Sx.lw (Go.Sx.roundsB y' a (1 : Nat)) ∧ Go.Sx.lw (Go.Sx.chiB (Go.Sx.ofRow fun (i : Nat) => Go.Sx.lw (Go.Sx.scatB (Go.Sx.ofRow fun (i : Nat) => Go.Sx.lw (Go.Sx.thetaB (Go.Sx.ofRow fun (i : Nat) => Go.Sx.lw (Go.Sx.roundsB y a i)) i)) i)) (2 : Nat)) = Go.Sx.lw (Go.Sx.roundsB y' a (2 : Nat)) ∧ Go.Sx.lw (Go.Sx.chiB (Go.Sx.ofRow fun (i : Nat) => Go.Sx.lw (Go.Sx.scatB (Go.Sx.ofRow fun (i : Nat) => Go.Sx.lw (Go.Sx.thetaB (Go.Sx.ofRow fun (i : Nat) => Go.Sx.lw (Go.Sx.roundsB y a i)) i)) i)) (3 : Nat)) = Go.Sx.lw (Go.Sx.roundsB y' a (3 : Nat)) ∧ Go.Sx.lw (Go.Sx.chiB (Go.Sx.ofRow fun (i : Nat) => Go.Sx.lw (Go.Sx.scatB (Go.Sx.ofRow fun (i : Nat) => Go.Sx.lw (Go.Sx.thetaB (Go.Sx.ofRow fun (i : Nat) => Go.Sx.lw (Go.Sx.roundsB y a i)) i)) i)) (4 : Nat)) = Go.Sx.lw (Go.Sx.roundsB y' a (4 : Nat)) ∧ Go.Sx.lw (Go.Sx.chiB (Go.Sx.ofRow fun (i : Nat) => Go.Sx.lw (Go.Sx.scatB (Go.Sx.ofRow fun (i : Nat) => Go.Sx.lw (Go.Sx.thetaB (Go.Sx.ofRow fun (i : Nat) => Go.Sx.lw (Go.Sx.roundsB y a i)) i)) i)) (5 : Nat)) = Go.Sx.lw (Go.Sx.roundsB y' a (5 : Nat)) ∧ Go.Sx.lw (Go.Sx.chiB (Go.Sx.ofRow fun (i : Nat) => Go.Sx.lw (Go.Sx.scatB (Go.Sx.ofRow fun (i : Nat) => Go.Sx.lw (Go.Sx.thetaB (Go.Sx.ofRow fun (i : Nat) => Go.Sx.lw (Go.Sx.roundsB y a i)) i)) i)) (6 : Nat)) = Go.Sx.lw (Go.Sx.roundsB y' a (6 : Nat)) ∧ Go.Sx.lw (Go.Sx.chiB (Go.Sx.ofRow fun (i : Nat) => Go.Sx.lw (Go.Sx.scatB (Go.Sx.ofRow fun (i : Nat) => Go.Sx.lw (Go.Sx.thetaB (Go.Sx.ofRow fun (i : Nat) => Go.Sx.lw (Go.Sx.roundsB y a i)) i)) i)) (7 : Nat)) = Go.Sx.lw (Go.Sx.roundsB y' a (7 : Nat)) ∧ Go.Sx.lw (Go.Sx.chiB (Go.Sx.ofRow fun (i : Nat) => Go.Sx.lw (Go.Sx.scatB (Go.Sx.ofRow fun (i : Nat) => Go.Sx.lw (Go.Sx.thetaB (Go.Sx.ofRow fun (i : Nat) => Go.Sx.lw (Go.Sx.roundsB y a i)) i)) i)) (8 : Nat)) = Go.Sx.lw (Go.Sx.roundsB y' a (8 : Nat)) ∧ Go.Sx.lw (Go.Sx.chiB (Go.Sx.ofRow fun (i : Nat) => Go.Sx.lw (Go.Sx.scatB (Go.Sx.ofRow fun (i : Nat) => Go.Sx.lw (Go.Sx.thetaB (Go.Sx.ofRow fun (i : Nat) => Go.Sx.lw (Go.Sx.roundsB y a i)) i)) i)) (9 : Nat)) = Go.Sx.lw (Go.Sx.roundsB y' a (9 : Nat)) ∧ Go.Sx.lw (Go.Sx.chiB (Go.Sx.ofRow fun (i : Nat) => Go.Sx.lw (Go.Sx.scatB (Go.Sx.ofRow fun (i : Nat) => Go.Sx.lw (Go.Sx.thetaB (Go.Sx.ofRow fun (i : Nat) => Go.Sx.lw (Go.Sx.roundsB y a i)) i)) i)) (10 : Nat)) = Go.Sx.lw (Go.Sx.roundsB y' a (10 : Nat)) ∧ Go.Sx.lw (Go.Sx.chiB (Go.Sx.ofRow fun (i : Nat) => Go.Sx.lw (Go.Sx.scatB (Go.Sx.ofRow fun (i : Nat) => Go.Sx.lw (Go.Sx.thetaB (Go.Sx.ofRow fun (i : Nat) => Go.Sx.lw (Go.Sx.roundsB y a i)) i)) i)) (11 : Nat)) = Go.Sx.lw (Go.Sx.roundsB y' a (11 : Nat)) ∧ Go.Sx.lw (Go.Sx.chiB (Go.Sx.ofRow fun (i : Nat) => Go.Sx.lw (Go.Sx.scatB (Go.Sx.ofRow fun (i : Nat) => Go.Sx.lw (Go.Sx.thetaB (Go.Sx.ofRow fun (i : Nat) => Go.Sx.lw (Go.Sx.roundsB y a i)) i)) i)) (12 : Nat)) = Go.Sx.lw (Go.Sx.roundsB y' a (12 : Nat)) ∧ Go.Sx.lw (Go.Sx.chiB (Go.Sx.ofRow fun (i : Nat) => Go.Sx.lw (Go.Sx.scatB (Go.Sx.ofRow fun (i : Nat) => Go.Sx.lw (Go.Sx.thetaB (Go.Sx.ofRow fun (i : Nat) => Go.Sx.lw (Go.Sx.roundsB y a i)) i)) i)) (13 : Nat)) = Go.Sx.lw (Go.Sx.roundsB y' a (13 : Nat)) ∧ Go.Sx.lw (Go.Sx.chiB (Go.Sx.ofRow fun (i : Nat) => Go.Sx.lw (Go.Sx.scatB (Go.Sx.ofRow fun (i : Nat) => Go.Sx.lw (Go.Sx.thetaB (Go.Sx.ofRow fun (i : Nat) => Go.Sx.lw (Go.Sx.roundsB y a i)) i)) i)) (14 : Nat)) = Go.Sx.lw (Go.Sx.roundsB y' a (14 : Nat)) ∧ Go.Sx.lw (Go.Sx.chiB (Go.Sx.ofRow fun (i : Nat) => Go.Sx.lw (Go.Sx.scatB (Go.Sx.ofRow fun (i : Nat) => Go.Sx.lw (Go.Sx.thetaB (Go.Sx.ofRow fun (i : Nat) => Go.Sx.lw (Go.Sx.roundsB y a i)) i)) i)) (15 : Nat)) = Go.Sx.lw (Go.Sx.roundsB y' a (15 : Nat)) ∧ Go.Sx.lw (Go.Sx.chiB (Go.Sx.ofRow fun (i : Nat) => Go.Sx.lw (Go.Sx.scatB (Go.Sx.ofRow fun (i : Nat) => Go.Sx.lw (Go.Sx.thetaB (Go.Sx.ofRow fun (i : Nat) => Go.Sx.lw (Go.Sx.roundsB y a i)) i)) i)) (16 : Nat)) = Go.Sx.lw (Go.Sx.roundsB y' a (16 : Nat)) ∧ Go.Sx.lw (Go.Sx.chiB (Go.Sx.ofRow fun (i : Nat) => Go.Sx.lw (Go.Sx.scatB (Go.Sx.ofRow fun (i : Nat) => Go.Sx.lw (Go.Sx.thetaB (Go.Sx.ofRow fun (i : Nat) => Go.Sx.lw (Go.Sx.roundsB y a i)) i)) i)) (17 : Nat)) = Go.Sx.lw (Go.Sx.roundsB y' a (17 : Nat)) ∧ Go.Sx.lw (Go.Sx.chiB (Go.Sx.ofRow fun (i : Nat) => Go.Sx.lw (Go.Sx.scatB (Go.Sx.ofRow fun (i : Nat) => Go.Sx.lw (Go.Sx.thetaB (Go.Sx.ofRow fun (i : Nat) => Go.Sx.lw (Go.Sx.roundsB y a i)) i)) i)) (18 : Nat)) = Go.Sx.lw (Go.Sx.roundsB y' a (18 : Nat)) ∧ Go.Sx.lw (Go.Sx.chiB (Go.Sx.ofRow fun (i : Nat) => Go.Sx.lw (Go.Sx.scatB (Go.Sx.ofRow fun (i : Nat) => Go.Sx.lw (Go.Sx.thetaB (Go.Sx.ofRow fun (i : Nat) => Go.Sx.lw (Go.Sx.roundsB y a i)) i)) i)) (19 : Nat)) = Go.Sx.lw (Go.Sx.roundsB y' a (19 : Nat)) ∧ Go.Sx.lw (Go.Sx.chiB (Go.Sx.ofRow fun (i : Nat) => Go.Sx.lw (Go.Sx.scatB (Go.Sx.ofRow fun (i : Nat) => Go.Sx.lw (Go.Sx.thetaB (Go.Sx.ofRow fun (i : Nat) => Go.Sx.lw (Go.Sx.roundsB y a i)) i)) i)) (20 : Nat)) = Go.Sx.lw (Go.Sx.roundsB y' a (20 : Nat)) ∧ Go.Sx.lw (Go.Sx.chiB (Go.Sx.ofRow fun (i : Nat) => Go.Sx.lw (Go.Sx.scatB (Go.Sx.ofRow fun (i : Nat) => Go.Sx.lw (Go.Sx.thetaB (Go.Sx.ofRow fun (i : Nat) => Go.Sx.lw (Go.Sx.roundsB y a i)) i)) i)) (21 : Nat)) = Go.Sx.lw (Go.Sx.roundsB y' a (21 : Nat)) ∧ Go.Sx.lw (Go.Sx.chiB (Go.Sx.ofRow fun (i : Nat) => Go.Sx.lw (Go.Sx.scatB (Go.Sx.ofRow fun (i : Nat) => Go.Sx.lw (Go.Sx.thetaB (Go.Sx.ofRow fun (i : Nat) => Go.Sx.lw (Go.Sx.roundsB y a i)) i)) i)) (22 : Nat)) = Go.Sx.lw (Go.Sx.roundsB y' a (22 : Nat)) ∧ Go.Sx.lw (Go.Sx.chiB (Go.Sx.ofRow fun (i : Nat) => Go.Sx.lw (Go.Sx.scatB (Go.Sx.ofRow fun (i : Nat) => Go.Sx.lw (Go.Sx.thetaB (Go.Sx.ofRow fun (i : Nat) => Go.Sx.lw (Go.Sx.roundsB y a i)) i)) i)) (23 : Nat)) = Go.Sx.lw (Go.Sx.roundsB y' a (23 : Nat)) ∧ Go.Sx.lw (Go.Sx.chiB (Go.Sx.ofRow fun (i : Nat) => Go.Sx.lw (Go.Sx.scatB (Go.Sx.ofRow fun (i : Nat) => Go.Sx.lw (Go.Sx.thetaB (Go.Sx.ofRow fun (i : Nat) => Go.Sx.lw (Go.Sx.roundsB y a i)) i)) i)) (24 : Nat)) = Go.Sx.lw (Go.Sx.roundsB y' a (24 : Nat)) ∧ True) ∧ (0 : Nat) = (0 : Nat) ∧ (0 : Nat) = (0 : Nat) ∧ (24 : Nat) - y' < (24 : Nat) - y) ∧ (Decidable.decide ((↑y : Int) < (24 : Int)) = Bool.false → (∀ (j : Nat), j < (25 : Nat) → Go.Sx.lw (Go.Sx.roundsB y a j) = Go.Sx.lw (Go.Sx.turnB a j)) ∧ True)) := by kernel_rfl
-- END VC
-- VC vc_kMay HASH d0aeb92215a9c463
theorem vc_kMay (L H : Nat → Int) (N : Int) :
    Owes Tryz.prog Cx.none [(4, .inv (invMay L H N))] 30 Tryz.f88 [sSp L H N] (.one (sB (mayG H N))) =
    (let x1 : Bool := Decidable.decide (N < (0 : Int)); let x2 : Nat := (136 : Nat) - N.toNat; let x3 : Int := (↑x2 : Int); ((!x1) = Bool.true → (!x1) = Bool.true) ∧ ((!x1) = Bool.true → (!x1) = Bool.true) ∧ (x1 = Bool.false → (!x1) = Bool.true) ∧ ((x1 || Decidable.decide (N ≥ (136 : Int))) = Bool.true → Bool.false = mayG H N) ∧ ((x1 || Decidable.decide (N ≥ (136 : Int))) = Bool.false → ((0 : Int) ≤ N ∧ N < (136 : Int)) ∧ (∀ (y : Nat), Go.Sx.closedB (Go.Sx.slotsAt (25 : Nat) [((1 : Nat), Go.Sx.SV.one (Go.Sx.SA.sc (Go.Sx.SC.ptr (0 : Nat) (0 : Nat)))), ((16 : Nat), Go.Sx.SV.one (Go.Sx.SA.sc (Go.Sx.SC.sls (0 : Nat) (25 : Nat) N.toNat (136 : Nat) x2))), ((17 : Nat), Go.Sx.SV.one (Go.Sx.sI Go.IntKind.i64 x3)), ((18 : Nat), Go.Sx.SV.one (Go.Sx.sI Go.IntKind.i64 (↑y : Int)))]) [Go.Sx.SO.cells (106 : Go.TypeId) [Go.Sx.SK.f Go.IntKind.u64 (25 : Nat) L, Go.Sx.SK.f Go.IntKind.u8 (136 : Nat) H, Go.Sx.SK.c (Go.Sx.SC.val (Go.Value.int Go.IntKind.i64 N))] (0 : Nat)] = Bool.true) ∧ ∃ (y : Nat), ((0 : Int) ≤ N ∧ N < (136 : Int) ∧ y ≤ x2 ∧ ∀ (j : Nat), j < y → H (N.toNat + j) = (0 : Int)) ∧ ((0 : Nat) = (0 : Nat) ∧ (25 : Nat) = (25 : Nat) ∧ N.toNat = N.toNat ∧ (136 : Nat) = (136 : Nat) ∧ x2 = x2) ∧ x3 = x3 ∧ (0 : Int) = (↑y : Int) ∧ ((∀ (j : Nat), j < (25 : Nat) → L j = L j) ∧ (∀ (j : Nat), j < (136 : Nat) → H j = H j) ∧ N = N ∧ True) ∧ (0 : Nat) = (0 : Nat) ∧ ∀ (y : Nat), ((0 : Int) ≤ N ∧ N < (136 : Int) ∧ y ≤ x2 ∧ ∀ (j : Nat), j < y → H (N.toNat + j) = (0 : Int)) → (Decidable.decide ((↑y : Int) < x3) = Bool.true → ((0 : Int) ≤ (↑y : Int) ∧ (↑y : Int) < x3) ∧ ((0 : Int) ≤ (↑N.toNat : Int) + (↑y : Int) ∧ (↑N.toNat : Int) + (↑y : Int) < (136 : Int)) ∧ ((H ((↑N.toNat : Int) + (↑y : Int)).toNat != (0 : Int)) = Bool.true → Bool.false = mayG H N) ∧ ((H ((↑N.toNat : Int) + (↑y : Int)).toNat != (0 : Int)) = Bool.false → ∃ (y' : Nat), ((0 : Int) ≤ N ∧ N < (136 : Int) ∧ y' ≤ x2 ∧ ∀ (j : Nat), j < y' → H (N.toNat + j) = (0 : Int)) ∧ ((0 : Nat) = (0 : Nat) ∧ (25 : Nat) = (25 : Nat) ∧ N.toNat = N.toNat ∧ (136 : Nat) = (136 : Nat) ∧ x2 = x2) ∧ x3 = x3 ∧ Go.IntKind.i64.wrap ((↑y : Int) + (1 : Int)) = (↑y' : Int) ∧ ((∀ (j : Nat), j < (25 : Nat) → L j = L j) ∧ (∀ (j : Nat), j < (136 : Nat) → H j = H j) ∧ N = N ∧ True) ∧ (0 : Nat) = (0 : Nat) ∧ (136 : Nat) - y' < (136 : Nat) - y)) ∧ (Decidable.decide ((↑y : Int) < x3) = Bool.false → Bool.true = mayG H N))) := by kernel_rfl
-- END VC
-- VC vc_soak HASH 5f39de929b3954ef
theorem vc_soak (a : Nat → BitVec 64) (H : Nat → Int) (N : Int) :
    Owes Tryz.prog ⟨[(105, specLanes 25 25 turnB)], glK, 0⟩ [(2, .inv (invSoak a H N))] 140 Tryz.f89 [sSp (fun i => lw (a i)) H N] (.one (.agg (.f .u64 25 (fun i => lw (soakB a H i)) :: zeroSp))) =
    ((∀ (y : Nat), Go.Sx.closedB (Go.Sx.slotsAt (30 : Nat) [((1 : Nat), Go.Sx.SV.one (Go.Sx.SA.sc (Go.Sx.SC.ptr (0 : Nat) (0 : Nat)))), ((2 : Nat), Go.Sx.SV.one (Go.Sx.SA.sc (Go.Sx.SC.ptr (1 : Nat) (0 : Nat)))), ((6 : Nat), Go.Sx.SV.one (Go.Sx.SA.agg [Go.Sx.SK.f Go.IntKind.u8 (136 : Nat) H])), ((7 : Nat), Go.Sx.SV.one (Go.Sx.sI Go.IntKind.i64 (↑y : Int)))]) [Go.Sx.SO.cells (106 : Go.TypeId) [Go.Sx.SK.f Go.IntKind.u64 (25 : Nat) fun (j : Nat) => Go.Sx.lw (Go.Sx.absB a H y j), Go.Sx.SK.f Go.IntKind.u8 (136 : Nat) H, Go.Sx.SK.c (Go.Sx.SC.val (Go.Value.int Go.IntKind.i64 N))] (0 : Nat), Go.Sx.SO.cells (106 : Go.TypeId) (List.replicate (25 : Nat) (Go.Sx.SK.c (Go.Sx.SC.num Go.IntKind.u64 (0 : Int))) ++ List.replicate (136 : Nat) (Go.Sx.SK.c (Go.Sx.SC.num Go.IntKind.u8 (0 : Int))) ++ [Go.Sx.SK.c (Go.Sx.SC.num Go.IntKind.i64 (0 : Int))]) (0 : Nat)] = Bool.true) ∧ ∃ (y : Nat), y ≤ (136 : Nat) ∧ ((∀ (j : Nat), j < (136 : Nat) → H j = H j) ∧ True) ∧ (0 : Int) = (↑y : Int) ∧ ((∀ (j : Nat), j < (25 : Nat) → Go.Sx.lw (a j) = Go.Sx.lw (Go.Sx.absB a H y j)) ∧ (∀ (j : Nat), j < (136 : Nat) → H j = H j) ∧ N = N ∧ True) ∧ (0 : Nat) = (0 : Nat) ∧ (0 : Nat) = (0 : Nat) ∧ ∀ (y : Nat), y ≤ (136 : Nat) → (Decidable.decide ((↑y : Int) < (136 : Int)) = Bool.true → ((0 : Int) ≤ (↑y : Int) ∧ (↑y : Int) < (136 : Int)) ∧ ((0 : Int) ≤ Go.IntKind.i64.wrap ((↑y : Int).tdiv (8 : Int)) ∧ Go.IntKind.i64.wrap ((↑y : Int).tdiv (8 : Int)) < (25 : Int)) ∧ ((0 : Int) ≤ Go.IntKind.i64.wrap ((↑y : Int).tdiv (8 : Int)) ∧ Go.IntKind.i64.wrap ((↑y : Int).tdiv (8 : Int)) < (25 : Int)) ∧ (0 : Int) ≤ Go.IntKind.i64.wrap ((↑y : Int).tmod (8 : Int) * (8 : Int)) ∧ ((0 : Int) ≤ Go.IntKind.i64.wrap ((↑y : Int).tdiv (8 : Int)) ∧ Go.IntKind.i64.wrap ((↑y : Int).tdiv (8 : Int)) < (25 : Int)) ∧ ((0 : Int) ≤ Go.IntKind.i64.wrap ((↑y : Int).tdiv (8 : Int)) ∧ Go.IntKind.i64.wrap ((↑y : Int).tdiv (8 : Int)) < (25 : Int)) ∧ ∃ (y' : Nat), y' ≤ (136 : Nat) ∧ ((∀ (j : Nat), j < (136 : Nat) → H j = H j) ∧ True) ∧ Go.IntKind.i64.wrap ((↑y : Int) + (1 : Int)) = (↑y' : Int) ∧ ((∀ (j : Nat), j < (25 : Nat) → (if j = (Go.IntKind.i64.wrap ((↑y : Int).tdiv (8 : Int))).toNat then Go.IntKind.u64.wrap (↑(BitVec.ofInt (64 : Nat) (Go.Sx.lw (Go.Sx.absB a H y (Go.IntKind.i64.wrap ((↑y : Int).tdiv (8 : Int))).toNat)) ^^^ BitVec.ofInt (64 : Nat) (Go.IntKind.u64.wrap (Go.IntKind.u64.wrap (H (↑y : Int).toNat) * (2 : Int) ^ Min.min (Go.IntKind.i64.wrap ((↑y : Int).tmod (8 : Int) * (8 : Int))).toNat (64 : Nat)))).toNat : Int) else Go.Sx.lw (Go.Sx.absB a H y j)) = Go.Sx.lw (Go.Sx.absB a H y' j)) ∧ (∀ (j : Nat), j < (136 : Nat) → H j = H j) ∧ N = N ∧ True) ∧ (0 : Nat) = (0 : Nat) ∧ (0 : Nat) = (0 : Nat) ∧ (136 : Nat) - y' < (136 : Nat) - y) ∧ (Decidable.decide ((↑y : Int) < (136 : Int)) = Bool.false → (∀ (i : Nat), i < (25 : Nat) → (0 : Int) ≤ Go.Sx.lw (Go.Sx.absB a H y i) ∧ Go.Sx.lw (Go.Sx.absB a H y i) < (18446744073709551616 : Int)) ∧ (∀ (j : Nat), j < (25 : Nat) → Go.Sx.lw (Go.Sx.turnB (Go.Sx.ofRow fun (j : Nat) => Go.Sx.lw (Go.Sx.absB a H y j)) j) = Go.Sx.lw (Go.Sx.soakB a H j)) ∧ (0 : Int) = (0 : Int) ∧ (0 : Int) = (0 : Int) ∧ (0 : Int) = (0 : Int) ∧ (0 : Int) = (0 : Int) ∧ (0 : Int) = (0 : Int) ∧ (0 : Int) = (0 : Int) ∧ (0 : Int) = (0 : Int) ∧ (0 : Int) = (0 : Int) ∧ (0 : Int) = (0 : Int) ∧ (0 : Int) = (0 : Int) ∧ (0 : Int) = (0 : Int) ∧ (0 : Int) = (0 : Int) ∧ (0 : Int) = (0 : Int) ∧ (0 : Int) = (0 : Int) ∧ (0 : Int) = (0 : Int) ∧ (0 : Int) = (0 : Int) ∧ (0 : Int) = (0 : Int) ∧ (0 : Int) = (0 : Int) ∧ (0 : Int) = (0 : Int) ∧ (0 : Int) = (0 : Int) ∧ (0 : Int) = (0 : Int) ∧ (0 : Int) = (0 : Int) ∧ (0 : Int) = (0 : Int) ∧ (0 : Int) = (0 : Int) ∧ (0 : Int) = (0 : Int) ∧ (0 : Int) = (0 : Int) ∧ (0 : Int) = (0 : Int) ∧ (0 : Int) = (0 : Int) ∧ (0 : Int) = (0 : Int) ∧ (0 : Int) = (0 : Int) ∧ (0 : Int) = (0 : Int) ∧ (0 : Int) = (0 : Int) ∧ (0 : Int) = (0 : Int) ∧ (0 : Int) = (0 : Int) ∧ (0 : Int) = (0 : Int) ∧ (0 : Int) = (0 : Int) ∧ (0 : Int) = (0 : Int) ∧ (0 : Int) = (0 : Int) ∧ (0 : Int) = (0 : Int) ∧ (0 : Int) = (0 : Int) ∧ (0 : Int) = (0 : Int) ∧ (0 : Int) = (0 : Int) ∧ (0 : Int) = (0 : Int) ∧ (0 : Int) = (0 : Int) ∧ (0 : Int) = (0 : Int) ∧ (0 : Int) = (0 : Int) ∧ (0 : Int) = (0 : Int) ∧ (0 : Int) = (0 : Int) ∧ (0 : Int) = (0 : Int) ∧ (0 : Int) = (0 : Int) ∧ (0 : Int) = (0 : Int) ∧ (0 : Int) = (0 : Int) ∧ (0 : Int) = (0 : Int) ∧ (0 : Int) = (0 : Int) ∧ (0 : Int) = (0 : Int) ∧ (0 : Int) = (0 : Int) ∧ (0 : Int) = (0 : Int) ∧ (0 : Int) = (0 : Int) ∧ (0 : Int) = (0 : Int) ∧ (0 : Int) = (0 : Int) ∧ (0 : Int) = (0 : Int) ∧ (0 : Int) = (0 : Int) ∧ (0 : Int) = (0 : Int) ∧ (0 : Int) = (0 : Int) ∧ (0 : Int) = (0 : Int) ∧ (0 : Int) = (0 : Int) ∧ (0 : Int) = (0 : Int) ∧ (0 : Int) = (0 : Int) ∧ (0 : Int) = (0 : Int) ∧ (0 : Int) = (0 : Int) ∧ (0 : Int) = (0 : Int) ∧ (0 : Int) = (0 : Int) ∧ (0 : Int) = (0 : Int) ∧ (0 : Int) = (0 : Int) ∧ (0 : Int) = (0 : Int) ∧ (0 : Int) = (0 : Int) ∧ (0 : Int) = (0 : Int) ∧ (0 : Int) = (0 : Int) ∧ (0 : Int) = (0 : Int) ∧ (0 : Int) = (0 : Int) ∧ (0 : Int) = (0 : Int) ∧ (0 : Int) = (0 : Int) ∧ (0 : Int) = (0 : Int) ∧ (0 : Int) = (0 : Int) ∧ (0 : Int) = (0 : Int) ∧ (0 : Int) = (0 : Int) ∧ (0 : Int) = (0 : Int) ∧ (0 : Int) = (0 : Int) ∧ (0 : Int) = (0 : Int) ∧ (0 : Int) = (0 : Int) ∧ (0 : Int) = (0 : Int) ∧ (0 : Int) = (0 : Int) ∧ (0 : Int) = (0 : Int) ∧ (0 : Int) = (0 : Int) ∧ (0 : Int) = (0 : Int) ∧ (0 : Int) = (0 : Int) ∧ (0 : Int) = (0 : Int) ∧ (0 : Int) = (0 : Int) ∧ (0 : Int) = (0 : Int) ∧ (0 : Int) = (0 : Int) ∧ (0 : Int) = (0 : Int) ∧ (0 : Int) = (0 : Int) ∧ (0 : Int) = (0 : Int) ∧ (0 : Int) = (0 : Int) ∧ (0 : Int) = (0 : Int) ∧ (0 : Int) = (0 : Int) ∧ (0 : Int) = (0 : Int) ∧ (0 : Int) = (0 : Int) ∧ (0 : Int) = (0 : Int) ∧ (0 : Int) = (0 : Int) ∧ (0 : Int) = (0 : Int) ∧ (0 : Int) = (0 : Int) ∧ (0 : Int) = (0 : Int) ∧ (0 : Int) = (0 : Int) ∧ (0 : Int) = (0 : Int) ∧ (0 : Int) = (0 : Int) ∧ (0 : Int) = (0 : Int) ∧ (0 : Int) = (0 : Int) ∧ (0 : Int) = (0 : Int) ∧ (0 : Int) = (0 : Int) ∧ (0 : Int) = (0 : Int) ∧ (0 : Int) = (0 : Int) ∧ (0 : Int) = (0 : Int) ∧ (0 : Int) = (0 : Int) ∧ (0 : Int) = (0 : Int) ∧ (0 : Int) = (0 : Int) ∧ (0 : Int) = (0 : Int) ∧ (0 : Int) = (0 : Int) ∧ (0 : Int) = (0 : Int) ∧ (0 : Int) = (0 : Int) ∧ (0 : Int) = (0 : Int) ∧ (0 : Int) = (0 : Int) ∧ (0 : Int) = (0 : Int) ∧ (0 : Int) = (0 : Int) ∧ (0 : Int) = (0 : Int) ∧ (0 : Int) = (0 : Int) ∧ (0 : Int) = (0 : Int) ∧ True)) := by kernel_rfl
-- END VC
-- VC vc_first HASH edaf195109ce7fa0
theorem vc_first (L : Nat → Int) :
    Owes Tryz.prog Cx.none [(3, .inv (invFirst L))] 40 Tryz.f90 [sRow .u64 25 L] (.one (sRow .u8 32 (firstG L))) =
    ((∀ (y : Nat), Go.Sx.closedB (Go.Sx.slotsAt (21 : Nat) [((1 : Nat), Go.Sx.SV.one (Go.Sx.SA.sc (Go.Sx.SC.ptr (0 : Nat) (0 : Nat)))), ((2 : Nat), Go.Sx.SV.one (Go.Sx.SA.sc (Go.Sx.SC.ptr (1 : Nat) (0 : Nat)))), ((3 : Nat), Go.Sx.SV.one (Go.Sx.SA.sc (Go.Sx.SC.ptr (2 : Nat) (0 : Nat)))), ((5 : Nat), Go.Sx.SV.one (Go.Sx.sI Go.IntKind.i64 (↑y : Int)))]) [Go.Sx.SO.cells (103 : Go.TypeId) [Go.Sx.SK.f Go.IntKind.u64 (25 : Nat) L] (0 : Nat), Go.Sx.SO.cells (40 : Go.TypeId) (List.replicate (32 : Nat) (Go.Sx.SK.c (Go.Sx.SC.num Go.IntKind.u8 (0 : Int)))) (0 : Nat), Go.Sx.SO.cells (40 : Go.TypeId) [Go.Sx.SK.f Go.IntKind.u8 (32 : Nat) fun (j : Nat) => if j < y then Go.Sx.firstG L j else (0 : Int)] (0 : Nat)] = Bool.true) ∧ ∃ (y : Nat), y ≤ (32 : Nat) ∧ (0 : Int) = (↑y : Int) ∧ ((∀ (j : Nat), j < (25 : Nat) → L j = L j) ∧ True) ∧ (0 : Nat) = (0 : Nat) ∧ (0 : Nat) = (0 : Nat) ∧ (((0 : Int) = if (0 : Nat) < y then Go.Sx.firstG L (0 : Nat) else (0 : Int)) ∧ ((0 : Int) = if (1 : Nat) < y then Go.Sx.firstG L (1 : Nat) else (0 : Int)) ∧ ((0 : Int) = if (2 : Nat) < y then Go.Sx.firstG L (2 : Nat) else (0 : Int)) ∧ ((0 : Int) = if (3 : Nat) < y then Go.Sx.firstG L (3 : Nat) else (0 : Int)) ∧ ((0 : Int) = if (4 : Nat) < y then Go.Sx.firstG L (4 : Nat) else (0 : Int)) ∧ ((0 : Int) = if (5 : Nat) < y then Go.Sx.firstG L (5 : Nat) else (0 : Int)) ∧ ((0 : Int) = if (6 : Nat) < y then Go.Sx.firstG L (6 : Nat) else (0 : Int)) ∧ ((0 : Int) = if (7 : Nat) < y then Go.Sx.firstG L (7 : Nat) else (0 : Int)) ∧ ((0 : Int) = if (8 : Nat) < y then Go.Sx.firstG L (8 : Nat) else (0 : Int)) ∧ ((0 : Int) = if (9 : Nat) < y then Go.Sx.firstG L (9 : Nat) else (0 : Int)) ∧ ((0 : Int) = if (10 : Nat) < y then Go.Sx.firstG L (10 : Nat) else (0 : Int)) ∧ ((0 : Int) = if (11 : Nat) < y then Go.Sx.firstG L (11 : Nat) else (0 : Int)) ∧ ((0 : Int) = if (12 : Nat) < y then Go.Sx.firstG L (12 : Nat) else (0 : Int)) ∧ ((0 : Int) = if (13 : Nat) < y then Go.Sx.firstG L (13 : Nat) else (0 : Int)) ∧ ((0 : Int) = if (14 : Nat) < y then Go.Sx.firstG L (14 : Nat) else (0 : Int)) ∧ ((0 : Int) = if (15 : Nat) < y then Go.Sx.firstG L (15 : Nat) else (0 : Int)) ∧ ((0 : Int) = if (16 : Nat) < y then Go.Sx.firstG L (16 : Nat) else (0 : Int)) ∧ ((0 : Int) = if (17 : Nat) < y then Go.Sx.firstG L (17 : Nat) else (0 : Int)) ∧ ((0 : Int) = if (18 : Nat) < y then Go.Sx.firstG L (18 : Nat) else (0 : Int)) ∧ ((0 : Int) = if (19 : Nat) < y then Go.Sx.firstG L (19 : Nat) else (0 : Int)) ∧ ((0 : Int) = if (20 : Nat) < y then Go.Sx.firstG L (20 : Nat) else (0 : Int)) ∧ ((0 : Int) = if (21 : Nat) < y then Go.Sx.firstG L (21 : Nat) else (0 : Int)) ∧ ((0 : Int) = if (22 : Nat) < y then Go.Sx.firstG L (22 : Nat) else (0 : Int)) ∧ ((0 : Int) = if (23 : Nat) < y then Go.Sx.firstG L (23 : Nat) else (0 : Int)) ∧ ((0 : Int) = if (24 : Nat) < y then Go.Sx.firstG L (24 : Nat) else (0 : Int)) ∧ ((0 : Int) = if (25 : Nat) < y then Go.Sx.firstG L (25 : Nat) else (0 : Int)) ∧ ((0 : Int) = if (26 : Nat) < y then Go.Sx.firstG L (26 : Nat) else (0 : Int)) ∧ ((0 : Int) = if (27 : Nat) < y then Go.Sx.firstG L (27 : Nat) else (0 : Int)) ∧ ((0 : Int) = if (28 : Nat) < y then Go.Sx.firstG L (28 : Nat) else (0 : Int)) ∧ ((0 : Int) = if (29 : Nat) < y then Go.Sx.firstG L (29 : Nat) else (0 : Int)) ∧ ((0 : Int) = if (30 : Nat) < y then Go.Sx.firstG L (30 : Nat) else (0 : Int)) ∧ ((0 : Int) = if (31 : Nat) < y then Go.Sx.firstG L (31 : Nat) else (0 : Int)) ∧ True) ∧ (0 : Nat) = (0 : Nat) ∧ ∀ (y : Nat), y ≤ (32 : Nat) → (Decidable.decide ((↑y : Int) < (32 : Int)) = Bool.true → ((0 : Int) ≤ Go.IntKind.i64.wrap ((↑y : Int).tdiv (8 : Int)) ∧ Go.IntKind.i64.wrap ((↑y : Int).tdiv (8 : Int)) < (25 : Int)) ∧ ((0 : Int) ≤ Go.IntKind.i64.wrap ((↑y : Int).tdiv (8 : Int)) ∧ Go.IntKind.i64.wrap ((↑y : Int).tdiv (8 : Int)) < (25 : Int)) ∧ (0 : Int) ≤ Go.IntKind.i64.wrap ((↑y : Int).tmod (8 : Int) * (8 : Int)) ∧ ((0 : Int) ≤ (↑y : Int) ∧ (↑y : Int) < (32 : Int)) ∧ ((0 : Int) ≤ (↑y : Int) ∧ (↑y : Int) < (32 : Int)) ∧ ∃ (y' : Nat), y' ≤ (32 : Nat) ∧ Go.IntKind.i64.wrap ((↑y : Int) + (1 : Int)) = (↑y' : Int) ∧ ((∀ (j : Nat), j < (25 : Nat) → L j = L j) ∧ True) ∧ (0 : Nat) = (0 : Nat) ∧ (0 : Nat) = (0 : Nat) ∧ ((∀ (j : Nat), j < (32 : Nat) → (if j = (↑y : Int).toNat then Go.IntKind.u8.wrap ((L (Go.IntKind.i64.wrap ((↑y : Int).tdiv (8 : Int))).toNat).fdiv ((2 : Int) ^ Min.min (Go.IntKind.i64.wrap ((↑y : Int).tmod (8 : Int) * (8 : Int))).toNat (64 : Nat))) else if j < y then Go.Sx.firstG L j else (0 : Int)) = if j < y' then Go.Sx.firstG L j else (0 : Int)) ∧ True) ∧ (0 : Nat) = (0 : Nat) ∧ (32 : Nat) - y' < (32 : Nat) - y) ∧ (Decidable.decide ((↑y : Int) < (32 : Int)) = Bool.false → (∀ (j : Nat), j < (32 : Nat) → (if j < y then Go.Sx.firstG L j else (0 : Int)) = Go.Sx.firstG L j) ∧ True)) := by kernel_rfl
-- END VC
end Go.Proofs.YtbfcccoeekonlaaGreatDoor
end

section
/-
  Package keccak: all rounds; whether a sponge may be; what soaks; the first lanes as bytes.
-/
namespace Go.Proofs.YtbfcccoeekonlaaGreatDoor
open Go Go.Sx Go.RowKit

theorem wrap_small {x : Int} (h : 0 ≤ x ∧ x < 9223372036854775808) : IntKind.i64.wrap x = x := by
  rw [IntKind.wrap_i64]; omega
theorem ofRow_lw (a : Nat → BitVec 64) : (ofRow fun i => lw (a i)) = a := by
  funext i; exact ofInt_lw _
theorem lanes_lw (n : Nat) (a : Nat → BitVec 64) : ∀ i, i < n → 0 ≤ lw (a i) ∧ lw (a i) < 18446744073709551616 := fun i _ => lane_lw (a i)
theorem rc_get : ∀ y, y < 24 → BitVec.ofInt 64 ((intsL rcSK).getD y 0) = rcN.getD y 0 := by decide +kernel
theorem ok_Turn (a : Nat → BitVec 64) : Owes Tryz.prog cxKTurn [(2, .inv (invTurn a))] 30 Tryz.f105 [sRow .u64 25 fun i => lw (a i)] (.one (sRow .u64 25 fun i => lw (turnB a i))) := by
  have hrc := rc_get
  simp only [rcSK] at hrc
  rw [vc_Turn]
  refine ⟨fun y => rfl, 0, by omega, rfl, ⟨fun j _ => rfl, trivial⟩, rfl, rfl, fun y hy => ⟨fun hlt => ?_, fun hge => ?_⟩⟩
  · have hlt : y < 24 := by have := of_decide_eq_true hlt; omega
    refine ⟨⟨by omega, by omega⟩, lanes_lw _ _, lanes_lw _ _, lanes_lw _ _, y + 1, by omega, by rw [wrap_small (by omega)]; omega, ?_, rfl, rfl, by omega⟩
    simp only [ofRow_lw, Int.toNat_natCast, hrc y hlt, ofInt_lw, wrap_nat]
    simp [roundsB, roundB]
  · have hge : ¬ y < 24 := by have := of_decide_eq_false hge; omega
    have : y = 24 := by omega
    subst this
    exact ⟨fun j _ => rfl, trivial⟩
theorem card_Turn : FnOKg Tryz.prog glK 105 (specLanes 25 25 turnB) :=
  FnOK_lanes (cx := cxKTurn) (iv := fun a => [(2, .inv (invTurn a))]) (by
    intro p hp
    simp only [cxKTurn, List.mem_cons, List.not_mem_nil, or_false] at hp
    rcases hp with rfl | rfl | rfl
    · exact card_theta
    · exact card_scat
    · exact card_chi) Tryz.func105 (by kernel_rfl) (by kernel_rfl) ok_Turn
theorem mayG_iff (H : Nat → Int) (N : Int) : mayG H N = true ↔ (0 ≤ N ∧ N < 136) ∧ ∀ j, N.toNat + j < 136 → H (N.toNat + j) = 0 := by
  simp only [mayG, Bool.and_eq_true, decide_eq_true_eq, List.all_eq_true, List.mem_range, beq_iff_eq]
  constructor
  · rintro ⟨h1, h2⟩
    exact ⟨h1, fun j hj => h2 j (by omega)⟩
  · rintro ⟨h1, h2⟩
    exact ⟨h1, fun j hj => h2 j (by omega)⟩
theorem ok_kMay (L H : Nat → Int) (N : Int) : Owes Tryz.prog Cx.none [(4, .inv (invMay L H N))] 30 Tryz.f88 [sSp L H N] (.one (sB (mayG H N))) := by
  rw [vc_kMay]
  intro x1 x2 x3
  refine ⟨id, id, fun h => by rw [h]; rfl, fun h => ?_, fun h => ?_⟩
  · have h1 : N < 0 ∨ 136 ≤ N := by simpa [x1] using h
    cases hm : mayG H N with
    | false => rfl
    | true => obtain ⟨⟨k1, k2⟩, _⟩ := (mayG_iff H N).1 hm; omega
  · have h1 : ¬ N < 0 ∧ ¬ 136 ≤ N := by simpa [x1] using h
    have e3 : x3 = ((136 - N.toNat : Nat) : Int) := rfl
    refine ⟨⟨by omega, by omega⟩, fun y => rfl, 0, ⟨by omega, by omega, by omega, fun j hj => by omega⟩, ⟨rfl, rfl, rfl, rfl, rfl⟩, rfl, rfl, ⟨fun _ _ => rfl, fun _ _ => rfl, rfl, trivial⟩, rfl, fun y hy => ⟨fun hlt => ?_, fun hge => ?_⟩⟩
    · obtain ⟨y1, y2, y3, y4⟩ := hy
      have hlt : (y : Int) < x3 := by simpa using hlt
      have e4 : ((N.toNat : Int) + (y : Int)).toNat = N.toNat + y := by omega
      rw [e4]
      refine ⟨⟨by omega, hlt⟩, ⟨by omega, by omega⟩, fun hne => ?_, fun heq => ?_⟩
      · have hne : H (N.toNat + y) ≠ 0 := by simpa using hne
        cases hm : mayG H N with
        | false => rfl
        | true => exact absurd (((mayG_iff H N).1 hm).2 y (by omega)) hne
      · have heq : H (N.toNat + y) = 0 := by simpa using heq
        refine ⟨y + 1, ⟨y1, y2, by omega, fun j hj => ?_⟩, ⟨rfl, rfl, rfl, rfl, rfl⟩, rfl, by rw [wrap_small (by omega)]; omega, ⟨fun _ _ => rfl, fun _ _ => rfl, rfl, trivial⟩, rfl, by omega⟩
        by_cases e : j = y
        · subst e; exact heq
        · exact y4 j (by omega)
    · obtain ⟨y1, y2, y3, y4⟩ := hy
      have hge : ¬ (y : Int) < x3 := by simpa using hge
      symm
      rw [mayG_iff]
      exact ⟨⟨y1, y2⟩, fun j hj => y4 j (by omega)⟩
theorem card_kMay : FnOKg Tryz.prog glK 88 (specSp (fun _ _ _ => []) fun _ H N => .one (sB (mayG H N))) :=
  FnOKg.up (FnOK_Sp (cx := Cx.none) (g := fun _ H N => .one (sB (mayG H N))) (iv := fun L H N => [(4, .inv (invMay L H N))]) (fun p hp => by cases hp) Tryz.func88 (by kernel_rfl) (by kernel_rfl) (fun _ _ _ => trivial) fun L H N _ => ok_kMay L H N) glK

theorem div8 {y : Nat} (h : y < 136) : IntKind.i64.wrap ((y : Int).tdiv 8) = ((y / 8 : Nat) : Int) := by
  have e : (y : Int).tdiv 8 = ((y / 8 : Nat) : Int) := by rw [Int.tdiv_eq_ediv_of_nonneg (by omega)]; omega
  rw [e, wrap_small (by omega)]
theorem mod8 {y : Nat} : IntKind.i64.wrap ((y : Int).tmod 8 * 8) = ((y % 8 * 8 : Nat) : Int) := by
  have e : (y : Int).tmod 8 = ((y % 8 : Nat) : Int) := by rw [Int.tmod_eq_emod_of_nonneg (by omega)]; omega
  rw [e, wrap_small (by omega)]
  omega
theorem ok_soak (a : Nat → BitVec 64) (H : Nat → Int) (N : Int) : Owes Tryz.prog ⟨[(105, specLanes 25 25 turnB)], glK, 0⟩ [(2, .inv (invSoak a H N))] 140 Tryz.f89 [sSp (fun i => lw (a i)) H N] (.one (.agg (.f .u64 25 (fun i => lw (soakB a H i)) :: zeroSp))) := by
  rw [vc_soak]
  refine ⟨fun y => rfl, 0, by omega, ⟨fun _ _ => rfl, trivial⟩, rfl, ⟨fun _ _ => rfl, fun _ _ => rfl, rfl, trivial⟩, rfl, rfl, fun y hy => ⟨fun hlt => ?_, fun hge => ?_⟩⟩
  · have hlt : (y : Int) < 136 := of_decide_eq_true hlt
    have hlt : y < 136 := by omega
    rw [div8 hlt, mod8]
    refine ⟨⟨by omega, by omega⟩, ⟨by omega, by omega⟩, ⟨by omega, by omega⟩, by omega, ⟨by omega, by omega⟩, ⟨by omega, by omega⟩, y + 1, by omega, ⟨fun _ _ => rfl, trivial⟩, by rw [wrap_small (by omega)]; omega, ⟨fun j hj => ?_, fun _ _ => rfl, rfl, trivial⟩, rfl, rfl, by omega⟩
    simp only [Int.toNat_natCast, ofInt_lw, wrap_nat, absB]
    have hm : Min.min (y % 8 * 8) 64 = y % 8 * 8 := by omega
    by_cases e : j = y / 8
    · subst e
      simp only [if_true]
      rw [hm]
      rfl
    · simp only [e, if_false]
  · have hge : ¬ (y : Int) < 136 := of_decide_eq_false hge
    have : y = 136 := by omega
    subst this
    refine ⟨lanes_lw _ _, fun j _ => ?_, ?_⟩
    · rw [ofRow_lw]; rfl
    · simp
theorem ok_first (L : Nat → Int) : Owes Tryz.prog Cx.none [(3, .inv (invFirst L))] 40 Tryz.f90 [sRow .u64 25 L] (.one (sRow .u8 32 (firstG L))) := by
  rw [vc_first]
  refine ⟨fun y => rfl, 0, by omega, rfl, ⟨fun _ _ => rfl, trivial⟩, rfl, rfl, ?_, rfl, fun y hy => ⟨fun hlt => ?_, fun hge => ?_⟩⟩
  · simp
  · have hlt : (y : Int) < 32 := of_decide_eq_true hlt
    have hlt : y < 32 := by omega
    rw [div8 (by omega), mod8]
    refine ⟨⟨by omega, by omega⟩, ⟨by omega, by omega⟩, by omega, ⟨by omega, by omega⟩, ⟨by omega, by omega⟩, y + 1, by omega, by rw [wrap_small (by omega)]; omega, ⟨fun _ _ => rfl, trivial⟩, rfl, rfl, ⟨fun j hj => ?_, trivial⟩, rfl, by omega⟩
    simp only [Int.toNat_natCast]
    have hm : Min.min (y % 8 * 8) 64 = y % 8 * 8 := by omega
    by_cases e : j = y
    · subst e
      simp only [if_true, hm, if_pos (Nat.lt_succ_self j), firstG]
    · have : j < y + 1 ↔ j < y := by omega
      simp only [e, if_false, this]
  · have hge : ¬ (y : Int) < 32 := of_decide_eq_false hge
    have : y = 32 := by omega
    subst this
    exact ⟨fun j hj => by simp [hj], trivial⟩
theorem card_first : FnOKg Tryz.prog glK 90 (specRow .u64 .u8 25 32 (fun _ => []) firstG) :=
  FnOKg.up (FnOK_row (cx := Cx.none) (iv := fun L => [(3, .inv (invFirst L))]) (fun p hp => by cases hp) Tryz.func90 (by kernel_rfl) (by kernel_rfl) fun L _ => ok_first L) glK
/-- A sponge that is soaked. -/
def soakG (L H : Nat → Int) (_ : Int) : SV := .one (.agg (.f .u64 25 (fun i => lw (soakB (ofRow L) H i)) :: zeroSp))
theorem lw_ofRow {n : Nat} {L : Nat → Int} (h : lanes n L) {i : Nat} (hi : i < n) : lw (ofRow L i) = L i := lw_of (h i hi)
theorem card_soak : FnOKg Tryz.prog glK 89 (specSp (fun L _ _ => [lanes 25 L]) soakG) := by
  refine FnOK_owesG (cx := ⟨[(105, specLanes 25 25 turnB)], glK, 0⟩) (by
    intro p hp
    simp only [List.mem_singleton] at hp
    subst hp
    exact card_Turn) Tryz.func89 (by kernel_rfl) (by kernel_rfl) fun args ps sv hs hp => ?_
  unfold specSp at hs
  split at hs
  · rename_i x
    split at hs
    · rename_i L H N hx
      simp only [Option.some.injEq, Prod.mk.injEq] at hs
      obtain ⟨rfl, rfl⟩ := hs
      obtain ⟨hl, _⟩ := hp
      refine ⟨_, _, [sSp (fun i => lw (ofRow L i)) H N], fun ρ => ?_, fun fz _ z hz => by simp only [List.mem_singleton] at hz; subst hz; exact bnd_sSp _ _ _ _, ?_, ok_soak (ofRow L) H N⟩
      · rw [List.map_singleton, List.map_singleton, asSp_canon hx ρ]
        congr 1
        simp only [SA.conc]
        rw [concs_cons, concs_cons ρ (.f .u64 25 fun i => lw (ofRow L i)), concs_f, concs_f]
        congr 3
        exact List.map_congr_left fun j hj => by rw [lw_ofRow hl (List.mem_range.1 hj)]
      · intro k hk
        simp only [zeroSp, List.mem_cons, List.not_mem_nil, or_false] at hk
        rcases hk with rfl | rfl | rfl <;> trivial
    · cases hs
  · cases hs
end Go.Proofs.YtbfcccoeekonlaaGreatDoor
end

section
/-
  Duties of package keccak: what each function comes to, part 3.
-/
namespace Go.Proofs.YtbfcccoeekonlaaGreatDoor
open Go Go.Sx Go.RowKit
def cxEnd : Cx := ⟨[(88, specSp (fun _ _ _ => []) fun _ H N => .one (sB (mayG H N))), (89, specSp (fun L _ _ => [lanes 25 L]) soakG), (90, specRow .u64 .u8 25 32 (fun _ => []) firstG)], glK, 0⟩
def spOf (L H : Nat → Int) (N : Int) : Sp := ⟨ofRow L, H, N.toNat⟩
def endG (L H : Nat → Int) (N : Int) : SV := .tup [sRow .u8 32 (fun j => if mayG H N then endB (spOf L H N) j else 0), sI .i64 (if mayG H N then 0 else 12)]
def kAddG (L H : Nat → Int) (N : Int) (n : Nat) (f : Nat → Int) : SV := .tup [sSp (fun i => if mayG H N then lw ((addB (spOf L H N) f n).a i) else 0) (fun j => if mayG H N then (addB (spOf L H N) f n).H j else 0) (if mayG H N then ((addB (spOf L H N) f n).n : Int) else 0), sI .i64 (if mayG H N then 0 else 12)]
def invAdd (L H : Nat → Int) (N : Int) (n : Nat) (f : Nat → Int) : Inv where
  X := Nat × Option Addr × Nat
  tm y := slotsAt 34 [(1, .one (sXs y.2.1 (n - y.1) y.2.2 (fun i => f (y.1 + i)))), (2, .one (.sc (.ptr 0 0))), (4, .one (.sc (.ptr 1 0))), (5, .one (.sc (.num .i64 0)))]
  ob y := [.cells 106 [.f .u64 25 (fun i => lw ((addB (spOf L H N) f y.1).a i)), .f .u8 136 (addB (spOf L H N) f y.1).H, .c (.val (.int .i64 ((addB (spOf L H N) f y.1).n : Int)))] 0, .cells 106 (List.replicate 25 (.c (.num .u64 0)) ++ List.replicate 136 (.c (.num .u8 0)) ++ [.c (.num .i64 0)]) 0]
  holds y := mayG H N = true ∧ y.1 ≤ n
  less y := n - y.1
-- VC vc_End HASH 5ea8c2d7d666c23b
theorem vc_End (L H : Nat → Int) (N : Int) :
    Owes Tryz.prog cxEnd [] 10 Tryz.f70 [sSp L H N] (endG L H N) =
    (let x1 : Int := if mayG H N = Bool.true then (0 : Int) else (12 : Int); let x2 : Int := Go.IntKind.u8.wrap (H N.toNat + (1 : Int)); ((!mayG H N) = Bool.true → (((0 : Int) = if mayG H N = Bool.true then Go.Sx.endB (spOf L H N) (0 : Nat) else (0 : Int)) ∧ ((0 : Int) = if mayG H N = Bool.true then Go.Sx.endB (spOf L H N) (1 : Nat) else (0 : Int)) ∧ ((0 : Int) = if mayG H N = Bool.true then Go.Sx.endB (spOf L H N) (2 : Nat) else (0 : Int)) ∧ ((0 : Int) = if mayG H N = Bool.true then Go.Sx.endB (spOf L H N) (3 : Nat) else (0 : Int)) ∧ ((0 : Int) = if mayG H N = Bool.true then Go.Sx.endB (spOf L H N) (4 : Nat) else (0 : Int)) ∧ ((0 : Int) = if mayG H N = Bool.true then Go.Sx.endB (spOf L H N) (5 : Nat) else (0 : Int)) ∧ ((0 : Int) = if mayG H N = Bool.true then Go.Sx.endB (spOf L H N) (6 : Nat) else (0 : Int)) ∧ ((0 : Int) = if mayG H N = Bool.true then Go.Sx.endB (spOf L H N) (7 : Nat) else (0 : Int)) ∧ ((0 : Int) = if mayG H N = Bool.true then Go.Sx.endB (spOf L H N) (8 : Nat) else (0 : Int)) ∧ ((0 : Int) = if mayG H N = Bool.true then Go.Sx.endB (spOf L H N) (9 : Nat) else (0 : Int)) ∧ ((0 : Int) = if mayG H N = Bool.true then Go.Sx.endB (spOf L H N) (10 : Nat) else (0 : Int)) ∧ ((0 : Int) = if mayG H N = Bool.true then Go.Sx.endB (spOf L H N) (11 : Nat) else (0 : Int)) ∧ ((0 : Int) = if mayG H N = Bool.true then Go.Sx.endB (spOf L H N) (12 : Nat) else (0 : Int)) ∧ ((0 : Int) = if mayG H N = Bool.true then Go.Sx.endB (spOf L H N) (13 : Nat) else (0 : Int)) ∧ ((0 : Int) = if mayG H N = Bool.true then Go.Sx.endB (spOf L H N) (14 : Nat) else (0 : Int)) ∧ ((0 : Int) = if mayG H N = Bool.true then Go.Sx.endB (spOf L H N) (15 : Nat) else (0 : Int)) ∧ ((0 : Int) = if mayG H N = Bool.true then Go.Sx.endB (spOf L H N) (16 : Nat) else (0 : Int)) ∧ ((0 : Int) = if mayG H N = Bool.true then Go.Sx.endB (spOf L H N) (17 : Nat) else (0 : Int)) ∧ ((0 : Int) = if mayG H N = Bool.true then Go.Sx.endB (spOf L H N) (18 : Nat) else (0 : Int)) ∧ ((0 : Int) = if mayG H N = Bool.true then Go.Sx.endB (spOf L H N) (19 : Nat) else (0 : Int)) ∧ ((0 : Int) = if mayG H N = Bool.true then Go.Sx.endB (spOf L H N) (20 : Nat) else (0 : Int)) ∧ ((0 : Int) = if mayG H N = Bool.true then Go.Sx.endB (spOf L H N) (21 : Nat) else (0 : Int)) ∧ ((0 : Int) = if mayG H N = Bool.true then Go.Sx.endB (spOf L H N) (22 : Nat) else (0 : Int)) ∧ ((0 : Int) = if mayG H N = Bool.true then Go.Sx.endB (spOf L H N) (23 : Nat) else (0 : Int)) ∧ ((0 : Int) = if mayG H N = Bool.true then Go.Sx.endB (spOf L H N) (24 : Nat) else (0 : Int)) ∧ ((0 : Int) = if mayG H N = Bool.true then Go.Sx.endB (spOf L H N) (25 : Nat) else (0 : Int)) ∧ ((0 : Int) = if mayG H N = Bool.true then Go.Sx.endB (spOf L H N) (26 : Nat) else (0 : Int)) ∧ ((0 : Int) = if mayG H N = Bool.true then Go.Sx.endB (spOf L H N) (27 : Nat) else (0 : Int)) ∧ ((0 : Int) = if mayG H N = Bool.true then Go.Sx.endB (spOf L H N) (28 : Nat) else (0 : Int)) ∧ ((0 : Int) = if mayG H N = Bool.true then Go.Sx.endB (spOf L H N) (29 : Nat) else (0 : Int)) ∧ ((0 : Int) = if mayG H N = Bool.true then Go.Sx.endB (spOf L H N) (30 : Nat) else (0 : Int)) ∧ ((0 : Int) = if mayG H N = Bool.true then Go.Sx.endB (spOf L H N) (31 : Nat) else (0 : Int)) ∧ True) ∧ (12 : Int) = x1) ∧ ((!mayG H N) = Bool.false → ((0 : Int) ≤ N ∧ N < (136 : Int)) ∧ ((0 : Int) ≤ N ∧ N < (136 : Int)) ∧ ((0 : Int) ≤ N ∧ N < (136 : Int)) ∧ ((0 : Int) ≤ N ∧ N < (136 : Int)) ∧ (∀ (i : Nat), i < (25 : Nat) → (0 : Int) ≤ L i ∧ L i < (18446744073709551616 : Int)) ∧ ((∀ (j : Nat), j < (32 : Nat) → Go.Sx.firstG (fun (i : Nat) => Go.Sx.lw (Go.Sx.soakB (Go.Sx.ofRow L) (fun (j : Nat) => (Go.Sx.intsL [Go.Sx.SK.f Go.IntKind.u8 (135 : Nat) fun (j : Nat) => if j = N.toNat then x2 else H j, Go.Sx.SK.c (Go.Sx.SC.val (Go.Value.int Go.IntKind.u8 (Go.IntKind.u8.wrap ((if (135 : Nat) = N.toNat then x2 else H (135 : Nat)) + (128 : Int)))))]).getD j (0 : Int)) i)) j = if mayG H N = Bool.true then Go.Sx.endB (spOf L H N) j else (0 : Int)) ∧ True) ∧ (0 : Int) = x1)) := by kernel_rfl
-- END VC
-- VC vc_kAdd HASH 6d70869f10ea8685
theorem vc_kAdd (L H : Nat → Int) (N : Int) (a : Option Addr) (n cap : Nat) (f : Nat → Int) :
    Owes Tryz.prog cxEnd [(3, .inv (invAdd L H N n f))] 10 Tryz.f68 [sSp L H N, sXs a n cap f] (kAddG L H N n f) =
    (let x1 : Int := if mayG H N = Bool.true then (↑(Go.Sx.addB (spOf L H N) f n).n : Int) else (0 : Int); let x2 : Int := if mayG H N = Bool.true then (0 : Int) else (12 : Int); ((!mayG H N) = Bool.true → (((0 : Int) = if mayG H N = Bool.true then Go.Sx.lw ((Go.Sx.addB (spOf L H N) f n).a (0 : Nat)) else (0 : Int)) ∧ ((0 : Int) = if mayG H N = Bool.true then Go.Sx.lw ((Go.Sx.addB (spOf L H N) f n).a (1 : Nat)) else (0 : Int)) ∧ ((0 : Int) = if mayG H N = Bool.true then Go.Sx.lw ((Go.Sx.addB (spOf L H N) f n).a (2 : Nat)) else (0 : Int)) ∧ ((0 : Int) = if mayG H N = Bool.true then Go.Sx.lw ((Go.Sx.addB (spOf L H N) f n).a (3 : Nat)) else (0 : Int)) ∧ ((0 : Int) = if mayG H N = Bool.true then Go.Sx.lw ((Go.Sx.addB (spOf L H N) f n).a (4 : Nat)) else (0 : Int)) ∧ ((0 : Int) = if mayG H N = Bool.true then Go.Sx.lw ((Go.Sx.addB (spOf L H N) f n).a (5 : Nat)) else (0 : Int)) ∧ ((0 : Int) = if mayG H N = Bool.true then Go.Sx.lw ((Go.Sx.addB (spOf L H N) f n).a (6 : Nat)) else (0 : Int)) ∧ ((0 : Int) = if mayG H N = Bool.true then Go.Sx.lw ((Go.Sx.addB (spOf L H N) f n).a (7 : Nat)) else (0 : Int)) ∧ ((0 : Int) = if mayG H N = Bool.true then Go.Sx.lw ((Go.Sx.addB (spOf L H N) f n).a (8 : Nat)) else (0 : Int)) ∧ ((0 : Int) = if mayG H N = Bool.true then Go.Sx.lw ((Go.Sx.addB (spOf L H N) f n).a (9 : Nat)) else (0 : Int)) ∧ ((0 : Int) = if mayG H N = Bool.true then Go.Sx.lw ((Go.Sx.addB (spOf L H N) f n).a (10 : Nat)) else (0 : Int)) ∧ ((0 : Int) = if mayG H N = Bool.true then Go.Sx.lw ((Go.Sx.addB (spOf L H N) f n).a (11 : Nat)) else (0 : Int)) ∧ ((0 : Int) = if mayG H N = Bool.true then Go.Sx.lw ((Go.Sx.addB (spOf L H N) f n).a (12 : Nat)) else (0 : Int)) ∧ ((0 : Int) = if mayG H N = Bool.true then Go.Sx.lw ((Go.Sx.addB (spOf L H N) f n).a (13 : Nat)) else (0 : Int)) ∧ ((0 : Int) = if mayG H N = Bool.true then Go.Sx.lw ((Go.Sx.addB (spOf L H N) f n).a (14 : Nat)) else (0 : Int)) ∧ ((0 : Int) = if mayG H N = Bool.true then Go.Sx.lw ((Go.Sx.addB (spOf L H N) f n).a (15 : Nat)) else (0 : Int)) ∧ ((0 : Int) = if mayG H N = Bool.true then Go.Sx.lw ((Go.Sx.addB (spOf L H N) f n).a (16 : Nat)) else (0 : Int)) ∧ ((0 : Int) = if mayG H N = Bool.true then Go.Sx.lw ((Go.Sx.addB (spOf L H N) f n).a (17 : Nat)) else (0 : Int)) ∧ ((0 : Int) = if mayG H N = Bool.true then Go.Sx.lw ((Go.Sx.addB (spOf L H N) f n).a (18 : Nat)) else (0 : Int)) ∧ ((0 : Int) = if mayG H N = Bool.true then Go.Sx.lw ((Go.Sx.addB (spOf L H N) f n).a (19 : Nat)) else (0 : Int)) ∧ ((0 : Int) = if mayG H N = Bool.true then Go.Sx.lw ((Go.Sx.addB (spOf L H N) f n).a (20 : Nat)) else (0 : Int)) ∧ ((0 : Int) = if mayG H N = Bool.true then Go.Sx.lw ((Go.Sx.addB (spOf L H N) f n).a (21 : Nat)) else (0 : Int)) ∧ ((0 : Int) = if mayG H N = Bool.true then Go.Sx.lw ((Go.Sx.addB (spOf L H N) f n).a (22 : Nat)) else (0 : Int)) ∧ ((0 : Int) = if mayG H N = Bool.true then Go.Sx.lw ((Go.Sx.addB (spOf L H N) f n).a (23 : Nat)) else (0 : Int)) ∧ ((0 : Int) = if mayG H N = Bool.true then Go.Sx.lw ((Go.Sx.addB (spOf L H N) f n).a (24 : Nat)) else (0 : Int)) ∧ ((0 : Int) = if mayG H N = Bool.true then (Go.Sx.addB (spOf L H N) f n).H (0 : Nat) else (0 : Int)) ∧ ((0 : Int) = if mayG H N = Bool.true then (Go.Sx.addB (spOf L H N) f n).H (1 : Nat) else (0 : Int)) ∧ ((0 : Int) = if mayG H N = Bool.true then (Go.Sx.addB (spOf L H N) f n).H (2 : Nat) else (0 : Int)) ∧ ((0 : Int) = if mayG H N = Bool.true then (Go.Sx.addB (spOf L H N) f n).H (3 : Nat) else (0 : Int)) ∧ ((0 : Int) = if mayG H N = Bool.true then (Go.Sx.addB (spOf L H N) f n).H (4 : Nat) else (0 : Int)) ∧ ((0 : Int) = if mayG H N = Bool.true then (Go.Sx.addB (spOf L H N) f n).H (5 : Nat) else (0 : Int)) ∧ ((0 : Int) = if mayG H N = Bool.true then (Go.Sx.addB (spOf L H N) f n).H (6 : Nat) else (0 : Int)) ∧ ((0 : Int) = if mayG H N = Bool.true then (Go.Sx.addB (spOf L H N) f n).H (7 : Nat) else (0 : Int)) ∧ ((0 : Int) = if mayG H N = Bool.true then (Go.Sx.addB (spOf L H N) f n).H (8 : Nat) else (0 : Int)) ∧ ((0 : Int) = if mayG H N = Bool.true then (Go.Sx.addB (spOf L H N) f n).H (9 : Nat) else (0 : Int)) ∧ ((0 : Int) = if mayG H N = Bool.true then (Go.Sx.addB (spOf L H N) f n).H (10 : Nat) else (0 : Int)) ∧ ((0 : Int) = if mayG H N = Bool.true then (Go.Sx.addB (spOf L H N) f n).H (11 : Nat) else (0 : Int)) ∧ ((0 : Int) = if mayG H N = Bool.true then (Go.Sx.addB (spOf L H N) f n).H (12 : Nat) else (0 : Int)) ∧ ((0 : Int) = if mayG H N = Bool.true then (Go.Sx.addB (spOf L H N) f n).H (13 : Nat) else (0 : Int)) ∧ ((0 : Int) = if mayG H N = Bool.true then (Go.Sx.addB (spOf L H N) f n).H (14 : Nat) else (0 : Int)) ∧ ((0 : Int) = if mayG H N = Bool.true then (Go.Sx.addB (spOf L H N) f n).H (15 : Nat) else (0 : Int)) ∧ ((0 : Int) = if mayG H N = Bool.true then (Go.Sx.addB (spOf L H N) f n).H (16 : Nat) else (0 : Int)) ∧ ((0 : Int) = if mayG H N = Bool.true then (Go.Sx.addB (spOf L H N) f n).H (17 : Nat) else (0 : Int)) ∧ ((0 : Int) = if mayG H N = Bool.true then (Go.Sx.addB (spOf L H N) f n).H (18 : Nat) else (0 : Int)) ∧ ((0 : Int) = if mayG H N = Bool.true then (Go.Sx.addB (spOf L H N) f n).H (19 : Nat) else (0 : Int)) ∧ ((0 : Int) = if mayG H N = Bool.true then (Go.Sx.addB (spOf L H N) f n).H (20 : Nat) else (0 : Int)) ∧ ((0 : Int) = if mayG H N = Bool.true then (Go.Sx.addB (spOf L H N) f n).H (21 : Nat) else (0 : Int)) ∧ ((0 : Int) = if mayG H N = Bool.true then (Go.Sx.addB (spOf L H N) f n).H (22 : Nat) else (0 : Int)) ∧ ((0 : Int) = if mayG H N = Bool.true then (Go.Sx.addB (spOf L H N) f n).H (23 : Nat) else (0 : Int)) ∧ ((0 : Int) = if mayG H N = Bool.true then (Go.Sx.addB (spOf L H N) f n).H (24 : Nat) else (0 : Int)) ∧ ((0 : Int) = if mayG H N = Bool.true then (Go.Sx.addB (spOf L H N) f n).H (25 : Nat) else (0 : Int)) ∧ ((0 : Int) = if mayG H N = Bool.true then (Go.Sx.addB (spOf L H N) f n).H (26 : Nat) else (0 : Int)) ∧ ((0 : Int) = if mayG H N = Bool.true then (Go.Sx.addB (spOf L H N) f n).H (27 : Nat) else (0 : Int)) ∧ ((0 : Int) = if mayG H N = Bool.true then (Go.Sx.addB (spOf L H N) f n).H (28 : Nat) else (0 : Int)) ∧ ((0 : Int) = if mayG H N = Bool.true then (Go.Sx.addB (spOf L H N) f n).H (29 : Nat) else (0 : Int)) ∧ ((0 : Int) = if mayG H N = Bool.true then (Go.Sx.addB (spOf L H N) f n).H (30 : Nat) else (0 : Int)) ∧ ((0 : Int) = if mayG H N = Bool.true then (Go.Sx.addB (spOf L H N) f n).H (31 : Nat) else (0 : Int)) ∧ ((0 : Int) = if mayG H N = Bool.true then (Go.Sx.addB (spOf L H N) f n).H (32 : Nat) else (0 : Int)) ∧ ((0 : Int) = if mayG H N = Bool.true then (Go.Sx.addB (spOf L H N) f n).H (33 : Nat) else (0 : Int)) ∧ ((0 : Int) = if mayG H N = Bool.true then (Go.Sx.addB (spOf L H N) f n).H (34 : Nat) else (0 : Int)) ∧ ((0 : Int) = if mayG H N = Bool.true then (Go.Sx.addB (spOf L H N) f n).H (35 : Nat) else (0 : Int)) ∧ ((0 : Int) = if mayG H N = Bool.true then (Go.Sx.addB (spOf L H N) f n).H (36 : Nat) else (0 : Int)) ∧ ((0 : Int) = if mayG H N = Bool.true then (Go.Sx.addB (spOf L H N) f n).H (37 : Nat) else (0 : Int)) ∧ ((0 : Int) = if mayG H N = Bool.true then (Go.Sx.addB (spOf L H N) f n).H (38 : Nat) else (0 : Int)) ∧ ((0 : Int) = if mayG H N = Bool.true then (Go.Sx.addB (spOf L H N) f n).H (39 : Nat) else (0 : Int)) ∧ ((0 : Int) = if mayG H N = Bool.true then (Go.Sx.addB (spOf L H N) f n).H (40 : Nat) else (0 : Int)) ∧ ((0 : Int) = if mayG H N = Bool.true then (Go.Sx.addB (spOf L H N) f n).H (41 : Nat) else (0 : Int)) ∧ ((0 : Int) = if mayG H N = Bool.true then (Go.Sx.addB (spOf L H N) f n).H (42 : Nat) else (0 : Int)) ∧ ((0 : Int) = if mayG H N = Bool.true then (Go.Sx.addB (spOf L H N) f n).H (43 : Nat) else (0 : Int)) ∧ ((0 : Int) = if mayG H N = Bool.true then (Go.Sx.addB (spOf L H N) f n).H (44 : Nat) else (0 : Int)) ∧ ((0 : Int) = if mayG H N = Bool.true then (Go.Sx.addB (spOf L H N) f n).H (45 : Nat) else (0 : Int)) ∧ ((0 : Int) = if mayG H N = Bool.true then (Go.Sx.addB (spOf L H N) f n).H (46 : Nat) else (0 : Int)) ∧ ((0 : Int) = if mayG H N = Bool.true then (Go.Sx.addB (spOf L H N) f n).H (47 : Nat) else (0 : Int)) ∧ ((0 : Int) = if mayG H N = Bool.true then (Go.Sx.addB (spOf L H N) f n).H (48 : Nat) else (0 : Int)) ∧ ((0 : Int) = if mayG H N = Bool.true then (Go.Sx.addB (spOf L H N) f n).H (49 : Nat) else (0 : Int)) ∧ ((0 : Int) = if mayG H N = Bool.true then (Go.Sx.addB (spOf L H N) f n).H (50 : Nat) else (0 : Int)) ∧ ((0 : Int) = if mayG H N = Bool.true then (Go.Sx.addB (spOf L H N) f n).H (51 : Nat) else (0 : Int)) ∧ ((0 : Int) = if mayG H N = Bool.true then (Go.Sx.addB (spOf L H N) f n).H (52 : Nat) else (0 : Int)) ∧ ((0 : Int) = if mayG H N = Bool.true then (Go.Sx.addB (spOf L H N) f n).H (53 : Nat) else (0 : Int)) ∧ ((0 : Int) = if mayG H N = Bool.true then (Go.Sx.addB (spOf L H N) f n).H (54 : Nat) else (0 : Int)) ∧ ((0 : Int) = if mayG H N = Bool.true then (Go.Sx.addB (spOf L H N) f n).H (55 : Nat) else (0 : Int)) ∧ ((0 : Int) = if mayG H N = Bool.true then (Go.Sx.addB (spOf L H N) f n).H (56 : Nat) else (0 : Int)) ∧ ((0 : Int) = if mayG H N = Bool.true then (Go.Sx.addB (spOf L H N) f n).H (57 : Nat) else (0 : Int)) ∧ ((0 : Int) = if mayG H N = Bool.true then (Go.Sx.addB (spOf L H N) f n).H (58 : Nat) else (0 : Int)) ∧ ((0 : Int) = if mayG H N = Bool.true then (Go.Sx.addB (spOf L H N) f n).H (59 : Nat) else (0 : Int)) ∧ ((0 : Int) = if mayG H N = Bool.true then (Go.Sx.addB (spOf L H N) f n).H (60 : Nat) else (0 : Int)) ∧ ((0 : Int) = if mayG H N = Bool.true then (Go.Sx.addB (spOf L H N) f n).H (61 : Nat) else (0 : Int)) ∧ ((0 : Int) = if mayG H N = Bool.true then (Go.Sx.addB (spOf L H N) f n).H (62 : Nat) else (0 : Int)) ∧ ((0 : Int) = if mayG H N = Bool.true then (Go.Sx.addB (spOf L H N) f n).H (63 : Nat) else (0 : Int)) ∧ ((0 : Int) = if mayG H N = Bool.true then (Go.Sx.addB (spOf L H N) f n).H (64 : Nat) else (0 : Int)) ∧ ((0 : Int) = if mayG H N = Bool.true then (Go.Sx.addB (spOf L H N) f n).H (65 : Nat) else (0 : Int)) ∧ ((0 : Int) = if mayG H N = Bool.true then (Go.Sx.addB (spOf L H N) f n).H (66 : Nat) else (0 : Int)) ∧ ((0 : Int) = if mayG H N = Bool.true then (Go.Sx.addB (spOf L H N) f n).H (67 : Nat) else (0 : Int)) ∧ ((0 : Int) = if mayG H N = Bool.true then (Go.Sx.addB (spOf L H N) f n).H (68 : Nat) else (0 : Int)) ∧ ((0 : Int) = if mayG H N = Bool.true then (Go.Sx.addB (spOf L H N) f n).H (69 : Nat) else (0 : Int)) ∧ ((0 : Int) = if mayG H N = Bool.true then (Go.Sx.addB (spOf L H N) f n).H (70 : Nat) else (0 : Int)) ∧ ((0 : Int) = if mayG H N = Bool.true then (Go.Sx.addB (spOf L H N) f n).H (71 : Nat) else (0 : Int)) ∧ ((0 : Int) = if mayG H N = Bool.true then (Go.Sx.addB (spOf L H N) f n).H (72 : Nat) else (0 : Int)) ∧ ((0 : Int) = if mayG H N = Bool.true then (Go.Sx.addB (spOf L H N) f n).H (73 : Nat) else (0 : Int)) ∧ ((0 : Int) = if mayG H N = Bool.true then (Go.Sx.addB (spOf L H N) f n).H (74 : Nat) else (0 : Int)) ∧ ((0 : Int) = if mayG H N = Bool.true then (Go.Sx.addB (spOf L H N) f n).H (75 : Nat) else (0 : Int)) ∧ ((0 : Int) = if mayG H N = Bool.true then (Go.Sx.addB (spOf L H N) f n).H (76 : Nat) else (0 : Int)) ∧ ((0 : Int) = if mayG H N = Bool.true then (Go.Sx.addB (spOf L H N) f n).H (77 : Nat) else (0 : Int)) ∧ ((0 : Int) = if mayG H N = Bool.true then (Go.Sx.addB (spOf L H N) f n).H (78 : Nat) else (0 : Int)) ∧ ((0 : Int) = if mayG H N = Bool.true then (Go.Sx.addB (spOf L H N) f n).H (79 : Nat) else (0 : Int)) ∧ ((0 : Int) = if mayG H N = Bool.true then (Go.Sx.addB (spOf L H N) f n).H (80 : Nat) else (0 : Int)) ∧ ((0 : Int) = if mayG H N = Bool.true then (Go.Sx.addB (spOf L H N) f n).H (81 : Nat) else (0 : Int)) ∧ ((0 : Int) = if mayG H N = Bool.true then (Go.Sx.addB (spOf L H N) f n).H (82 : Nat) else (0 : Int)) ∧ ((0 : Int) = if mayG H N = Bool.true then (Go.Sx.addB (spOf L H N) f n).H (83 : Nat) else (0 : Int)) ∧ ((0 : Int) = if mayG H N = Bool.true then (Go.Sx.addB (spOf L H N) f n).H (84 : Nat) else (0 : Int)) ∧ ((0 : Int) = if mayG H N = Bool.true then (Go.Sx.addB (spOf L H N) f n).H (85 : Nat) else (0 : Int)) ∧ ((0 : Int) = if mayG H N = Bool.true then (Go.Sx.addB (spOf L H N) f n).H (86 : Nat) else (0 : Int)) ∧ ((0 : Int) = if mayG H N = Bool.true then (Go.Sx.addB (spOf L H N) f n).H (87 : Nat) else (0 : Int)) ∧ ((0 : Int) = if mayG H N = Bool.true then (Go.Sx.addB (spOf L H N) f n).H (88 : Nat) else (0 : Int)) ∧ ((0 : Int) = if mayG H N = Bool.true then (Go.Sx.addB (spOf L H N) f n).H (89 : Nat) else (0 : Int)) ∧ ((0 : Int) = if mayG H N = Bool.true then (Go.Sx.addB (spOf L H N) f n).H (90 : Nat) else (0 : Int)) ∧ ((0 : Int) = if mayG H N = Bool.true then (Go.Sx.addB (spOf L H N) f n).H (91 : Nat) else (0 : Int)) ∧ ((0 : Int) = if mayG H N = Bool.true then (Go.Sx.addB (spOf L H N) f n).H (92 : Nat) else (0 : Int)) ∧ ((0 : Int) = if mayG H N = Bool.true then (Go.Sx.addB (spOf L H N) f n).H (93 : Nat) else (0 : Int)) ∧ ((0 : Int) = if mayG H N = Bool.true then (Go.Sx.addB (spOf L H N) f n).H (94 : Nat) else (0 : Int)) ∧ ((0 : Int) = if mayG H N = Bool.true then (Go.Sx.addB (spOf L H N) f n).H (95 : Nat) else (0 : Int)) ∧ ((0 : Int) = if mayG H N = Bool.true then (Go.Sx.addB (spOf L H N) f n).H (96 : Nat) else (0 : Int)) ∧ ((0 : Int) = if mayG H N = Bool.true then (Go.Sx.addB (spOf L H N) f n).H (97 : Nat) else (0 : Int)) ∧ ((0 : Int) = if mayG H N = Bool.true then (Go.Sx.addB (spOf L H N) f n).H (98 : Nat) else (0 : Int)) ∧ ((0 : Int) = if mayG H N = Bool.true then (Go.Sx.addB (spOf L H N) f n).H (99 : Nat) else (0 : Int)) ∧ ((0 : Int) = if mayG H N = Bool.true then (Go.Sx.addB (spOf L H N) f n).H (100 : Nat) else (0 : Int)) ∧ ((0 : Int) = if mayG H N = Bool.true then (Go.Sx.addB (spOf L H N) f n).H (101 : Nat) else (0 : Int)) ∧ ((0 : Int) = if mayG H N = Bool.true then (Go.Sx.addB (spOf L H N) f n).H (102 : Nat) else (0 : Int)) ∧ ((0 : Int) = if mayG H N = Bool.true then (Go.Sx.addB (spOf L H N) f n).H (103 : Nat) else (0 : Int)) ∧ ((0 : Int) = if mayG H N = Bool.true then (Go.Sx.addB (spOf L H N) f n).H (104 : Nat) else (0 : Int)) ∧ ((0 : Int) = if mayG H N = Bool.true then (Go.Sx.addB (spOf L H N) f n).H (105 : Nat) else (0 : Int)) ∧ ((0 : Int) = if mayG H N = Bool.true then (Go.Sx.addB (spOf L H N) f n).H (106 : Nat) else (0 : Int)) ∧ ((0 : Int) = if mayG H N = Bool.true then (Go.Sx.addB (spOf L H N) f n).H (107 : Nat) else (0 : Int)) ∧ ((0 : Int) = if mayG H N = Bool.true then (Go.Sx.addB (spOf L H N) f n).H (108 : Nat) else (0 : Int)) ∧ ((0 : Int) = if mayG H N = Bool.true then (Go.Sx.addB (spOf L H N) f n).H (109 : Nat) else (0 : Int)) ∧ ((0 : Int) = if mayG H N = Bool.true then (Go.Sx.addB (spOf L H N) f n).H (110 : Nat) else (0 : Int)) ∧ ((0 : Int) = if mayG H N = Bool.true then (Go.Sx.addB (spOf L H N) f n).H (111 : Nat) else (0 : Int)) ∧ ((0 : Int) = if mayG H N = Bool.true then (Go.Sx.addB (spOf L H N) f n).H (112 : Nat) else (0 : Int)) ∧ ((0 : Int) = if mayG H N = Bool.true then (Go.Sx.addB (spOf L H N) f n).H (113 : Nat) else (0 : Int)) ∧ ((0 : Int) = if mayG H N = Bool.true then (Go.Sx.addB (spOf L H N) f n).H (114 : Nat) else (0 : Int)) ∧ ((0 : Int) = if mayG H N = Bool.true then (Go.Sx.addB (spOf L H N) f n).H (115 : Nat) else (0 : Int)) ∧ ((0 : Int) = if mayG H N = Bool.true then (Go.Sx.addB (spOf L H N) f n).H (116 : Nat) else (0 : Int)) ∧ ((0 : Int) = if mayG H N = Bool.true then (Go.Sx.addB (spOf L H N) f n).H (117 : Nat) else (0 : Int)) ∧ ((0 : Int) = if mayG H N = Bool.true then (Go.Sx.addB (spOf L H N) f n).H (118 : Nat) else (0 : Int)) ∧ ((0 : Int) = if mayG H N = Bool.true then (Go.Sx.addB (spOf L H N) f n).H (119 : Nat) else (0 : Int)) ∧ ((0 : Int) = if mayG H N = Bool.true then (Go.Sx.addB (spOf L H N) f n).H (120 : Nat) else (0 : Int)) ∧ ((0 : Int) = if mayG H N = Bool.true then (Go.Sx.addB (spOf L H N) f n).H (121 : Nat) else (0 : Int)) ∧ ((0 : Int) = if mayG H N = Bool.true then (Go.Sx.addB (spOf L H N) f n).H (122 : Nat) else (0 : Int)) ∧ ((0 : Int) = if mayG H N = Bool.true then (Go.Sx.addB (spOf L H N) f n).H (123 : Nat) else (0 : Int)) ∧ ((0 : Int) = if mayG H N = Bool.true then (Go.Sx.addB (spOf L H N) f n).H (124 : Nat) else (0 : Int)) ∧ ((0 : Int) = if mayG H N = Bool.true then (Go.Sx.addB (spOf L H N) f n).H (125 : Nat) else (0 : Int)) ∧ ((0 : Int) = if mayG H N = Bool.true then (Go.Sx.addB (spOf L H N) f n).H (126 : Nat) else (0 : Int)) ∧ ((0 : Int) = if mayG H N = Bool.true then (Go.Sx.addB (spOf L H N) f n).H (127 : Nat) else (0 : Int)) ∧ ((0 : Int) = if mayG H N = Bool.true then (Go.Sx.addB (spOf L H N) f n).H (128 : Nat) else (0 : Int)) ∧ ((0 : Int) = if mayG H N = Bool.true then (Go.Sx.addB (spOf L H N) f n).H (129 : Nat) else (0 : Int)) ∧ ((0 : Int) = if mayG H N = Bool.true then (Go.Sx.addB (spOf L H N) f n).H (130 : Nat) else (0 : Int)) ∧ ((0 : Int) = if mayG H N = Bool.true then (Go.Sx.addB (spOf L H N) f n).H (131 : Nat) else (0 : Int)) ∧ ((0 : Int) = if mayG H N = Bool.true then (Go.Sx.addB (spOf L H N) f n).H (132 : Nat) else (0 : Int)) ∧ ((0 : Int) = if mayG H N = Bool.true then (Go.Sx.addB (spOf L H N) f n).H (133 : Nat) else (0 : Int)) ∧ ((0 : Int) = if mayG H N = Bool.true then (Go.Sx.addB (spOf L H N) f n).H (134 : Nat) else (0 : Int)) ∧ ((0 : Int) = if mayG H N = Bool.true then (Go.Sx.addB (spOf L H N) f n).H (135 : Nat) else (0 : Int)) ∧ (0 : Int) = x1 ∧ True) ∧ (12 : Int) = x2) ∧ ((!mayG H N) = Bool.false → (∀ (y : Nat × Option Go.Addr × Nat), Go.Sx.closedB (Go.Sx.slotsAt (34 : Nat) [((1 : Nat), Go.Sx.SV.one (Go.Sx.sXs y.snd.fst (n - y.fst) y.snd.snd fun (i : Nat) => f (y.fst + i))), ((2 : Nat), Go.Sx.SV.one (Go.Sx.SA.sc (Go.Sx.SC.ptr (0 : Nat) (0 : Nat)))), ((4 : Nat), Go.Sx.SV.one (Go.Sx.SA.sc (Go.Sx.SC.ptr (1 : Nat) (0 : Nat)))), ((5 : Nat), Go.Sx.SV.one (Go.Sx.SA.sc (Go.Sx.SC.num Go.IntKind.i64 (0 : Int))))]) [Go.Sx.SO.cells (106 : Go.TypeId) [Go.Sx.SK.f Go.IntKind.u64 (25 : Nat) fun (i : Nat) => Go.Sx.lw ((Go.Sx.addB (spOf L H N) f y.fst).a i), Go.Sx.SK.f Go.IntKind.u8 (136 : Nat) (Go.Sx.addB (spOf L H N) f y.fst).H, Go.Sx.SK.c (Go.Sx.SC.val (Go.Value.int Go.IntKind.i64 (↑(Go.Sx.addB (spOf L H N) f y.fst).n : Int)))] (0 : Nat), Go.Sx.SO.cells (106 : Go.TypeId) (List.replicate (25 : Nat) (Go.Sx.SK.c (Go.Sx.SC.num Go.IntKind.u64 (0 : Int))) ++ List.replicate (136 : Nat) (Go.Sx.SK.c (Go.Sx.SC.num Go.IntKind.u8 (0 : Int))) ++ [Go.Sx.SK.c (Go.Sx.SC.num Go.IntKind.i64 (0 : Int))]) (0 : Nat)] = Bool.true) ∧ ∃ (y : Nat × Option Go.Addr × Nat), (mayG H N = Bool.true ∧ y.fst ≤ n) ∧ (a = y.snd.fst ∧ n = n - y.fst ∧ cap = y.snd.snd ∧ ∀ (i : Nat), i < n → f i = f (y.fst + i)) ∧ ((∀ (j : Nat), j < (25 : Nat) → L j = Go.Sx.lw ((Go.Sx.addB (spOf L H N) f y.fst).a j)) ∧ (∀ (j : Nat), j < (136 : Nat) → H j = (Go.Sx.addB (spOf L H N) f y.fst).H j) ∧ N = (↑(Go.Sx.addB (spOf L H N) f y.fst).n : Int) ∧ True) ∧ (0 : Nat) = (0 : Nat) ∧ (0 : Nat) = (0 : Nat) ∧ ∀ (y : Nat × Option Go.Addr × Nat), mayG H N = Bool.true ∧ y.fst ≤ n → (Decidable.decide ((↑(n - y.fst) : Int) > (0 : Int)) = Bool.true → ((0 : Int) ≤ (↑(Go.Sx.addB (spOf L H N) f y.fst).n : Int) ∧ (↑(Go.Sx.addB (spOf L H N) f y.fst).n : Int) < (136 : Int)) ∧ (↑(Go.Sx.addB (spOf L H N) f y.fst).n : Int).toNat ≤ (136 : Nat) ∧ (∀ (_ : Nat), True) ∧ ((0 : Int) ≤ (↑((n - y.fst).min ((136 : Nat) - (↑(Go.Sx.addB (spOf L H N) f y.fst).n : Int).toNat)) : Int) ∧ (↑((n - y.fst).min ((136 : Nat) - (↑(Go.Sx.addB (spOf L H N) f y.fst).n : Int).toNat)) : Int) ≤ (↑(n - y.fst) : Int) ∧ (↑(n - y.fst) : Int) ≤ (↑(n - y.fst) : Int)) ∧ ((Go.IntKind.i64.wrap ((↑(Go.Sx.addB (spOf L H N) f y.fst).n : Int) + (↑((n - y.fst).min ((136 : Nat) - (↑(Go.Sx.addB (spOf L H N) f y.fst).n : Int).toNat)) : Int)) == (136 : Int)) = Bool.true → (∀ (i : Nat), i < (25 : Nat) → (0 : Int) ≤ Go.Sx.lw ((Go.Sx.addB (spOf L H N) f y.fst).a i) ∧ Go.Sx.lw ((Go.Sx.addB (spOf L H N) f y.fst).a i) < (18446744073709551616 : Int)) ∧ ∃ (y' : Nat × Option Go.Addr × Nat), (mayG H N = Bool.true ∧ y'.fst ≤ n) ∧ (Go.Sx.adS y.snd.snd (↑((n - y.fst).min ((136 : Nat) - (↑(Go.Sx.addB (spOf L H N) f y.fst).n : Int).toNat)) : Int).toNat (1 : Nat) y.snd.fst = y'.snd.fst ∧ n - y.fst - (↑((n - y.fst).min ((136 : Nat) - (↑(Go.Sx.addB (spOf L H N) f y.fst).n : Int).toNat)) : Int).toNat = n - y'.fst ∧ y.snd.snd - (↑((n - y.fst).min ((136 : Nat) - (↑(Go.Sx.addB (spOf L H N) f y.fst).n : Int).toNat)) : Int).toNat = y'.snd.snd ∧ ∀ (i : Nat), i < n - y.fst - (↑((n - y.fst).min ((136 : Nat) - (↑(Go.Sx.addB (spOf L H N) f y.fst).n : Int).toNat)) : Int).toNat → f (y.fst + ((↑((n - y.fst).min ((136 : Nat) - (↑(Go.Sx.addB (spOf L H N) f y.fst).n : Int).toNat)) : Int).toNat + i)) = f (y'.fst + i)) ∧ ((∀ (j : Nat), j < (25 : Nat) → Go.Sx.lw (Go.Sx.soakB (Go.Sx.ofRow fun (i : Nat) => Go.Sx.lw ((Go.Sx.addB (spOf L H N) f y.fst).a i)) (fun (j : Nat) => if (↑(Go.Sx.addB (spOf L H N) f y.fst).n : Int).toNat ≤ j ∧ j < (↑(Go.Sx.addB (spOf L H N) f y.fst).n : Int).toNat + (n - y.fst).min ((136 : Nat) - (↑(Go.Sx.addB (spOf L H N) f y.fst).n : Int).toNat) then f (y.fst + (j - (↑(Go.Sx.addB (spOf L H N) f y.fst).n : Int).toNat)) else (Go.Sx.addB (spOf L H N) f y.fst).2 j) j) = Go.Sx.lw ((Go.Sx.addB (spOf L H N) f y'.fst).a j)) ∧ (∀ (j : Nat), j < (136 : Nat) → (0 : Int) = (Go.Sx.addB (spOf L H N) f y'.fst).H j) ∧ (0 : Int) = (↑(Go.Sx.addB (spOf L H N) f y'.fst).n : Int) ∧ True) ∧ (0 : Nat) = (0 : Nat) ∧ (0 : Nat) = (0 : Nat) ∧ n - y'.fst < n - y.fst) ∧ ((Go.IntKind.i64.wrap ((↑(Go.Sx.addB (spOf L H N) f y.fst).n : Int) + (↑((n - y.fst).min ((136 : Nat) - (↑(Go.Sx.addB (spOf L H N) f y.fst).n : Int).toNat)) : Int)) == (136 : Int)) = Bool.false → ∃ (y' : Nat × Option Go.Addr × Nat), (mayG H N = Bool.true ∧ y'.fst ≤ n) ∧ (Go.Sx.adS y.snd.snd (↑((n - y.fst).min ((136 : Nat) - (↑(Go.Sx.addB (spOf L H N) f y.fst).n : Int).toNat)) : Int).toNat (1 : Nat) y.snd.fst = y'.snd.fst ∧ n - y.fst - (↑((n - y.fst).min ((136 : Nat) - (↑(Go.Sx.addB (spOf L H N) f y.fst).n : Int).toNat)) : Int).toNat = n - y'.fst ∧ y.snd.snd - (↑((n - y.fst).min ((136 : Nat) - (↑(Go.Sx.addB (spOf L H N) f y.fst).n : Int).toNat)) : Int).toNat = y'.snd.snd ∧ ∀ (i : Nat), i < n - y.fst - (↑((n - y.fst).min ((136 : Nat) - (↑(Go.Sx.addB (spOf L H N) f y.fst).n : Int).toNat)) : Int).toNat → f (y.fst + ((↑((n - y.fst).min ((136 : Nat) - (↑(Go.Sx.addB (spOf L H N) f y.fst).n : Int).toNat)) : Int).toNat + i)) = f (y'.fst + i)) ∧ ((∀ (j : Nat), j < (25 : Nat) → Go.Sx.lw ((Go.Sx.addB (spOf L H N) f y.fst).a j) = Go.Sx.lw ((Go.Sx.addB (spOf L H N) f y'.fst).a j)) ∧ (∀ (j : Nat), j < (136 : Nat) → (if (↑(Go.Sx.addB (spOf L H N) f y.fst).n : Int).toNat ≤ j ∧ j < (↑(Go.Sx.addB (spOf L H N) f y.fst).n : Int).toNat + (n - y.fst).min ((136 : Nat) - (↑(Go.Sx.addB (spOf L H N) f y.fst).n : Int).toNat) then f (y.fst + (j - (↑(Go.Sx.addB (spOf L H N) f y.fst).n : Int).toNat)) else (Go.Sx.addB (spOf L H N) f y.fst).2 j) = (Go.Sx.addB (spOf L H N) f y'.fst).H j) ∧ Go.IntKind.i64.wrap ((↑(Go.Sx.addB (spOf L H N) f y.fst).n : Int) + (↑((n - y.fst).min ((136 : Nat) - (↑(Go.Sx.addB (spOf L H N) f y.fst).n : Int).toNat)) : Int)) = (↑(Go.Sx.addB (spOf L H N) f y'.fst).n : Int) ∧ True) ∧ (0 : Nat) = (0 : Nat) ∧ (0 : Nat) = (0 : Nat) ∧ n - y'.fst < n - y.fst)) ∧ (Decidable.decide ((↑(n - y.fst) : Int) > (0 : Int)) = Bool.false → ((∀ (j : Nat), j < (25 : Nat) → Go.Sx.lw ((Go.Sx.addB (spOf L H N) f y.fst).a j) = if mayG H N = Bool.true then Go.Sx.lw ((Go.Sx.addB (spOf L H N) f n).a j) else (0 : Int)) ∧ (∀ (j : Nat), j < (136 : Nat) → (Go.Sx.addB (spOf L H N) f y.fst).H j = if mayG H N = Bool.true then (Go.Sx.addB (spOf L H N) f n).H j else (0 : Int)) ∧ (↑(Go.Sx.addB (spOf L H N) f y.fst).n : Int) = x1 ∧ True) ∧ (0 : Int) = x2))) := by kernel_rfl
-- END VC
end Go.Proofs.YtbfcccoeekonlaaGreatDoor
end

section
/-
  Package keccak: bytes that are added, and what ends them.
-/
namespace Go.Proofs.YtbfcccoeekonlaaGreatDoor
open Go Go.Sx Go.RowKit

theorem pushB_lt {s : Sp} (h : s.n < 136) (b : Int) : (pushB s b).n < 136 := by
  unfold pushB
  split
  · exact Nat.zero_lt_succ _
  · simp only; omega
theorem addB_lt {s : Sp} (h : s.n < 136) (f : Nat → Int) : ∀ p, (addB s f p).n < 136
  | 0 => h
  | p + 1 => pushB_lt (addB_lt h f p) _
theorem addB_add (s : Sp) (f : Nat → Int) (p : Nat) : ∀ m, addB (addB s f p) (fun i => f (p + i)) m = addB s f (p + m)
  | 0 => rfl
  | m + 1 => by
    show pushB _ _ = pushB _ _
    rw [addB_add s f p m]
    rfl
/-- Bytes that fit are held. -/
theorem addB_held (t : Sp) (g : Nat → Int) : ∀ m, t.n + m < 136 → addB t g m = ⟨t.a, fun j => if t.n ≤ j ∧ j < t.n + m then g (j - t.n) else t.H j, t.n + m⟩
  | 0, _ => by
    have : (fun j => if t.n ≤ j ∧ j < t.n + 0 then g (j - t.n) else t.H j) = t.H := by
      funext j
      rw [if_neg (by omega)]
    rw [this]; rfl
  | m + 1, h => by
    show pushB _ _ = _
    rw [addB_held t g m (by omega)]
    unfold pushB
    simp only
    rw [if_neg (by omega)]
    congr 1
    funext j
    by_cases e : j = t.n + m
    · subst e
      rw [if_pos rfl, if_pos (by omega)]
      congr 1; omega
    · rw [if_neg e]
      by_cases c : t.n ≤ j ∧ j < t.n + m
      · rw [if_pos c, if_pos (by omega)]
      · rw [if_neg c, if_neg (by omega)]
/-- The block is full: it is soaked. -/
theorem addB_full (t : Sp) (g : Nat → Int) {m : Nat} (hn : t.n < 136) (h : t.n + m = 136) : addB t g m = ⟨soakB t.a (fun j => if t.n ≤ j ∧ j < t.n + m then g (j - t.n) else t.H j), fun _ => 0, 0⟩ := by
  match m, h with
  | 0, h => omega
  | m + 1, h =>
    show pushB _ _ = _
    rw [addB_held t g m (by omega)]
    unfold pushB
    simp only
    rw [if_pos (by omega)]
    congr 2
    funext j
    by_cases e : j = t.n + m
    · subst e
      rw [if_pos rfl, if_pos (by omega)]
      congr 1; omega
    · rw [if_neg e]
      by_cases c : t.n ≤ j ∧ j < t.n + m
      · rw [if_pos c, if_pos (by omega)]
      · rw [if_neg c, if_neg (by omega)]
theorem may_lt {L H : Nat → Int} {N : Int} (h : mayG H N = true) : (spOf L H N).n < 136 := by
  obtain ⟨⟨h1, h2⟩, _⟩ := (mayG_iff H N).1 h
  show N.toNat < 136
  omega
theorem ok_kAdd (L H : Nat → Int) (N : Int) (a : Option Addr) (n cap : Nat) (f : Nat → Int) (hL : lanes 25 L) :
    Owes Tryz.prog cxEnd [(3, .inv (invAdd L H N n f))] 10 Tryz.f68 [sSp L H N, sXs a n cap f] (kAddG L H N n f) := by
  rw [vc_kAdd]
  intro x1 x2
  refine ⟨fun hm => ?_, fun hm => ?_⟩
  · have hm : mayG H N = false := by simpa using hm
    simp only [x1, x2, hm, Bool.false_eq_true, if_false, and_self]
  · have hm : mayG H N = true := by simpa using hm
    obtain ⟨⟨hN1, hN2⟩, _⟩ := (mayG_iff H N).1 hm
    refine ⟨fun y => rfl, (0, a, cap), ⟨hm, Nat.zero_le _⟩, ⟨rfl, rfl, rfl, fun i _ => by simp only [Nat.zero_add]⟩, ⟨fun j hj => (lw_ofRow hL hj).symm, fun _ _ => rfl, ?_, trivial⟩, rfl, rfl, ?_⟩
    · show N = ((N.toNat : Nat) : Int)
      omega
    rintro ⟨p, ad, cp⟩ ⟨_, hp⟩
    simp only at hp ⊢
    have htl : (addB (spOf L H N) f p).n < 136 := addB_lt (may_lt hm) f p
    refine ⟨fun hlt => ?_, fun hge => ?_⟩
    · have hlt : 0 < ((n - p : Nat) : Int) := of_decide_eq_true hlt
      have hadd := addB_add (spOf L H N) f p
      generalize ht : addB (spOf L H N) f p = t at *
      generalize hq : (n - p).min (136 - ((t.n : Nat) : Int).toNat) = q
      have hq1 : q ≤ n - p := by rw [← hq]; exact Nat.min_le_left _ _
      have hq2 : q ≤ 136 - t.n := by rw [← hq]; exact Nat.min_le_right _ _
      have hq3 : q ≠ 0 := by
        rw [← hq]
        have : 0 < (n - p).min (136 - ((t.n : Nat) : Int).toNat) := Nat.lt_min.2 ⟨by omega, by omega⟩
        omega
      refine ⟨⟨by omega, by omega⟩, by omega, fun _ => trivial, ⟨by omega, by omega, by omega⟩, fun hf => ?_, fun hf => ?_⟩
      · have hf : IntKind.i64.wrap ((t.n : Int) + (q : Int)) = 136 := by simpa using hf
        rw [wrap_small (by omega)] at hf
        have hfull := addB_full t (fun i => f (p + i)) htl (m := q) (by omega)
        rw [hadd q] at hfull
        refine ⟨lanes_lw _ _, (p + q, _, _), ⟨hm, by simp only; omega⟩, ⟨rfl, by simp only [Int.toNat_natCast]; omega, rfl, fun i _ => by simp only [Int.toNat_natCast, Nat.add_assoc]⟩, ⟨fun j _ => ?_, fun j _ => ?_, ?_, trivial⟩, trivial, trivial, by simp only; omega⟩
        · simp only [hfull, ofRow_lw, Int.toNat_natCast]
        · simp only [hfull]
        · simp only [hfull]; rfl
      · have hf : IntKind.i64.wrap ((t.n : Int) + (q : Int)) ≠ 136 := by simpa using hf
        rw [wrap_small (by omega)] at hf
        have hheld := addB_held t (fun i => f (p + i)) q (by omega)
        rw [hadd q] at hheld
        refine ⟨(p + q, _, _), ⟨hm, by simp only; omega⟩, ⟨rfl, by simp only [Int.toNat_natCast]; omega, rfl, fun i _ => by simp only [Int.toNat_natCast, Nat.add_assoc]⟩, ⟨fun j _ => ?_, fun j _ => ?_, ?_, trivial⟩, trivial, trivial, by simp only; omega⟩
        · simp only [hheld]
        · simp only [hheld, Int.toNat_natCast]
        · simp only [hheld]; rw [wrap_small (by omega)]; omega
    · have hge : ¬ 0 < ((n - p : Nat) : Int) := of_decide_eq_false hge
      have : p = n := by omega
      subst this
      simp only [x1, x2, hm, if_true, and_self, implies_true]
theorem bnd_row (k : IntKind) (m : Nat) (g : Nat → Int) (n : Env) : (sRow k m g).bnd n := by
  intro x hx; simp only [List.mem_singleton] at hx; subst hx; trivial
theorem card_kAdd : FnOKg Tryz.prog glK 68 (specSpB (fun L _ _ _ _ => [lanes 25 L]) kAddG) :=
  FnOK_SpB (cx := cxEnd) (iv := fun L H N _ n _ f => [(3, .inv (invAdd L H N n f))]) (by
    intro p hp
    simp only [cxEnd, List.mem_cons, List.not_mem_nil, or_false] at hp
    rcases hp with rfl | rfl | rfl
    · exact card_kMay
    · exact card_soak
    · exact card_first) Tryz.func68 (by kernel_rfl) (by kernel_rfl) (fun _ _ _ _ _ => by
    intro x hx
    simp only [List.mem_cons, List.not_mem_nil, or_false] at hx
    rcases hx with rfl | rfl
    · exact bnd_sSp _ _ _ _
    · trivial) fun L H N a n cap f hc => ok_kAdd L H N a n cap f hc.1
theorem absB_congr {a : Nat → BitVec 64} {H H' : Nat → Int} : ∀ {m : Nat}, (∀ j, j < m → H j = H' j) → absB a H m = absB a H' m
  | 0, _ => rfl
  | m + 1, h => by
    have ih := absB_congr (a := a) (m := m) (fun j hj => h j (by omega))
    simp only [absB, ih, h m (by omega)]
theorem soakB_congr {a : Nat → BitVec 64} {H H' : Nat → Int} (h : ∀ j, j < 136 → H j = H' j) : soakB a H = soakB a H' := by
  unfold soakB; rw [absB_congr h]
set_option maxRecDepth 100000 in
theorem ok_End (L H : Nat → Int) (N : Int) (hL : lanes 25 L) : Owes Tryz.prog cxEnd [] 10 Tryz.f70 [sSp L H N] (endG L H N) := by
  rw [vc_End]
  generalize hW : endB (spOf L H N) = W
  intro x1 x2
  constructor <;> intro hm
  · have hm : mayG H N = false := by simpa using hm
    simp only [x1, hm, Bool.false_eq_true, if_false, and_self]
  · have hm : mayG H N = true := by simpa using hm
    obtain ⟨⟨hN1, hN2⟩, _⟩ := (mayG_iff H N).1 hm
    refine ⟨⟨hN1, hN2⟩, ⟨hN1, hN2⟩, ⟨hN1, hN2⟩, ⟨hN1, hN2⟩, hL, ⟨fun j _ => ?_, trivial⟩, by simp only [x1, hm, if_true]⟩
    refine Eq.trans ?_ (if_pos hm).symm
    rw [← hW]
    refine congrArg (fun F => firstG F j) (funext fun i => congrArg (fun F => lw (F i)) (soakB_congr (a := ofRow L) (H' := padB H N.toNat) fun j hj => ?_))
    simp only [intsL]
    by_cases e : j = 135
    · subst e
      rw [List.getD_eq_getElem?_getD, List.getElem?_append_right (by simp)]
      simp only [List.length_map, List.length_range, Nat.sub_self, List.getElem?_cons_zero, Option.getD_some]
      simp only [intsC, asI, padB, if_true, pad1, x2]
      by_cases e2 : 135 = N.toNat
      · rw [if_pos e2, if_pos e2, e2]
      · rw [if_neg e2, if_neg e2]
    · rw [List.getD_eq_getElem?_getD, List.getElem?_append_left (by simp; omega), List.getElem?_map, List.getElem?_range (by omega)]
      simp only [Option.map_some, Option.getD_some, padB, e, if_false, pad1, x2]
      by_cases e2 : j = N.toNat
      · rw [if_pos e2, if_pos e2, e2]
      · rw [if_neg e2, if_neg e2]
theorem card_End : FnOKg Tryz.prog glK 70 (specSp (fun L _ _ => [lanes 25 L]) endG) :=
  FnOK_Sp (cx := cxEnd) (iv := fun _ _ _ => []) (by
    intro p hp
    simp only [cxEnd, List.mem_cons, List.not_mem_nil, or_false] at hp
    rcases hp with rfl | rfl | rfl
    · exact card_kMay
    · exact card_soak
    · exact card_first) Tryz.func70 (by kernel_rfl) (by kernel_rfl) (fun _ _ _ => by
    intro x hx
    simp only [List.mem_cons, List.not_mem_nil, or_false] at hx
    rcases hx with rfl | rfl
    · exact bnd_row _ _ _ _
    · trivial) fun L H N hc => ok_End L H N hc.1
theorem spOf_lw (t : Sp) : spOf (fun i => lw (t.a i)) t.H (t.n : Int) = t := by
  unfold spOf
  rw [ofRow_lw]
  rfl
theorem mayG_sp {t : Sp} (h1 : t.n < 136) (h2 : ∀ j, t.n ≤ j → j < 136 → t.H j = 0) : mayG t.H (t.n : Int) = true := by
  rw [mayG_iff]
  exact ⟨⟨by omega, by omega⟩, fun j hj => h2 _ (by omega) hj⟩
def clean (t : Sp) : Prop := t.n < 136 ∧ ∀ j, t.n ≤ j → j < 136 → t.H j = 0
theorem pushB_clean {t : Sp} (h : clean t) (b : Int) : clean (pushB t b) := by
  unfold pushB
  split
  · exact ⟨Nat.zero_lt_succ _, fun j _ _ => rfl⟩
  · refine ⟨by have := h.1; simp only; omega, fun j hj hj2 => ?_⟩
    simp only at hj ⊢
    rw [if_neg (by omega)]
    exact h.2 j (by omega) hj2
theorem addB_clean {t : Sp} (h : clean t) (f : Nat → Int) : ∀ m, clean (addB t f m)
  | 0 => h
  | m + 1 => pushB_clean (addB_clean h f m) _
theorem may_clean {t : Sp} (h : clean t) : mayG t.H (t.n : Int) = true := mayG_sp h.1 h.2
/-- A sponge that may be, and bytes. -/
def addM (L H : Nat → Int) (N : Int) (n : Nat) (f : Nat → Int) : SV := .tup [sSp (fun i => lw ((addB (spOf L H N) f n).a i)) (addB (spOf L H N) f n).H ((addB (spOf L H N) f n).n : Int), .sc (.num .i64 0)]
def endM (L H : Nat → Int) (N : Int) : SV := .tup [sRow .u8 32 (endB (spOf L H N)), .sc (.num .i64 0)]
def cAddM : FSpec := specSpB (fun L H N _ _ => [lanes 25 L, mayG H N = true]) addM
def cEndM : FSpec := specSp (fun L H N => [lanes 25 L, mayG H N = true]) endM
theorem card_AddM : FnOKg Tryz.prog glK 68 cAddM := by
  refine FnOKg_weak card_kAdd fun args ps sv' hs hp => ?_
  unfold cAddM specSpB at hs
  split at hs
  · rename_i x y
    split at hs
    · rename_i L H N ps' a n cap f hx hy
      simp only [Option.some.injEq, Prod.mk.injEq] at hs
      obtain ⟨rfl, rfl⟩ := hs
      obtain ⟨o1, o2, o3, _⟩ := Ok.append.1 hp
      refine ⟨?_, ps' ++ [lanes 25 L], kAddG L H N n f, by simp only [specSpB, hx, hy], Ok.append.2 ⟨o1, o2, trivial⟩, fun ρ v hv => ?_⟩
      · intro z hz
        simp only [List.mem_cons, List.not_mem_nil, or_false] at hz
        rcases hz with rfl | rfl
        · exact bnd_sSp _ _ _ _
        · trivial
      · have e : kAddG L H N n f = .tup [sSp (fun i => lw ((addB (spOf L H N) f n).a i)) (addB (spOf L H N) f n).H ((addB (spOf L H N) f n).n : Int), sI .i64 0] := by simp only [kAddG, o3, if_true]
        rw [e] at hv
        exact hv
    · cases hs
  · cases hs
theorem card_EndM : FnOKg Tryz.prog glK 70 cEndM := by
  refine FnOKg_weak card_End fun args ps sv' hs hp => ?_
  unfold cEndM specSp at hs
  split at hs
  · rename_i x
    split at hs
    · rename_i L H N hx
      simp only [Option.some.injEq, Prod.mk.injEq] at hs
      obtain ⟨rfl, rfl⟩ := hs
      obtain ⟨o2, o3, _⟩ := hp
      refine ⟨?_, [lanes 25 L], endG L H N, by simp only [specSp, hx], ⟨o2, trivial⟩, fun ρ v hv => ?_⟩
      · intro z hz
        simp only [List.mem_cons, List.not_mem_nil, or_false] at hz
        rcases hz with rfl | rfl
        · exact bnd_row _ _ _ _
        · trivial
      · have e : endG L H N = .tup [sRow .u8 32 (endB (spOf L H N)), sI .i64 0] := by simp only [endG, o3, if_true]
        rw [e] at hv
        exact hv
    · cases hs
  · cases hs
end Go.Proofs.YtbfcccoeekonlaaGreatDoor
end

section
/-
  The rounds of Keccak on lists: so that the kernel can reckon them.
-/
namespace Go.Sx
open Go.RowKit

def sp0 : Sp := ⟨fun _ => 0, fun _ => 0, 0⟩
def sumB (n : Nat) (f : Nat → Int) (j : Nat) : Int := endB (addB sp0 f n) j
end Go.Sx
end

section
/-
  Duties of package keccak's laws.
-/
namespace Go.Proofs.YtbfcccoeekonlaaGreatDoor
open Go Go.Sx Go.RowKit
def cxKSum : Cx := ⟨[(68, cAddM), (70, cEndM)], glK, 0⟩
def kSumG (n : Nat) (f : Nat → Int) : SV := .one (sRow .u8 32 (sumB n f))
-- VC vc_Sum HASH 5ecf70b83b16fb51
theorem vc_Sum (a : Option Addr) (n cap : Nat) (f : Nat → Int) :
    Owes Tryz.prog cxKSum [] 10 Tryz.f44 [sXs a n cap f] (kSumG n f) =
    (let x1 : Int := (↑(Go.Sx.addB (spOf (fun (_ : Nat) => (0 : Int)) (fun (_ : Nat) => (0 : Int)) (0 : Int)) (fun (j : Nat) => f j) n).n : Int); (∀ (_ : Nat), True) ∧ (∀ (i : Nat), i < (25 : Nat) → (0 : Int) ≤ (0 : Int) ∧ (0 : Int) < (18446744073709551616 : Int)) ∧ mayG (fun (_ : Nat) => (0 : Int)) (0 : Int) = Bool.true ∧ (∀ (i : Nat), i < (25 : Nat) → (0 : Int) ≤ Go.Sx.lw ((Go.Sx.addB (spOf (fun (_ : Nat) => (0 : Int)) (fun (_ : Nat) => (0 : Int)) (0 : Int)) (fun (j : Nat) => f j) n).a i) ∧ Go.Sx.lw ((Go.Sx.addB (spOf (fun (_ : Nat) => (0 : Int)) (fun (_ : Nat) => (0 : Int)) (0 : Int)) (fun (j : Nat) => f j) n).a i) < (18446744073709551616 : Int)) ∧ mayG (Go.Sx.addB (spOf (fun (_ : Nat) => (0 : Int)) (fun (_ : Nat) => (0 : Int)) (0 : Int)) (fun (j : Nat) => f j) n).2 x1 = Bool.true ∧ (∀ (j : Nat), j < (32 : Nat) → Go.Sx.endB (spOf (fun (i : Nat) => Go.Sx.lw ((Go.Sx.addB (spOf (fun (_ : Nat) => (0 : Int)) (fun (_ : Nat) => (0 : Int)) (0 : Int)) (fun (j : Nat) => f j) n).a i)) (Go.Sx.addB (spOf (fun (_ : Nat) => (0 : Int)) (fun (_ : Nat) => (0 : Int)) (0 : Int)) (fun (j : Nat) => f j) n).2 x1) j = Go.Sx.sumB n f j) ∧ True) := by kernel_rfl
-- END VC
end Go.Proofs.YtbfcccoeekonlaaGreatDoor
end

section
/-
  The laws of package keccak: what the whole world knows; bytes cut in any way.
-/
namespace Go.Proofs.YtbfcccoeekonlaaGreatDoor
open Go Go.Sx Go.RowKit

theorem sp0_eq : spOf (fun _ => 0) (fun _ => 0) 0 = sp0 := by
  unfold spOf sp0
  congr 1
theorem sp0_clean : clean sp0 := ⟨(by decide : (0 : Nat) < 136), fun j _ _ => (rfl : sp0.H j = 0)⟩
theorem may_zero : mayG (fun _ => 0) 0 = true := by
  rw [mayG_iff]
  exact ⟨⟨by omega, by omega⟩, fun _ _ => rfl⟩
theorem ok_Sum (a : Option Addr) (n cap : Nat) (f : Nat → Int) : Owes Tryz.prog cxKSum [] 10 Tryz.f44 [sXs a n cap f] (kSumG n f) := by
  rw [vc_Sum]
  intro x1
  have e0 : spOf (fun _ => 0) (fun _ => 0) 0 = sp0 := sp0_eq
  simp only [x1, e0, spOf_lw]
  exact ⟨fun _ => trivial, fun _ _ => ⟨by omega, by omega⟩, may_zero, lanes_lw _ _, may_clean (addB_clean sp0_clean _ _), fun _ _ => rfl, trivial⟩
theorem card_Sum : FnOKg Tryz.prog glK 44 (specBs (fun _ _ => []) kSumG) :=
  FnOK_Bs (cx := cxKSum) (iv := fun _ _ _ _ => []) (N := 10) (by
    intro p hp
    simp only [cxKSum, List.mem_cons, List.not_mem_nil, or_false] at hp
    rcases hp with rfl | rfl
    · exact card_AddM
    · exact card_EndM) Tryz.func44 (by kernel_rfl) (by kernel_rfl) (fun _ _ => bnd_row _ _ _ _) fun a n cap f _ => ok_Sum a n cap f
end Go.Proofs.YtbfcccoeekonlaaGreatDoor
end
