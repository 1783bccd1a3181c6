import Derived.Test.YtihilkdokfdoeaaDoorProg
import Derived.WalkKit
import Derived.WalkSpells
import Derived.WalkLawsBesides
import Derived.BigRegion
import Derived.BigQuiet
import Derived.Deep.RegionHeld3
import Derived.Deep.DrawnRows
import Derived.Deep.DeepCutAuto
namespace Go.Proofs.YtihilkdokfdoeaaDoor
open Go.RowKit
attribute [local go_sem ↓] Go.wp_at_zero Go.wp_at_succ

def rot16 (x : Int) : Int := bits .or .u32 (x * 65536 % 4294967296) (x / 65536)
def rot12 (x : Int) : Int := bits .or .u32 (x * 1048576 % 4294967296) (x / 4096)
def rot8 (x : Int) : Int := bits .or .u32 (x * 16777216 % 4294967296) (x / 256)
def rot7 (x : Int) : Int := bits .or .u32 (x * 33554432 % 4294967296) (x / 128)

set_option maxHeartbeats 400000 in
theorem tr16 (x : Int) (w : World) :
    Calls Tryd.prog 98 #[.int .u32 x, .int .i64 16] w fun e w' => e = .returned (.int .u32 (rot16 x)) ∧ w' = w := by
  have e1 : bits BinOp.and IntKind.u64 (IntKind.u64.wrap (-16)) 31 = 16 := by decide
  go_enter Tryd.func98, Tryd.ntmps98
  go_wp2
  go_ret
  exact ⟨rfl, rfl⟩
set_option maxHeartbeats 400000 in
theorem tr12 (x : Int) (w : World) :
    Calls Tryd.prog 98 #[.int .u32 x, .int .i64 12] w fun e w' => e = .returned (.int .u32 (rot12 x)) ∧ w' = w := by
  have e1 : bits BinOp.and IntKind.u64 (IntKind.u64.wrap (-12)) 31 = 20 := by decide
  go_enter Tryd.func98, Tryd.ntmps98
  go_wp2
  go_ret
  exact ⟨rfl, rfl⟩
set_option maxHeartbeats 400000 in
theorem tr8 (x : Int) (w : World) :
    Calls Tryd.prog 98 #[.int .u32 x, .int .i64 8] w fun e w' => e = .returned (.int .u32 (rot8 x)) ∧ w' = w := by
  have e1 : bits BinOp.and IntKind.u64 (IntKind.u64.wrap (-8)) 31 = 24 := by decide
  go_enter Tryd.func98, Tryd.ntmps98
  go_wp2
  go_ret
  exact ⟨rfl, rfl⟩
set_option maxHeartbeats 400000 in
theorem tr7 (x : Int) (w : World) :
    Calls Tryd.prog 98 #[.int .u32 x, .int .i64 7] w fun e w' => e = .returned (.int .u32 (rot7 x)) ∧ w' = w := by
  have e1 : bits BinOp.and IntKind.u64 (IntKind.u64.wrap (-7)) 31 = 25 := by decide
  go_enter Tryd.func98, Tryd.ntmps98
  go_wp2
  go_ret
  exact ⟨rfl, rfl⟩

/-- Nothing but block B has turned. -/
structure Only (B : Nat) (w w' : World) : Prop where
  os : w'.os = w.os
  tape : w'.tape = w.tape
  output : w'.output = w.output
  size : w'.heap.size = w.heap.size
  block : ∀ k, k ≠ B → w'.heap[k]? = w.heap[k]?
theorem Only.refl (B : Nat) (w : World) : Only B w w := ⟨rfl, rfl, rfl, rfl, fun _ _ => rfl⟩
theorem Only.trans {B : Nat} {a b c : World} (h : Only B a b) (k : Only B b c) : Only B a c :=
  ⟨k.os.trans h.os, k.tape.trans h.tape, k.output.trans h.output, k.size.trans h.size, fun i hi => (k.block i hi).trans (h.block i hi)⟩
theorem Only.drew {B : Nat} {a w : World} (h : Only B a w) : Only B a w.drew := ⟨h.os, h.tape, h.output, h.size, h.block⟩
theorem Only.set {B : Nat} {a w : World} (h : Only B a w) (i : Nat) (u : Value) : Only B a (w.setCell ⟨B, i, none⟩ u) :=
  h.trans ⟨rfl, rfl, rfl, by simp [World.setCell], fun k hk => Below.heap_setCell _ _ _ _ hk⟩
theorem Only.below {B n : Nat} {w w' : World} (h : Only B w w') (hn : n ≤ B) : Below n w w' :=
  ⟨h.os, h.tape, h.output, Nat.le_of_eq h.size.symm, fun k hk => h.block k (by omega)⟩
theorem Only.cell {B : Nat} {w w' : World} (h : Only B w w') {p : Addr} (hp : p.block ≠ B) : w'.cell? p = w.cell? p := World.cell?_of_block (w := w) (h.block p.block hp)
theorem Only.frozen {B : Nat} {w w' : World} (h : Only B w w') {p : Addr} (hp : p.block ≠ B) : w'.frozen? p = w.frozen? p := World.frozen?_of_block (w := w) (h.block p.block hp)

def gv (v : List Int) (i : Int) : Int := v.getD i.toNat 0
def pv (v : List Int) (i : Int) (x : Int) : List Int := v.set i.toNat x
theorem gv_pv_same (v : List Int) (i x : Int) (h0 : 0 ≤ i) (h1 : i < v.length) : gv (pv v i x) i = x := by
  unfold gv pv; simp; rw [List.getElem?_eq_getElem (by simp; omega)]; simp
theorem gv_pv_other (v : List Int) (i j x : Int) (h0 : 0 ≤ i) (hj : 0 ≤ j) (h : i ≠ j) : gv (pv v i x) j = gv v j := by
  unfold gv pv; simp [List.getElem?_set]; rw [if_neg (by omega)]

/-- Block B holds n words of kind k. -/
structure Holds (w : World) (B : Nat) (k : IntKind) (n : Nat) (v : List Int) : Prop where
  len : v.length = n
  cell : ∀ i : Int, 0 ≤ i → i < n → w.cell? ⟨B, i.toNat, none⟩ = some (.int k (gv v i))
  free : ∀ i : Int, 0 ≤ i → i < n → w.frozen? ⟨B, i.toNat, none⟩ = false
theorem Holds.drew {w : World} {B : Nat} {k : IntKind} {n : Nat} {v : List Int} (h : Holds w B k n v) : Holds w.drew B k n v := ⟨h.len, h.cell, h.free⟩
theorem Holds.set {w : World} {B : Nat} {k : IntKind} {n : Nat} {v : List Int} (h : Holds w B k n v) (i x : Int) (h0 : 0 ≤ i) (h1 : i < n) : Holds (w.setCell ⟨B, i.toNat, none⟩ (.int k x)) B k n (pv v i x) := by
  refine ⟨by unfold pv; simpa using h.len, fun j j0 j1 => ?_, fun j j0 j1 => ?_⟩
  · by_cases e : i = j
    · subst e
      rw [World.cell?_setCell_same _ _ _ (h.cell i h0 h1), gv_pv_same v i x h0 (by have := h.len; omega)]
    · rw [World.cell?_setCell_other _ _ _ _ (by intro hh; injection hh; omega), h.cell j j0 j1, gv_pv_other v i j x h0 j0 e]
  · rw [World.frozen?_setCell]; exact h.free j j0 j1
theorem Holds.only {w w' : World} {B C : Nat} {k : IntKind} {n : Nat} {v : List Int} (h : Holds w B k n v) (o : Only C w w') (hne : B ≠ C) : Holds w' B k n v :=
  ⟨h.len, fun i i0 i1 => (o.cell (p := ⟨B, i.toNat, none⟩) hne).trans (h.cell i i0 i1), fun i i0 i1 => (o.frozen (p := ⟨B, i.toNat, none⟩) hne).trans (h.free i i0 i1)⟩

def mix1 (v : List Int) (a b x : Int) : List Int := pv v a ((gv v a + (gv v b + x)) % 4294967296)
def mix2 (v : List Int) (d a : Int) (r : Int → Int) : List Int := pv v d (r (bits .xor .u32 (gv v d) (gv v a)))
def mix3 (v : List Int) (c d : Int) : List Int := pv v c ((gv v c + gv v d) % 4294967296)
def mixL (v : List Int) (a b c d x y : Int) : List Int :=
  mix2 (mix3 (mix2 (mix1 (mix2 (mix3 (mix2 (mix1 v a b x) d a rot16) c d) b c rot12) a b y) d a rot8) c d) b c rot7

set_option maxRecDepth 4000 in
set_option maxHeartbeats 1000000 in
theorem mix_any (B : Nat) (v : List Int) (a b c d x y : Int) (w : World) (a0 : 0 ≤ a) (a1 : a < 16) (b0 : 0 ≤ b) (b1 : b < 16) (c0 : 0 ≤ c) (c1 : c < 16) (d0 : 0 ≤ d) (d1 : d < 16)
    (hH : Holds w B .u32 16 v) :
    Calls Tryd.prog 91 #[.pointer (some ⟨B, 0, none⟩), .int .i64 a, .int .i64 b, .int .i64 c, .int .i64 d, .int .u32 x, .int .u32 y] w fun e w' => e = .returned (.tuple #[]) ∧ Holds w' B .u32 16 (mixL v a b c d x y) ∧ Only B w w' := by
  go_enter Tryd.func91, Tryd.ntmps91
  go_wp2
  go_cut [28] from 14 to 28 (fun _ wx => Holds wx B .u32 16 (mix1 v a b x) ∧ Only B w wx)
  case first =>
    have g1 := hH.cell a a0 a1; have f1 := hH.free a a0 a1; have g2 := hH.cell b b0 b1
    go_region
    all_goals (go_wp2_with fail; go_meet)
    all_goals exact ⟨(hH.set a _ a0 a1).drew, ((Only.refl B w).set _ _).drew⟩
  case rest =>
    obtain ⟨h1, o1⟩ := hcut
    clear hH
    go_wp2
    go_cut [44] from 29 to 44 (fun _ wx => Holds wx B .u32 16 (mix2 (mix1 v a b x) d a rot16) ∧ Only B w wx)
    case first =>
      have g1 := h1.cell d d0 d1; have f1 := h1.free d d0 d1; have g2 := h1.cell a a0 a1
      go_region_with (go_at_call 98; refine (tr16 _ _).mono ?_; rintro e w' ⟨rfl, rfl⟩)
      all_goals (go_wp2_with fail; go_meet)
      all_goals exact ⟨(h1.set d _ d0 d1).drew, (o1.set _ _).drew⟩
    case rest =>
      obtain ⟨h2, o2⟩ := hcut
      clear h1
      go_wp2
      go_cut [57] from 45 to 57 (fun _ wx => Holds wx B .u32 16 (mix3 (mix2 (mix1 v a b x) d a rot16) c d) ∧ Only B w wx)
      case first =>
        have g1 := h2.cell c c0 c1; have f1 := h2.free c c0 c1; have g2 := h2.cell d d0 d1
        go_region
        all_goals (go_wp2_with fail; go_meet)
        all_goals exact ⟨(h2.set c _ c0 c1).drew, (o2.set _ _).drew⟩
      case rest =>
        obtain ⟨h3, o3⟩ := hcut
        clear h2
        go_wp2
        go_cut [73] from 58 to 73 (fun _ wx => Holds wx B .u32 16 (mix2 (mix3 (mix2 (mix1 v a b x) d a rot16) c d) b c rot12) ∧ Only B w wx)
        case first =>
          have g1 := h3.cell b b0 b1; have f1 := h3.free b b0 b1; have g2 := h3.cell c c0 c1
          go_region_with (go_at_call 98; refine (tr12 _ _).mono ?_; rintro e w' ⟨rfl, rfl⟩)
          all_goals (go_wp2_with fail; go_meet)
          all_goals exact ⟨(h3.set b _ b0 b1).drew, (o3.set _ _).drew⟩
        case rest =>
          obtain ⟨h4, o4⟩ := hcut
          clear h3
          go_wp2
          go_cut [88] from 74 to 88 (fun _ wx => Holds wx B .u32 16 (mix1 (mix2 (mix3 (mix2 (mix1 v a b x) d a rot16) c d) b c rot12) a b y) ∧ Only B w wx)
          case first =>
            have g1 := h4.cell a a0 a1; have f1 := h4.free a a0 a1; have g2 := h4.cell b b0 b1
            go_region
            all_goals (go_wp2_with fail; go_meet)
            all_goals exact ⟨(h4.set a _ a0 a1).drew, (o4.set _ _).drew⟩
          case rest =>
            obtain ⟨h5, o5⟩ := hcut
            clear h4
            go_wp2
            go_cut [104] from 89 to 104 (fun _ wx => Holds wx B .u32 16 (mix2 (mix1 (mix2 (mix3 (mix2 (mix1 v a b x) d a rot16) c d) b c rot12) a b y) d a rot8) ∧ Only B w wx)
            case first =>
              have g1 := h5.cell d d0 d1; have f1 := h5.free d d0 d1; have g2 := h5.cell a a0 a1
              go_region_with (go_at_call 98; refine (tr8 _ _).mono ?_; rintro e w' ⟨rfl, rfl⟩)
              all_goals (go_wp2_with fail; go_meet)
              all_goals exact ⟨(h5.set d _ d0 d1).drew, (o5.set _ _).drew⟩
            case rest =>
              obtain ⟨h6, o6⟩ := hcut
              clear h5
              go_wp2
              go_cut [117] from 105 to 117 (fun _ wx => Holds wx B .u32 16 (mix3 (mix2 (mix1 (mix2 (mix3 (mix2 (mix1 v a b x) d a rot16) c d) b c rot12) a b y) d a rot8) c d) ∧ Only B w wx)
              case first =>
                have g1 := h6.cell c c0 c1; have f1 := h6.free c c0 c1; have g2 := h6.cell d d0 d1
                go_region
                all_goals (go_wp2_with fail; go_meet)
                all_goals exact ⟨(h6.set c _ c0 c1).drew, (o6.set _ _).drew⟩
              case rest =>
                obtain ⟨h7, o7⟩ := hcut
                clear h6
                go_wp2
                have g1 := h7.cell b b0 b1; have f1 := h7.free b b0 b1; have g2 := h7.cell c c0 c1
                go_region_with (go_at_call 98; refine (tr7 _ _).mono ?_; rintro e w' ⟨rfl, rfl⟩)
                all_goals (go_end0; exact ⟨rfl, (h7.set b _ b0 b1).drew, (o7.set _ _).drew⟩)
end Go.Proofs.YtihilkdokfdoeaaDoor
