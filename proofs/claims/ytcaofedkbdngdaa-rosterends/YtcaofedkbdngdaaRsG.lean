/- Rosters: Group, Others, Ints, walked. -/
import Derived.Test.YtcaofedkbdngdaaRsF
namespace Go.Proofs.Ytcaofedkbdngdaa
open Go.RowKit
attribute [local go_sem ↓] Go.wp_at_zero Go.wp_at_succ

/-- v is a slice of just these numbers. -/
def Il (w : World) (v : Value) (ns : List Int) : Prop :=
  (ns = [] ∧ ∃ a c, v = .slice a 0 c) ∨ ∃ b o cap, v = .slice (some ⟨b, o, none⟩) ns.length cap ∧ b < w.heap.size ∧ ∀ (i : Nat) n, ns[i]? = some n → w.cell? ⟨b, o + i, none⟩ = some (.int .i64 n)
theorem Il.below {w w' : World} {v : Value} {ns : List Int} (h : Il w v ns) {B : Nat} (hb : Below B w w') (hB : w.heap.size ≤ B) : Il w' v ns := by
  rcases h with h | ⟨b, o, cap, rfl, hlt, h⟩
  · exact .inl h
  · exact .inr ⟨b, o, cap, rfl, Nat.lt_of_lt_of_le hlt hb.size, fun i n hn => (hb.cell (p := ⟨b, o + i, none⟩) (by show b < B; omega)).trans (h i n hn)⟩
theorem Il.slice {w : World} {v : Value} {ns : List Int} (h : Il w v ns) : ∃ a c, v = .slice a ns.length c := by
  rcases h with ⟨rfl, a, c, rfl⟩ | ⟨b, o, cap, rfl, _⟩
  · exact ⟨a, c, rfl⟩
  · exact ⟨_, _, rfl⟩
theorem Il.at {w : World} {a : Option Addr} {c : Nat} {l : List Int} (h : Il w (.slice a l.length c) l) {k : Nat} {t : Int} (hk : l[k]? = some t) : ∃ b o, a = some ⟨b, o, none⟩ ∧ b < w.heap.size ∧ w.cell? ⟨b, o + k, none⟩ = some (.int .i64 t) := by
  rcases h with ⟨rfl, _⟩ | ⟨b, o, cap, hv, hlt, h⟩
  · cases hk
  · injection hv with h1 _ _
    exact ⟨b, o, h1, hlt, h k t hk⟩
theorem Il_owns {w : World} {base : Nat} {v : Value} {l : List Int} (h : w.ownsRow base 3 1 v l.length (zcs l)) : Il w v l := by
  rcases Nat.eq_zero_or_pos l.length with h0 | h0
  · have hl := List.length_eq_zero_iff.1 h0
    obtain ⟨a, cap, rfl⟩ := owns_slice h
    subst hl
    exact .inl ⟨rfl, a, cap, rfl⟩
  · obtain ⟨g, cap, rfl, hb, hlt⟩ := h.form h0
    refine .inr ⟨g, 0, cap, rfl, hlt, fun i n hn => ?_⟩
    have hi : i < l.length := (List.getElem?_eq_some_iff.1 hn).1
    rw [Nat.zero_add]
    exact (h.cellAt i (by omega)).trans (zcs_at l i n hn)
set_option maxHeartbeats 1000000 in
theorem Ints_any (ns : List Int) (u v : Value) (w : World) (hu : Il w u ns) (hv : Il w v ns) (hl : ns.length ≤ 1000) :
    Calls Try.prog 23 #[u, v] w fun e W' => e = .returned (.bool true) ∧ Below w.heap.size w W' := by
  obtain ⟨a, c, rfl⟩ := hu.slice
  obtain ⟨a2, c2, rfl⟩ := hv.slice
  go_enter Try.func23, Try.ntmps23
  go_wp2_with fail
  go_loopg [8] ns.length (fun gk i wr => ∃ k : Nat, k + gk = ns.length ∧ i = .int .i64 k ∧ Below w.heap.size w wr)
  case atStart => exact ⟨0, by omega, rfl, Below.refl _ _⟩
  case round =>
    obtain ⟨k, hk, rfl, hb⟩ := hrel
    by_cases hlt : k < ns.length
    · obtain ⟨n, hn⟩ : ∃ n, ns[k]? = some n := ⟨_, List.getElem?_eq_getElem hlt⟩
      obtain ⟨b1, o1, rfl, hb1, x1⟩ := (hu.below hb (Nat.le_refl _)).at hn
      obtain ⟨b2, o2, rfl, hb2, x2⟩ := (hv.below hb (Nat.le_refl _)).at hn
      have k0 : (0 : Int) ≤ (k : Int) := by omega
      have k1 : (k : Int) < (ns.length : Int) := by omega
      have hq : decide (ns.length ≤ k) = false := by simp; omega
      clear hn
      go_wp2_with fail
      go_region_held3 (fun w' => w'.cell? ⟨b1, o1 + k, none⟩ = some (.int .i64 n) ∧ w'.cell? ⟨b2, o2 + k, none⟩ = some (.int .i64 n)) (go_keep) (fail)
      go_wp2
      go_roundg (ns.length - (k + 1))
      case measure => omega
      case rel => exact ⟨k + 1, by omega, by go_num, below_drew hb⟩
    · have hkl : k = ns.length := by omega
      subst hkl
      go_wp2
      go_ret
      exact ⟨rfl, hb⟩

/-- How many replicas a group has. -/
def nN (f g c : Int) : Nat := if Rt f g c = true then (3 * f + 1).toNat else 0
theorem nN_le (f g c : Int) : nN f g c ≤ 10 := by
  unfold nN
  split
  · next h => have := Rt_b h; omega
  · omega
theorem nN_right {f g c : Int} (h : Rt f g c = true) : (nN f g c : Int) = 3 * f + 1 := by
  unfold nN; rw [if_pos h]; have := Rt_b h; omega
theorem N_any (f g c : Int) (w : World) : Calls Try.prog 12 #[.agg #[.int .i64 f, .int .i64 g, .int .i64 c]] w fun e W' => e = .returned (.int .i64 (nN f g c)) ∧ Below w.heap.size w W' := by
  cases h : Rt f g c
  · rw [show nN f g c = 0 by simp [nN, h]]; exact N_wrong h w
  · rw [nN_right h]; exact N_right h w
/-- A group's ends. -/
def grpL (f g c gr : Int) : List Int := if gr = -1 then [] else butL f g c (-1) gr (nN f g c)
/-- The ends of a replica's fellows. -/
def othL (f g c pg pn : Int) : List Int := if endE f g c pg pn = 0 ∧ pg ≠ -1 then butL f g c pn pg (nN f g c) else []
theorem but_keep (f g c no gr : Int) {W0 : World} : ∀ W, Below W0.heap.size W0 W →
    Calls Try.prog 28 #[.int .i64 no, .int .i64 gr, .int .i64 (nN f g c), .func (.func 18) #[.agg #[.int .i64 f, .int .i64 g, .int .i64 c]] #[]] W fun e W' => (∃ u, e = .returned u ∧ W'.ownsRow W0.heap.size 3 1 u (butL f g c no gr (nN f g c)).length (zcs (butL f g c no gr (nN f g c)))) ∧ Below W0.heap.size W0 W' := by
  intro W hW
  refine (but_any f g c no gr (nN f g c) (nN_le f g c) W).mono ?_
  rintro e W' ⟨u, rfl, ho, hb⟩
  refine ⟨⟨u, rfl, ?_⟩, hW.trans (hb.mono hW.size)⟩
  obtain ⟨hl, h | ⟨g, cap, cur, rfl, h2, h3⟩⟩ := ho
  · exact ⟨hl, .inl h⟩
  · exact ⟨hl, .inr ⟨g, cap, cur, rfl, Nat.le_trans hW.size h2, h3⟩⟩
theorem owns_base {w : World} {base base' n : Nat} {e : TypeId} {s : Nat} {v : Value} {xs : List Value} (h : w.ownsRow base e s v n xs) (hb : base' ≤ base) : w.ownsRow base' e s v n xs := by
  obtain ⟨hl, h | ⟨g, cap, cur, rfl, h2, h3⟩⟩ := h
  · exact ⟨hl, .inl h⟩
  · exact ⟨hl, .inr ⟨g, cap, cur, rfl, Nat.le_trans hb h2, h3⟩⟩
set_option maxRecDepth 20000 in
set_option maxHeartbeats 4000000 in
theorem Group_any (f g c gr : Int) (w : World) : Calls Try.prog 25 #[.agg #[.int .i64 f, .int .i64 g, .int .i64 c], .int .i64 gr] w fun e W' => (∃ u, e = .returned u ∧ W'.ownsRow w.heap.size 3 1 u (grpL f g c gr).length (zcs (grpL f g c gr))) ∧ Below w.heap.size w W' := by
  have hb0 : Below w.heap.size w (w.alloc (.cells #[.int .i64 f, .int .i64 g, .int .i64 c] 23)) := (Below.refl _ w).alloc (Nat.le_refl _) _
  by_cases hg : gr = -1
  · rw [show grpL f g c gr = [] by simp [grpL, hg]]
    subst hg
    go_enter Try.func25, Try.ntmps25
    go_wp2
    go_ret
    exact ⟨⟨_, rfl, World.ownsRow_nil _ _ _ _⟩, hb0⟩
  · rw [show grpL f g c gr = butL f g c (-1) gr (nN f g c) by simp [grpL, hg]]
    have hN := keepC (N_any f g c) (hold3 (heap_alloc_new w (.cells #[.int .i64 f, .int .i64 g, .int .i64 c] 23)))
    have hM := but_keep f g c (-1) gr (W0 := w.alloc (.cells #[.int .i64 f, .int .i64 g, .int .i64 c] 23))
    have hS := Below.refl (w.alloc (.cells #[.int .i64 f, .int .i64 g, .int .i64 c] 23)).heap.size (w.alloc (.cells #[.int .i64 f, .int .i64 g, .int .i64 c] 23))
    have hq : (gr == -1) = false := by simp [hg]
    obtain ⟨L, hL⟩ : ∃ L, butL f g c (-1) gr (nN f g c) = L := ⟨_, rfl⟩
    rw [hL] at hM ⊢
    clear hg hL
    go_enter Try.func25, Try.ntmps25
    go_upto_region 3 with fail
    go_region_held3 (fun w' => w'.cell? ⟨w.heap.size, 0, none⟩ = some (.int .i64 f) ∧ w'.cell? ⟨w.heap.size, 1, none⟩ = some (.int .i64 g) ∧ w'.cell? ⟨w.heap.size, 2, none⟩ = some (.int .i64 c)) (go_keep)
      (first
        | (go_at_call 12; refine (hN _ (by first | assumption | exact below_drew (by assumption))).mono ?_; rintro e w3 ⟨rfl, hb3, y0, y1, y2⟩)
        | (go_at_call 28; refine (hM _ (by first | assumption | exact below_drew (by assumption))).mono ?_; rintro e w4 ⟨⟨u, rfl, ho⟩, hb4⟩; have z0 := (hb4.cell (p := ⟨w.heap.size, 0, none⟩) (by show w.heap.size < _; simp)).trans (cellB (heap_alloc_new w (.cells #[.int .i64 f, .int .i64 g, .int .i64 c] 23)) 0 _ rfl); have z1 := (hb4.cell (p := ⟨w.heap.size, 1, none⟩) (by show w.heap.size < _; simp)).trans (cellB (heap_alloc_new w (.cells #[.int .i64 f, .int .i64 g, .int .i64 c] 23)) 1 _ rfl); have z2 := (hb4.cell (p := ⟨w.heap.size, 2, none⟩) (by show w.heap.size < _; simp)).trans (cellB (heap_alloc_new w (.cells #[.int .i64 f, .int .i64 g, .int .i64 c] 23)) 2 _ rfl)))
    all_goals
      go_wp2
      go_ret
      exact ⟨⟨u, rfl, owns_base ho hb0.size⟩, hb0.trans (hb4.mono hb0.size)⟩
end Go.Proofs.Ytcaofedkbdngdaa
