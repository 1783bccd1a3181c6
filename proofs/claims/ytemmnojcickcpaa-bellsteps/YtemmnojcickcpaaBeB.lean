/- The heap's methods of the bell's queue, walked: Len, Less, Swap. -/
import Derived.Test.YtemmnojcickcpaaBeA
import Derived.Test.YtemmnojcickcpaaBeH
namespace Go.Proofs.Ytemmnojcickcpaa
open Go.RowKit
attribute [local go_sem ↓] Go.wp_at_zero Go.wp_at_succ

theorem qLen_any (a : Option Addr) (n c : Nat) (w : World) : Calls Try.prog 71 #[.slice a n c] w fun e W' => e = .returned (.int .i64 n) ∧ W' = w := by
  go_enter Try.func71, Try.ntmps71
  go_wp2
  go_ret
  exact ⟨rfl, rfl⟩
set_option maxRecDepth 20000 in
set_option maxHeartbeats 2000000 in
theorem qLess_any {base : Nat} {w : World} {B : Nat} {a : Option Addr} {cap : Nat} {l : List Tm} {now : Int} (h : BellAt base w B (.slice a l.length cap) l now) (i j : Nat) (x y : Tm) (hi : l[i]? = some x) (hj : l[j]? = some y) :
    Calls Try.prog 72 #[.slice a l.length cap, .int .i64 i, .int .i64 j] w fun e W' => e = .returned (.bool (lessB x y)) ∧ Below w.heap.size w W' := by
  have hil : i < l.length := (List.getElem?_eq_some_iff.1 hi).1
  have hjl : j < l.length := (List.getElem?_eq_some_iff.1 hj).1
  obtain ⟨g, cap', hv, hg1, hg2, hg3, hcap, hcs⟩ := h.at (by omega)
  injection hv with e1 _ e2
  subst e1 e2
  obtain ⟨x0, x1, x2⟩ := x
  obtain ⟨y0, y1, y2⟩ := y
  obtain ⟨p0, p1, p2⟩ := hcs i _ hi
  obtain ⟨q0, q1, q2⟩ := hcs j _ hj
  simp only at p0 p1 p2 q0 q1 q2
  have i0 : (0 : Int) ≤ (i : Int) := by omega
  have i1 : (i : Int) < (l.length : Int) := by omega
  have j0 : (0 : Int) ≤ (j : Int) := by omega
  have j1 : (j : Int) < (l.length : Int) := by omega
  have hdd : Below w.heap.size w w.drew.drew := below_drew (below_drew (Below.refl _ _))
  clear hcs hi hj h
  by_cases hd : x1 = y1
  · have hq : (x1 == y1) = true := by simp [hd]
    obtain ⟨R, hR⟩ : ∃ R, lessB (x0, x1, x2) (y0, y1, y2) = R := ⟨_, rfl⟩
    rw [hR]
    have HR : Hid (R = decide (x0 < y0)) := by show R = _; rw [← hR]; simp [lessB, hd]
    clear hd hR
    go_enter Try.func72, Try.ntmps72
    go_wp2_with fail
    go_region_held3 (fun w' => w'.cell? ⟨g, i * 3 + 1, none⟩ = some (.int .i64 x1) ∧ w'.cell? ⟨g, j * 3 + 1, none⟩ = some (.int .i64 y1)) (go_keep) (fail)
    go_wp2_with fail
    go_region_held3 (fun w' => w'.cell? ⟨g, i * 3, none⟩ = some (.int .i64 x0) ∧ w'.cell? ⟨g, j * 3, none⟩ = some (.int .i64 y0)) (go_keep) (fail)
    go_wp2
    go_ret
    exact ⟨by rw [HR.out]; rfl, hdd⟩
  · have hq : (x1 == y1) = false := by simp [hd]
    obtain ⟨R, hR⟩ : ∃ R, lessB (x0, x1, x2) (y0, y1, y2) = R := ⟨_, rfl⟩
    rw [hR]
    have HR : Hid (R = decide (x1 < y1)) := by show R = _; rw [← hR]; simp [lessB, hd]
    clear hd hR
    go_enter Try.func72, Try.ntmps72
    go_wp2_with fail
    go_region_held3 (fun w' => w'.cell? ⟨g, i * 3 + 1, none⟩ = some (.int .i64 x1) ∧ w'.cell? ⟨g, j * 3 + 1, none⟩ = some (.int .i64 y1)) (go_keep) (fail)
    go_wp2_with fail
    go_region_held3 (fun w' => w'.cell? ⟨g, i * 3 + 1, none⟩ = some (.int .i64 x1) ∧ w'.cell? ⟨g, j * 3 + 1, none⟩ = some (.int .i64 y1)) (go_keep) (fail)
    go_wp2
    go_ret
    exact ⟨by rw [HR.out]; rfl, hdd⟩
/-- A timer laid at a place. -/
def put3 (w : World) (g i : Nat) (t : Tm) : World := ((w.setCell ⟨g, i * 3, none⟩ (.int .i64 t.1)).setCell ⟨g, i * 3 + 1, none⟩ (.int .i64 t.2.1)).setCell ⟨g, i * 3 + 2, none⟩ (.int .i64 t.2.2)
theorem put3_own {w : World} {base g cap n : Nat} {l : List Tm} (h : w.ownsRow base 92 3 (.slice (some ⟨g, 0, none⟩) n cap) n (tcs l)) (i : Nat) (hi : i < l.length) (y : Tm) :
    (put3 w g i y).ownsRow base 92 3 (.slice (some ⟨g, 0, none⟩) n cap) n (tcs (l.set i y)) := by
  have h1 := (h.stored (i * 3) (.int .i64 y.1)).1
  have h2 := (h1.stored (i * 3 + 1) (.int .i64 y.2.1)).1
  have h3 := (h2.stored (i * 3 + 2) (.int .i64 y.2.2)).1
  rw [tcs_set l i y hi] at h3
  exact h3
theorem put3_far {w : World} {g k : Nat} (h : k ≠ g) (i : Nat) (t : Tm) : (put3 w g i t).heap[k]? = w.heap[k]? := by
  unfold put3
  rw [set_far h, set_far h, set_far h]
theorem put3_size (w : World) (g i : Nat) (t : Tm) : (put3 w g i t).heap.size = w.heap.size := by simp [put3, World.setCell]
theorem put3_os (w : World) (g i : Nat) (t : Tm) : (put3 w g i t).os = w.os ∧ (put3 w g i t).tape = w.tape ∧ (put3 w g i t).output = w.output := by
  unfold put3 World.setCell
  exact ⟨rfl, rfl, rfl⟩
/-- A timer laid at a place of a bell. -/
theorem put3_bell {base : Nat} {w : World} {B g cap : Nat} {l : List Tm} {now : Int} (h : BellAt base w B (.slice (some ⟨g, 0, none⟩) l.length cap) l now) (i : Nat) (hi : i < l.length) (t : Tm) :
    BellAt base (put3 w g i t) B (.slice (some ⟨g, 0, none⟩) l.length cap) (l.set i t) now ∧ Moved B (.slice (some ⟨g, 0, none⟩) l.length cap) (.slice (some ⟨g, 0, none⟩) l.length cap) w (put3 w g i t) := by
  have hg3 : B ≠ g := fun e => h.ne (by rw [e]; rfl)
  obtain ⟨o1, o2, o3⟩ := put3_os w g i t
  refine ⟨⟨(put3_far hg3 i t).trans h.blk, ?_, h.ne, h.base⟩, ⟨o1, o2, o3, by rw [put3_size]; exact Nat.le_refl _, fun q _ _ h2 => put3_far (fun e => h2 (by rw [e]; rfl)) i t, fun q hq => .inl hq⟩⟩
  rw [List.length_set]
  exact put3_own h.own i hi t
theorem cell_set_some {w : World} {g o o' : Nat} {u v : Value} (h : w.cell? ⟨g, o', none⟩ = some v) : ∃ u', (w.setCell ⟨g, o, none⟩ u).cell? ⟨g, o', none⟩ = some u' := by
  by_cases e : o' = o
  · subst e; exact ⟨_, World.cell?_setCell_same _ _ _ h⟩
  · exact ⟨v, (World.cell?_setCell_other w ⟨g, o, none⟩ ⟨g, o', none⟩ u (fun k => e (by injection k with _ k; exact k.symm))).trans h⟩
set_option maxRecDepth 20000 in
set_option maxHeartbeats 2000000 in
theorem qSwap_any {base : Nat} {w : World} {B : Nat} {a : Option Addr} {cap : Nat} {l : List Tm} {now : Int} (h : BellAt base w B (.slice a l.length cap) l now) (i j : Nat) (hil : i < l.length) (hjl : j < l.length) :
    Calls Try.prog 73 #[.slice a l.length cap, .int .i64 i, .int .i64 j] w fun e W' => e = .returned (.tuple #[]) ∧ BellAt base W' B (.slice a l.length cap) (swp l i j) now ∧ Moved B (.slice a l.length cap) (.slice a l.length cap) w W' := by
  obtain ⟨⟨x0, x1, x2⟩, hi⟩ : ∃ x, l[i]? = some x := ⟨_, List.getElem?_eq_getElem hil⟩
  obtain ⟨⟨y0, y1, y2⟩, hj⟩ : ∃ x, l[j]? = some x := ⟨_, List.getElem?_eq_getElem hjl⟩
  obtain ⟨g, cap', hv, hg1, hg2, hg3, hcap, hcs⟩ := h.at (by omega)
  injection hv with e1 _ e2
  subst e1 e2
  obtain ⟨p0, p1, p2⟩ := hcs i _ hi
  obtain ⟨q0, q1, q2⟩ := hcs j _ hj
  simp only at p0 p1 p2 q0 q1 q2
  have i0 : (0 : Int) ≤ (i : Int) := by omega
  have i1 : (i : Int) < (l.length : Int) := by omega
  have j0 : (0 : Int) ≤ (j : Int) := by omega
  have j1 : (j : Int) < (l.length : Int) := by omega
  have f0 := h.own.frozenAt (i * 3)
  have f1 := h.own.frozenAt (i * 3 + 1)
  have f2 := h.own.frozenAt (i * 3 + 2)
  have f3 := h.own.frozenAt (j * 3)
  have f4 := h.own.frozenAt (j * 3 + 1)
  have f5 := h.own.frozenAt (j * 3 + 2)
  obtain ⟨u0, hu0⟩ := cell_set_some (g := g) (o := i * 3) (u := .int .i64 y0) q0
  obtain ⟨u1, hu1'⟩ := cell_set_some (g := g) (o := i * 3) (u := .int .i64 y0) q1
  obtain ⟨u1, hu1⟩ := cell_set_some (g := g) (o := i * 3 + 1) (u := .int .i64 y1) hu1'
  obtain ⟨u2, hu2'⟩ := cell_set_some (g := g) (o := i * 3) (u := .int .i64 y0) q2
  obtain ⟨u2, hu2''⟩ := cell_set_some (g := g) (o := i * 3 + 1) (u := .int .i64 y1) hu2'
  obtain ⟨u2, hu2⟩ := cell_set_some (g := g) (o := i * 3 + 2) (u := .int .i64 y2) hu2''
  have HZ : Hid (BellAt base (put3 (put3 w g i (y0, y1, y2)) g j (x0, x1, x2)).drew B (.slice (some ⟨g, 0, none⟩) l.length cap) (swp l i j) now ∧ Moved B (.slice (some ⟨g, 0, none⟩) l.length cap) (.slice (some ⟨g, 0, none⟩) l.length cap) w (put3 (put3 w g i (y0, y1, y2)) g j (x0, x1, x2)).drew) := by
    obtain ⟨h1, m1⟩ := put3_bell h i hil (y0, y1, y2)
    have h1' : BellAt base (put3 w g i (y0, y1, y2)) B (.slice (some ⟨g, 0, none⟩) (l.set i (y0, y1, y2)).length cap) (l.set i (y0, y1, y2)) now := by rw [List.length_set]; exact h1
    obtain ⟨h2, m2⟩ := put3_bell h1' j (by rw [List.length_set]; exact hjl) (x0, x1, x2)
    rw [List.length_set] at h2 m2
    have e : (l.set i (y0, y1, y2)).set j (x0, x1, x2) = swp l i j := by rw [swp, gf_at hi, gf_at hj]
    rw [e] at h2
    exact ⟨h2.next (below_drew (Below.refl _ _)), (m1.trans m2).trans (Moved.of_below (below_drew (Below.refl _ _)) _ _)⟩
  simp only [put3] at HZ
  clear hcs hu1' hu2' hu2'' h
  go_enter Try.func73, Try.ntmps73
  go_wp2_with fail
  go_region
  all_goals
    go_wp2
    exact bodyPost_end (v := .tuple #[]) (by simp [results, Try.f73]) rfl ⟨rfl, HZ.out⟩
end Go.Proofs.Ytemmnojcickcpaa
