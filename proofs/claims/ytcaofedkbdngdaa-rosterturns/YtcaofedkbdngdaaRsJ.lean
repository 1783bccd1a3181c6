/- The law RosterTurns, walked. -/
import Derived.Test.YtcaofedkbdngdaaRsI
namespace Go.Proofs.Ytcaofedkbdngdaa
open Go.RowKit
attribute [local go_sem ↓] Go.wp_at_zero Go.wp_at_succ

/-- Was q the primary of one of the first k views? -/
def seenB (view : Int) (n k q : Nat) : Bool := (List.range k).any fun j => decide ((view + j) % (n : Int) = q)
theorem seenB_succ (view : Int) (n k q : Nat) : seenB view n (k + 1) q = (seenB view n k q || decide ((view + k) % (n : Int) = q)) := by
  unfold seenB; rw [List.range_succ, List.any_append]; simp
theorem seenB_new {view : Int} {n k P : Nat} (hn : n = 1 ∨ n = 4 ∨ n = 7 ∨ n = 10) (hk : k < n) (hP : (view + k) % (n : Int) = P) : seenB view n k P = false := by
  unfold seenB
  rw [List.any_eq_false]
  intro j hj
  have hj2 := List.mem_range.1 hj
  have h2 : ¬ (view + j) % (n : Int) = P := by
    intro h
    rcases hn with rfl | rfl | rfl | rfl <;> omega
  simp [h2]
/-- The block of what was seen. -/
def SeenAt (w : World) (S : Nat) (view : Int) (n k : Nat) : Prop := ∃ cs : Array Value, w.heap[S]? = some (.cells cs 52) ∧ ∀ q, q < 10 → cs[q]? = some (.bool (seenB view n k q))
theorem SeenAt.next {w w' : World} {S : Nat} {view : Int} {n k : Nat} (h : SeenAt w S view n k) (hb : Below w.heap.size w w') : SeenAt w' S view n k := by
  obtain ⟨cs, h1, h2⟩ := h
  exact ⟨cs, (hb.block S (Array.getElem?_eq_some_iff.1 h1).1).trans h1, h2⟩
theorem SeenAt.cell {w : World} {S : Nat} {view : Int} {n k : Nat} (h : SeenAt w S view n k) {q : Nat} (hq : q < 10) : w.cell? ⟨S, q, none⟩ = some (.bool (seenB view n k q)) ∧ w.frozen? ⟨S, q, none⟩ = false := by
  obtain ⟨cs, h1, h2⟩ := h
  exact ⟨cellB h1 q _ (h2 q hq), frozenB h1 q⟩
theorem SeenAt.store {w : World} {S : Nat} {view : Int} {n k P : Nat} (h : SeenAt w S view n k) (hP : P < 10) (hv : (view + k) % (n : Int) = P) : SeenAt (w.setCell ⟨S, P, none⟩ (.bool true)) S view n (k + 1) := by
  obtain ⟨cs, h1, h2⟩ := h
  refine ⟨_, setB h1 P _, fun q hq => ?_⟩
  have hsz : cs.size > P := (Array.getElem?_eq_some_iff.1 (h2 P hP)).1
  rw [Array.getElem?_setIfInBounds, seenB_succ, hv]
  by_cases e : P = q
  · subst e; simp [hsz]
  · rw [if_neg e, h2 q hq]
    simp; omega
theorem SeenAt.new (w : World) (view : Int) (n : Nat) : SeenAt (w.alloc (.cells #[.bool false, .bool false, .bool false, .bool false, .bool false, .bool false, .bool false, .bool false, .bool false, .bool false] 52)) w.heap.size view n 0 := by
  refine ⟨_, heap_alloc_new _ _, fun q hq => ?_⟩
  have : q = 0 ∨ q = 1 ∨ q = 2 ∨ q = 3 ∨ q = 4 ∨ q = 5 ∨ q = 6 ∨ q = 7 ∨ q = 8 ∨ q = 9 := by omega
  rcases this with rfl | rfl | rfl | rfl | rfl | rfl | rfl | rfl | rfl | rfl <;> rfl
set_option maxRecDepth 20000 in
set_option maxHeartbeats 4000000 in
theorem turns_any (f g c view : Int) (w : World) : Calls Try.prog 7 #[.agg #[.int .i64 f, .int .i64 g, .int .i64 c], .int .i64 view] w fun e W' => e = .returned (.bool true) ∧ Below w.heap.size w W' := by
  have hb0 : Below w.heap.size w (w.alloc (.cells #[.int .i64 f, .int .i64 g, .int .i64 c] 23)) := (Below.refl _ w).alloc (Nat.le_refl _) _
  cases h : Rt f g c
  · have hC := keepC (Check_wrong h) (hold3 (heap_alloc_new w (.cells #[.int .i64 f, .int .i64 g, .int .i64 c] 23))) _ (Below.refl _ _)
    clear h
    go_enter Try.func7, Try.ntmps7
    go_wp2_with (first
      | (go_at_call 11; refine hC.mono ?_; rintro e w1 ⟨rfl, hb1, x0, x1, x2⟩)
      | (go_at_call 16; refine (two_any _).mono ?_; rintro e w2 ⟨rfl, hb2⟩))
    go_ret
    exact ⟨rfl, hb0.trans ((hb1.trans (hb2.mono hb1.size)).mono hb0.size)⟩
  · have hC := keepC (Check_right h) (hold3 (heap_alloc_new w (.cells #[.int .i64 f, .int .i64 g, .int .i64 c] 23))) _ (Below.refl _ _)
    by_cases hv : view < 0 ∨ 549755813888 < view
    · clear h
      rcases hv with hv | hv
      · go_enter Try.func7, Try.ntmps7
        go_wp2_with (first
          | (go_at_call 11; refine hC.mono ?_; rintro e w1 ⟨rfl, hb1, x0, x1, x2⟩)
          | (go_at_call 16; refine (two_any _).mono ?_; rintro e w2 ⟨rfl, hb2⟩))
        go_ret
        exact ⟨rfl, hb0.trans ((hb1.trans (hb2.mono hb1.size)).mono hb0.size)⟩
      · have hv0 : 0 ≤ view := by omega
        go_enter Try.func7, Try.ntmps7
        go_wp2_with (first
          | (go_at_call 11; refine hC.mono ?_; rintro e w1 ⟨rfl, hb1, x0, x1, x2⟩)
          | (go_at_call 16; refine (two_any _).mono ?_; rintro e w2 ⟨rfl, hb2⟩))
        go_ret
        exact ⟨rfl, hb0.trans ((hb1.trans (hb2.mono hb1.size)).mono hb0.size)⟩
    · have v0 : 0 ≤ view := by omega
      have v1 : view ≤ 549755813888 := by omega
      obtain ⟨h1, h2, h3, h4, h5, h6⟩ := Rt_b h
      have hn := nN_right h
      have hNn := N_any f g c
      obtain ⟨n, hnn⟩ : ∃ n, nN f g c = n := ⟨_, rfl⟩
      rw [hnn] at hn hNn
      have hn4 : n = 1 ∨ n = 4 ∨ n = 7 ∨ n = 10 := by omega
      have hP : ∀ (k : Nat) (P : Nat), k < n → (view + k) % (n : Int) = P → ∀ W, Calls Try.prog 9 #[.agg #[.int .i64 f, .int .i64 g, .int .i64 c], .int .i64 (view + k)] W fun e W' => e = .returned (.tuple #[.int .i64 P, .int .i64 0]) ∧ Below W.heap.size W W' := by
        intro k P hk hP W
        have hwi : wi (view + k) 0 1099511627776 = true := by simp [wi]; omega
        have := Primary_any f g c (view + k) W
        rw [show primV f g c (view + k) = P by rw [primV, if_pos ⟨h, hwi⟩, ← hn, hP], show primE f g c (view + k) = 0 by rw [primE, if_pos ⟨h, hwi⟩]] at this
        exact this
      clear hv h hnn
      go_enter Try.func7, Try.ntmps7
      go_upto_region 3 with (first
        | (go_at_call 11; refine hC.mono ?_; rintro e w1 ⟨rfl, hb1, x0, x1, x2⟩))
      have hB1 := hb0.trans (hb1.mono hb0.size)
      have r1 := (hb1.block w.heap.size (by simp)).trans (heap_alloc_new w (.cells #[.int .i64 f, .int .i64 g, .int .i64 c] 23))
      have hlt : w.heap.size < w1.heap.size := (Array.getElem?_eq_some_iff.1 r1).1
      clear hC hb1 x0 x1 x2
      go_wp2_with fail
      go_loopg [6] n (fun gk i wr => ∃ k : Nat, k + gk = n ∧ i = .int .i64 k ∧ Below w1.heap.size w1 wr ∧ SeenAt wr w1.heap.size view n k)
      case atStart => exact ⟨0, by omega, rfl, (Below.refl _ _).alloc (Nat.le_refl _) _, SeenAt.new _ _ _⟩
      case round =>
        obtain ⟨k, hgk, rfl, hB, hS⟩ := hrel
        have rr := (hB.block w.heap.size hlt).trans r1
        have x0 := cellB rr 0 _ rfl
        have x1 := cellB rr 1 _ rfl
        have x2 := cellB rr 2 _ rfl
        by_cases hk : k < n
        · obtain ⟨P, hPv⟩ : ∃ P : Nat, (view + k) % (n : Int) = P := ⟨((view + k) % (n : Int)).toNat, by have := Int.emod_nonneg (view + k) (show (n : Int) ≠ 0 by omega); omega⟩
          have hP2 := hP k P hk hPv
          have hPn : P < n := by have := Int.emod_lt_of_pos (view + k) (show (0 : Int) < n by omega); omega
          have hnew := seenB_new hn4 hk hPv
          have p0 : (0 : Int) ≤ (P : Int) := by omega
          have p1 : (P : Int) < (n : Int) := by omega
          have p2 : (P : Int) < 10 := by omega
          have p3 : decide (n ≤ P) = false := by simp; omega
          have k1 : (k : Int) < (n : Int) := by omega
          have k2 : (k : Int) ≤ 10 := by omega
          have HE : Hid (P < 10 ∧ (view + k) % (n : Int) = P) := ⟨by omega, hPv⟩
          clear hPv hP
          go_wp2_with (first
            | (go_at_call 12; refine (hNn _).mono ?_; rintro e w2 ⟨rfl, hb2⟩; have hS2 := hS.next hb2; have hB2 := hB.trans (hb2.mono hB.size); have rr2 := (hB2.block w.heap.size hlt).trans r1; have x0 := cellB rr2 0 _ rfl; have x1 := cellB rr2 1 _ rfl; have x2 := cellB rr2 2 _ rfl; clear hS hB rr; have hS := hS2; have hB := hB2; have rr := rr2; clear hS2 hB2 rr2; obtain ⟨s0, s1⟩ := hS.cell HE.out.1; rw [hnew] at s0)
            | (go_at_call 9; refine (hP2 _).mono ?_; rintro e w2 ⟨rfl, hb2⟩; have hS2 := hS.next hb2; have hB2 := hB.trans (hb2.mono hB.size); have rr2 := (hB2.block w.heap.size hlt).trans r1; have x0 := cellB rr2 0 _ rfl; have x1 := cellB rr2 1 _ rfl; have x2 := cellB rr2 2 _ rfl; clear hS hB rr; have hS := hS2; have hB := hB2; have rr := rr2; clear hS2 hB2 rr2))
          go_roundg (n - (k + 1))
          case measure => omega
          case rel => exact ⟨k + 1, by omega, by go_num, hB.setCell (p := ⟨w1.heap.size, P, none⟩) (Nat.le_refl _) _, hS.store HE.out.1 HE.out.2⟩
        · have hkn : k = n := by omega
          subst hkn
          go_wp2_with (first
            | (go_at_call 12; refine (hNn _).mono ?_; rintro e w2 ⟨rfl, hb2⟩)
            | (go_at_call 16; refine (two_any _).mono ?_; rintro e w3 ⟨rfl, hb3⟩))
          go_ret
          have hB2 := hB.trans (hb2.mono hB.size)
          exact ⟨rfl, hB1.trans ((hB2.trans (hb3.mono hB2.size)).mono hB1.size)⟩
end Go.Proofs.Ytcaofedkbdngdaa
