/- The slot's Votes and certOf, walked. -/
import Derived.Test.YtobojfkoffhljaaSoF
namespace Go.Proofs.Ytobojfkoffhljaa
open Go.RowKit
attribute [local go_sem ↓] Go.wp_at_zero Go.wp_at_succ

/-- How many of the first ones voted. -/
def cntTo (V : Vs) (k : Nat) : Nat → Nat
  | 0 => 0
  | j + 1 => cntTo V k j + if isV (V k j).2 = true then 1 else 0
theorem cntTo_le (V : Vs) (k j : Nat) : cntTo V k j ≤ j := by
  induction j with
  | zero => simp [cntTo]
  | succ j ih => simp only [cntTo]; split <;> omega
/-- How many voted. -/
def votesN (V : Vs) (f : Nat) (kind : Int) : Nat := if isK kind = true then cntTo V (kind - 1).toNat (3 * f + 1) else 0
theorem votesN_at {V : Vs} {f k : Nat} (hk : k < 2) : votesN V f ((k : Int) + 1) = cntTo V k (3 * f + 1) := by
  have hcs : k = 0 ∨ k = 1 := by omega
  rcases hcs with rfl | rfl <;> rfl
theorem Votes_nil (kind : Int) (w : World) : Calls Try.prog 22 #[.pointer none, .int .i64 kind] w fun e W' => e = .returned (.int .i64 0) ∧ W' = w := by
  go_enter Try.func22, Try.ntmps22
  go_wp2_with (first | (go_at_call 35; refine (told_nil _ _).mono ?_; rintro e w1 ⟨rfl, h9⟩; subst h9))
  go_loop [5, 12] (fun n i => n = .int .i64 0 ∧ i = .int .i64 0) (fun _ _ => 0)
  case atStart => exact ⟨rfl, rfl⟩
  case round =>
    obtain ⟨rfl, rfl⟩ := hrel
    go_wp2
    go_ret
    exact ⟨rfl, rfl⟩
theorem Votes_no (B : Nat) {kind : Int} (h : isK kind = false) (w : World) : Calls Try.prog 22 #[.pointer (some ⟨B, 0, none⟩), .int .i64 kind] w fun e W' => e = .returned (.int .i64 0) ∧ W' = w := by
  have hT := told_no B h
  clear h
  go_enter Try.func22, Try.ntmps22
  go_wp2_with (first | (go_at_call 35; refine (hT _).mono ?_; rintro e w1 ⟨rfl, h9⟩; subst h9))
  go_loop [5, 12] (fun n i => n = .int .i64 0 ∧ i = .int .i64 0) (fun _ _ => 0)
  case atStart => exact ⟨rfl, rfl⟩
  case round =>
    obtain ⟨rfl, rfl⟩ := hrel
    go_wp2
    go_ret
    exact ⟨rfl, rfl⟩
set_option maxHeartbeats 2000000 in
theorem Votes_at {w : World} {B : Nat} {gr : Int} {f p : Nat} {V : Vs} (h : SlotAt w B gr f p V) {k : Nat} (hk : k < 2) : Calls Try.prog 22 #[.pointer (some ⟨B, 0, none⟩), .int .i64 ((k : Int) + 1)] w fun e W' => e = .returned (.int .i64 (cntTo V k (3 * f + 1))) ∧ Below w.heap.size w W' := by
  have hT := told_any h hk
  have f3 := h.f3
  obtain ⟨n, hn⟩ : ∃ n, 3 * f + 1 = n := ⟨_, rfl⟩
  have n10 : n ≤ 10 := by omega
  rw [hn] at hT ⊢
  have HC : Hid (∀ (W : World) (i : Nat), Below w.heap.size w W → i < n → W.cell? ⟨B, 3 + k * 20 + i * 2, none⟩ = some (.string (bs (V k i).1)) ∧ W.cell? ⟨B, 3 + k * 20 + i * 2 + 1, none⟩ = some (.string (bs (V k i).2))) := fun W i hW hi => ⟨((h.on hW).cv hk (by omega)).1, ((h.on hW).cv hk (by omega)).2.1⟩
  obtain ⟨o, ho⟩ : ∃ o, 3 + k * 20 = o := ⟨_, rfl⟩
  rw [ho] at hT HC
  clear ho hn h
  go_enter Try.func22, Try.ntmps22
  go_wp2_with (first | (go_at_call 35; refine hT.mono ?_; rintro e w1 ⟨rfl, hb1⟩))
  go_loopg [5, 12] n (fun gk c i wr => ∃ j : Nat, j + gk = n ∧ i = .int .i64 j ∧ c = .int .i64 (cntTo V k j) ∧ Below w.heap.size w wr)
  case atStart => exact ⟨0, by omega, rfl, rfl, hb1⟩
  case round =>
    obtain ⟨j, hj, rfl, rfl, hB⟩ := hrel
    by_cases hlt : j < n
    · obtain ⟨x0, x1⟩ := HC.out _ j hB hlt
      have m0 : (0 : Int) ≤ (j : Int) := by omega
      have m1 : (j : Int) < (n : Int) := by omega
      have m2 : (j : Int) ≤ 10 := by omega
      have hcl := cntTo_le V k j
      have HS : Hid (cntTo V k (j + 1) = cntTo V k j + if isV (V k j).2 = true then 1 else 0) := rfl
      obtain ⟨C, hC⟩ : ∃ C, cntTo V k j = C := ⟨_, rfl⟩
      rw [hC] at HS hcl ⊢
      have hc2 : (C : Int) ≤ 10 := by omega
      obtain ⟨⟨vt, vg⟩, hV⟩ : ∃ v, V k j = v := ⟨_, rfl⟩
      rw [hV] at x0 x1 HS
      simp only at x0 x1 HS
      have hI := is_any vt vg (wr.alloc (.cells #[.string (bs vt), .string (bs vg)] 83))
      have hBa := hB.alloc hB.size (.cells #[.string (bs vt), .string (bs vg)] 83)
      have HBa : Hid (_) := hBa
      clear hT hV hC hBa
      cases hv : isV vg
      · rw [hv] at hI HS
        clear hv
        go_wp2_with (first | (go_at_call 38; refine hI.mono ?_; rintro e w2 ⟨rfl, hb2⟩))
        go_roundg (n - (j + 1))
        case measure => omega
        case rel => exact ⟨j + 1, by omega, by go_num, by rw [HS.out]; simp, HBa.out.trans (hb2.mono HBa.out.size)⟩
      · rw [hv] at hI HS
        clear hv
        go_wp2_with (first | (go_at_call 38; refine hI.mono ?_; rintro e w2 ⟨rfl, hb2⟩))
        go_roundg (n - (j + 1))
        case measure => omega
        case rel => exact ⟨j + 1, by omega, by go_num, by rw [HS.out]; simp, HBa.out.trans (hb2.mono HBa.out.size)⟩
    · have hjn : j = n := by omega
      subst hjn
      go_wp2
      go_ret
      exact ⟨rfl, hB⟩
theorem Votes_any {w : World} {B : Nat} {gr : Int} {f p : Nat} {V : Vs} (h : SlotAt w B gr f p V) (kind : Int) : Calls Try.prog 22 #[.pointer (some ⟨B, 0, none⟩), .int .i64 kind] w fun e W' => e = .returned (.int .i64 (votesN V f kind)) ∧ Below w.heap.size w W' := by
  cases hk : isK kind
  · rw [show votesN V f kind = 0 by unfold votesN; rw [hk]; rfl]
    exact sameB (Votes_no B hk) w
  · obtain ⟨k, hk2, rfl⟩ := isK_t hk
    rw [votesN_at hk2]
    exact Votes_at h hk2
end Go.Proofs.Ytobojfkoffhljaa
