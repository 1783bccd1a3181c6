/- Shards: Freeze, and Do of a number that was done, walked. -/
import Derived.Test.YtgmobjdjojffgaaDoorSdD
namespace Go.Proofs.YtgmobjdjojffgaaDoor
open Go.RowKit
attribute [local go_sem ↓] Go.wp_at_zero Go.wp_at_succ

theorem freeze_sh {w : World} {B : Nat} {s : Sh} {T : Nat} {v : Value} (h : ShAt w B s T v) (h1 : s.st = 1) : ShAt (w.setCell ⟨B, 0, none⟩ (.int .i64 2)) B ⟨2, s.l, s.c⟩ T v ∧ Mv B w (w.setCell ⟨B, 0, none⟩ (.int .i64 2)) := by
  have hc1 : hasC s.st = true := by rw [h1]; rfl
  have hfar : ∀ k, k ≠ B → (w.setCell ⟨B, 0, none⟩ (.int .i64 2)).heap[k]? = w.heap[k]? := fun k hk => set_far hk _ _
  have hch : hcs ⟨2, s.l, s.c⟩ T = hcs s T := by rw [hcs, hcs, hc1]; rfl
  refine ⟨⟨by simpa [World.setCell] using h.lt, ?_, fun j x hx => ?_, fun j => ?_, fun _ => ⟨(h.tab hc1).1.keep (hfar T (h.tab hc1).2.1) fun k e _ => hfar k ((h.tab hc1).2.2 k e), (h.tab hc1).2⟩, fun e => by cases e⟩, rfl, rfl, rfl, by simp [World.setCell], fun k _ hk => hfar k hk⟩
  · exact World.cell?_setCells_in B [.int .i64 2] 0 w (fun j hj => by
      have : j = 0 := by simp at hj; omega
      subst this
      rw [h.c0]
      rfl) 0 (by simp)
  · rw [hch] at hx
    exact (World.cell?_setCells_out B [.int .i64 2] 0 w ⟨B, 1 + j, none⟩ (fun _ _ => .inr (by simp))).trans (h.ch j x hx)
  · exact (World.frozen?_setCells B [.int .i64 2] 0 w ⟨B, j, none⟩).trans (h.fz j)
set_option maxRecDepth 20000 in
set_option maxHeartbeats 1000000 in
theorem Freeze_ok {w : World} {B : Nat} {s : Sh} {T : Nat} {v : Value} (h : ShAt w B s T v) (h1 : s.st = 1) : Calls Tryd.prog 16 #[.pointer (some ⟨B, 0, none⟩)] w fun e W' => e = .returned (.int .i64 0) ∧ ShAt W' B ⟨2, s.l, s.c⟩ T v ∧ Mv B w W' := by
  have hS := Status_any h
  have HF : Hid (_) := freeze_sh h h1
  rw [h1] at hS
  have hc := h.c0
  have hf := h.fz 0
  clear h h1
  go_enter Tryd.func16, Tryd.ntmps16
  go_wp2_with (first | (go_at_call 21; refine hS.mono ?_; clear hS; rintro e w1 ⟨rfl, h9⟩; subst h9))
  go_ret
  exact ⟨rfl, HF.out⟩
set_option maxRecDepth 20000 in
theorem Freeze_no {w : World} {B : Nat} {s : Sh} {T : Nat} {v : Value} (h : ShAt w B s T v) (h1 : s.st ≠ 1) : Calls Tryd.prog 16 #[.pointer (some ⟨B, 0, none⟩)] w fun e W' => e = .returned (.int .i64 7) ∧ W' = w := by
  have hS := Status_any h
  have hne : (s.st != 1) = true := by simpa using h1
  clear h h1
  go_enter Tryd.func16, Tryd.ntmps16
  go_wp2_with (first | (go_at_call 21; refine hS.mono ?_; clear hS; rintro e w1 ⟨rfl, h9⟩; subst h9))
  go_ret
  exact ⟨rfl, rfl⟩
set_option maxRecDepth 20000 in
set_option maxHeartbeats 1000000 in
theorem sDo_old {w : World} {B : Nat} {s : Sh} {T : Nat} {v : Value} (hs : ShAt w B s T v) (h1 : s.st = 1) (n : Nat) (number kind : Int) (k vl o : List UInt8) (h : okN n number = true) (hn : number < (s.c n).1) : Calls Tryd.prog 20 #[.pointer (some ⟨B, 0, none⟩), .int .i64 n, .int .i64 number, opV kind k vl o] w fun e W' => e = .returned (ansV 0 [] false 6) ∧ Below w.heap.size w W' := by
  have hB := W2_below w kind k vl o
  have HB : Hid (Below w.heap.size w (W2 w kind k vl o)) := hB
  have hS := Status_any (hs.on hB)
  have w1 := within_any n 0 7 (W2 w kind k vl o)
  have w2 := within_any number 1 1099511627776 (W2 w kind k vl o)
  rw [okN, Bool.and_eq_true] at h
  rw [h.1] at w1
  rw [h.2] at w2
  rw [h1] at hS
  have hn8 : n < 8 := by have := inR_t h.1; omega
  obtain ⟨c0, c1, c2⟩ := hs.cc hn8
  have hlt := hs.lt
  have hi0 : (0 : Int) ≤ (n : Int) := by omega
  have hi1 : (n : Int) < 8 := by omega
  clear h hs hB h1
  go_enter Tryd.func20, Tryd.ntmps20
  go_wp2_with (first
    | (go_at_call 26; refine w1.mono ?_; clear w1; rintro e w1 ⟨rfl, h9⟩; subst h9)
    | (go_at_call 26; refine w2.mono ?_; clear w2; rintro e w1 ⟨rfl, h9⟩; subst h9)
    | (go_at_call 21; refine hS.mono ?_; clear hS; rintro e w1 ⟨rfl, h9⟩; subst h9))
  exact bodyPost_ret (v := ansV 0 [] false 6) (by simp [results, Tryd.f20, go_sem, bs]) rfl ⟨rfl, HB.out⟩
end Go.Proofs.YtgmobjdjojffgaaDoor
