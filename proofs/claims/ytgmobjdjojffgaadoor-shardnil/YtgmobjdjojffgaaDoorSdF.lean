/- Shards: Do of a number that was done last, and of a new one, walked. -/
import Derived.Test.YtgmobjdjojffgaaDoorSdE
namespace Go.Proofs.YtgmobjdjojffgaaDoor
open Go.RowKit
attribute [local go_sem ↓] Go.wp_at_zero Go.wp_at_succ

set_option maxRecDepth 20000 in
set_option maxHeartbeats 1000000 in
theorem sDo_same {w : World} {B : Nat} {s : Sh} {T : Nat} {v : Value} (hs : ShAt w B s T v) (h1 : s.st = 1) (n : Nat) (number kind : Int) (k vl o : List UInt8) (h : okN n number = true) (hn : number = (s.c n).1) : Calls Tryd.prog 20 #[.pointer (some ⟨B, 0, none⟩), .int .i64 n, .int .i64 number, opV kind k vl o] w fun e W' => e = .returned (ansV (s.c n).2.1 (s.c n).2.2 false 0) ∧ Below w.heap.size w W' := by
  have hB := W2_below w kind k vl o
  have HB : Hid (Below w.heap.size w ((w.alloc (.cells #[.int .i64 kind, .string (bs k), .string (bs vl), .string (bs o)] 42)).alloc (.cells #[.int .i64 (s.c n).2.1, .string (bs (s.c n).2.2)] 47))) := ((Below.refl _ _).alloc (Nat.le_refl _) _).alloc (by simp) _
  have hS := Status_any (hs.on hB)
  have w1 := within_any n 0 7 (W2 w kind k vl o)
  have w2 := within_any number 1 1099511627776 (W2 w kind k vl o)
  rw [okN, Bool.and_eq_true] at h
  rw [h.1] at w1
  rw [h.2] at w2
  rw [h1] at hS
  have hn8 : n < 8 := by have := inR_t h.1; omega
  obtain ⟨c0, c1, c2⟩ := hs.cc hn8
  have hlt := hs.lt
  have hi0 : (0 : Int) ≤ (n : Int) := by omega
  have hi1 : (n : Int) < 8 := by omega
  rw [← hn] at c0
  obtain ⟨E, hE⟩ : ∃ E, (s.c n).2.1 = E := ⟨_, rfl⟩
  obtain ⟨V, hV⟩ : ∃ V, (s.c n).2.2 = V := ⟨_, rfl⟩
  rw [hE] at c1 HB ⊢
  rw [hV] at c2 HB ⊢
  clear h hs hB h1 hn hE hV
  have hq : (number == number) = true := by simp
  have hl : ¬ number < number := by omega
  go_enter Tryd.func20, Tryd.ntmps20
  go_wp2_with (first
    | (go_at_call 26; refine w1.mono ?_; clear w1; rintro e w1 ⟨rfl, h9⟩; subst h9)
    | (go_at_call 26; refine w2.mono ?_; clear w2; rintro e w1 ⟨rfl, h9⟩; subst h9)
    | (go_at_call 21; refine hS.mono ?_; clear hS; rintro e w1 ⟨rfl, h9⟩; subst h9))
  exact bodyPost_ret (v := ansV E V false 0) (by simp [results, Tryd.f20, go_sem, bs]) rfl ⟨rfl, HB.out⟩
end Go.Proofs.YtgmobjdjojffgaaDoor
