/- The law TableNil, walked. -/
import Derived.Test.YtmkmidahfcjcgaaDoorTbJ
namespace Go.Proofs.YtmkmidahfcjcgaaDoor
open Go.RowKit
attribute [local go_sem ↓] Go.wp_at_zero Go.wp_at_succ

set_option maxRecDepth 20000 in
set_option maxHeartbeats 2000000 in
theorem nil_any (kind : Int) (k vl o : List UInt8) (w : World) (he : EnvP w) : Calls Tryd.prog 7 #[opV kind k vl o] w fun e W' => e = .returned (.bool true) ∧ Below w.heap.size w W' := by
  have hb1 : Below w.heap.size w (w.alloc (.cells #[.int .i64 kind, .string (bs k), .string (bs vl), .string (bs o)] 31)) := (Below.refl _ _).alloc (Nat.le_refl _) _
  have hop := heap_alloc_new w (.cells #[.int .i64 kind, .string (bs k), .string (bs vl), .string (bs o)] 31)
  have HQ : Hid (∀ W, Below (w.alloc (.cells #[.int .i64 kind, .string (bs k), .string (bs vl), .string (bs o)] 31)).heap.size (w.alloc (.cells #[.int .i64 kind, .string (bs k), .string (bs vl), .string (bs o)] 31)) W → W.heap[w.heap.size]? = some (.cells #[.int .i64 kind, .string (bs k), .string (bs vl), .string (bs o)] 31) ∧ Below w.heap.size w W) :=
    fun W hb => ⟨(hb.block _ (by simp)).trans hop, hb1.trans (hb.mono hb1.size)⟩
  have hD := Do_nil kind k vl o (w.alloc (.cells #[.int .i64 kind, .string (bs k), .string (bs vl), .string (bs o)] 31))
  have HC : Hid (∀ W, Calls Tryd.prog 14 #[opV kind k vl o] W fun e W' => e = .returned (.int .i64 (chk kind k vl o)) ∧ Below W.heap.size W W') := fun W => Check_any kind k vl o W
  have HF : Hid (∀ W, Below w.heap.size w W → Calls Tryd.prog 10 #[] W fun e W' => e = .returned (.bool true) ∧ Below w.heap.size w W') := fun W hb => by
    refine (four_any W (he.next hb)).mono ?_
    rintro e W' ⟨rfl, h⟩
    exact ⟨rfl, hb.trans (h.mono hb.size)⟩
  obtain ⟨C, hC⟩ : ∃ C, chk kind k vl o = C := ⟨_, rfl⟩
  rw [hC] at hD HC
  clear hC hb1 hop he
  have hz := emp_t (v := []) rfl
  by_cases h0 : C = 0
  · subst h0
    rw [if_pos rfl] at hD
    go_enter Tryd.func7, Tryd.ntmps7
    go_wp2_with (first
      | (go_at_call 11; refine hD.mono ?_; clear hD; rintro e w1 ⟨rfl, hb⟩; obtain ⟨hq, hB⟩ := HQ.out _ hb; have r0 := cellB hq 0 _ rfl; have r1 := cellB hq 1 _ rfl; have r2 := cellB hq 2 _ rfl; have r3 := cellB hq 3 _ rfl; have hC := HC.out w1; clear HC hb hq)
      | (go_at_call 14; refine hC.mono ?_; clear hC; rintro e w2 ⟨rfl, hb2⟩; have hB2 := hB.trans (hb2.mono hB.size); have hF := HF.out _ hB2; clear HF hb2 hB)
      | (go_at_call 16; refine (Text_nil _).mono ?_; rintro e w3 ⟨rfl, h9⟩; subst h9)
      | (go_at_call 18; refine (Len_nil _).mono ?_; rintro e w3 ⟨rfl, h9⟩; subst h9)
      | (go_at_call 10; refine hF.mono ?_; rintro e w4 ⟨rfl, hb4⟩))
    go_ret
    exact ⟨rfl, hb4⟩
  · rw [if_neg h0] at hD
    have hne : (C == 0) = false := by simpa using h0
    have hs : (C == C) = true := by simp
    go_enter Tryd.func7, Tryd.ntmps7
    go_wp2_with (first
      | (go_at_call 11; refine hD.mono ?_; clear hD; rintro e w1 ⟨rfl, hb⟩; obtain ⟨hq, hB⟩ := HQ.out _ hb; have r0 := cellB hq 0 _ rfl; have r1 := cellB hq 1 _ rfl; have r2 := cellB hq 2 _ rfl; have r3 := cellB hq 3 _ rfl; have hC := HC.out w1; clear HC hb hq)
      | (go_at_call 14; refine hC.mono ?_; clear hC; rintro e w2 ⟨rfl, hb2⟩; have hB2 := hB.trans (hb2.mono hB.size); have hF := HF.out _ hB2; clear HF hb2 hB)
      | (go_at_call 16; refine (Text_nil _).mono ?_; rintro e w3 ⟨rfl, h9⟩; subst h9)
      | (go_at_call 18; refine (Len_nil _).mono ?_; rintro e w3 ⟨rfl, h9⟩; subst h9)
      | (go_at_call 10; refine hF.mono ?_; rintro e w4 ⟨rfl, hb4⟩))
    go_ret
    exact ⟨rfl, hb4⟩
end Go.Proofs.YtmkmidahfcjcgaaDoor
