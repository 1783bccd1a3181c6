/- The law MarkTexts, walked (for texts of up to four million bytes). -/
import Derived.Test.YtmggfkhfiggloaaDoorMtB
namespace Go.Proofs.YtmggfkhfiggloaaDoor
open Go.RowKit
attribute [local go_sem ↓] Go.wp_at_zero Go.wp_at_succ

set_option maxRecDepth 20000 in
set_option maxHeartbeats 4000000 in
theorem mtexts_any (g n : Int) (s : List UInt8) (w : World) (hs : s.length ≤ 4000000) (he : Env w) :
    Calls Tryd.prog 3 #[.int .i64 g, .int .i64 n, .string (bs s)] w fun e W' => e = .returned (.bool true) ∧ Below w.heap.size w W' := by
  have hT := Text_any g n s w (by omega) he.p
  have HRT : Hid (∀ W, Calls Tryd.prog 9 #[.int .i64 g, .int .i64 n, .string (bs s)] W fun e W' => e = .returned (.tuple #[.string (bs (textV g n s)), .int .i64 (textE g n s)]) ∧ Below W.heap.size W W') := fun W => rText_any g n s W
  have HRd : Hid (∀ W, Below w.heap.size w W → Calls Tryd.prog 10 #[.string (bs s)] W fun e W' => e = .returned (.tuple #[.int .i64 (readV s).1, .int .i64 (readV s).2.1, .string (bs (readV s).2.2), .int .i64 (readE s)]) ∧ Below W.heap.size W W') := fun W hW => Read_any s W (he.next hW)
  have HRR : Hid (∀ W, Calls Tryd.prog 11 #[.string (bs s)] W fun e W' => e = .returned (.tuple #[.agg #[.int .i64 (readV s).1, .int .i64 (readV s).2.1, .string (bs (readV s).2.2)], .int .i64 (readE s)]) ∧ Below W.heap.size W W') := fun W => rRead_any s W hs
  have HO : Hid (∀ W, Below w.heap.size w W → Calls Tryd.prog 12 #[] W fun e W' => e = .returned (.bool true) ∧ Below w.heap.size w W') := by
    intro W hb
    refine (one_any W (he.next hb).p).mono ?_
    rintro e W' ⟨rfl, h⟩
    exact ⟨rfl, hb.trans (h.mono hb.size)⟩
  have HB : Hid (textE g n s = 0 → ∀ W, Below w.heap.size w W → Calls Tryd.prog 10 #[.string (bs (textV g n s))] W fun e W' => e = .returned (.tuple #[.int .i64 g, .int .i64 n, .string (bs s), .int .i64 0]) ∧ Below w.heap.size w W') := by
    intro h0 W hW
    obtain ⟨h1, h2, h3⟩ := textE_zero h0
    have hr := readL_some.2 ⟨h1, h3, by rw [h3]; exact h2⟩
    have := Read_any (textV g n s) W (he.next hW)
    rw [(read_some hr).1, (read_some hr).2] at this
    refine this.mono ?_
    rintro e W' ⟨rfl, h⟩
    exact ⟨rfl, hW.trans (h.mono hW.size)⟩
  obtain ⟨X, hX⟩ : ∃ x, textV g n s = x := ⟨_, rfl⟩
  obtain ⟨E, hE⟩ : ∃ x, textE g n s = x := ⟨_, rfl⟩
  obtain ⟨⟨RG, RN, RS⟩, hRV⟩ : ∃ x, readV s = x := ⟨_, rfl⟩
  obtain ⟨RE, hRE⟩ : ∃ x, readE s = x := ⟨_, rfl⟩
  rw [hX, hE] at hT HRT HB
  rw [hRV, hRE] at HRd HRR
  simp only at HRd HRR
  have s1 := str_same X
  have s2 := str_same RS
  have s3 := str_same s
  clear hX hE hRV hRE he hs
  go_enter Tryd.func3, Tryd.ntmps3
  go_upto_region 5 with (first
    | (go_at_call 8; refine hT.mono ?_; clear hT; rintro e w1 ⟨rfl, hb1⟩; have hT2 := HRT.out w1)
    | (go_at_call 9; refine hT2.mono ?_; clear hT2; rintro e w2 ⟨rfl, hb2⟩; have hB2 := hb1.trans (hb2.mono hb1.size); have hT3 := HRd.out w2 hB2)
    | (go_at_call 10; refine hT3.mono ?_; clear hT3; rintro e w3 ⟨rfl, hb3⟩; have hB3 := hB2.trans (hb3.mono hB2.size); have hT4 := HRR.out w3)
    | (go_at_call 11; refine hT4.mono ?_; clear hT4; rintro e w4 ⟨rfl, hb4⟩))
  have hB4 := hB3.trans (hb4.mono hB3.size)
  have hB5 := hB4.alloc hB4.size (.cells #[.int .i64 RG, .int .i64 RN, .string (bs RS)] 30)
  have r5 := heap_alloc_new w4 (.cells #[.int .i64 RG, .int .i64 RN, .string (bs RS)] 30)
  obtain ⟨W5, hW5⟩ : ∃ W, w4.alloc (.cells #[.int .i64 RG, .int .i64 RN, .string (bs RS)] 30) = W := ⟨_, rfl⟩
  rw [hW5] at hB5 r5 ⊢
  have p0 := cellB r5 0 _ rfl
  have p1 := cellB r5 1 _ rfl
  have p2 := cellB r5 2 _ rfl
  have hO := HO.out _ hB5
  have HB5 : Hid (_) := hB5
  clear hW5 r5 hB5 hB4 hb1 hb2 hb3 hb4 hB2 hB3 HRT HRd HRR
  by_cases h0 : E = 0
  · subst h0
    have hBk := HB.out rfl _ HB5.out
    clear HB hO
    go_wp2_with (first
      | (go_at_call 10; refine hBk.mono ?_; clear hBk; rintro e w6 ⟨rfl, hb6⟩; have hO := HO.out _ hb6)
      | (go_at_call 12; refine hO.mono ?_; clear hO; rintro e w7 ⟨rfl, hb7⟩))
    go_ret
    exact ⟨rfl, hb7⟩
  · have hE0 : (E == 0) = false := by simpa using h0
    clear h0 HB HO
    go_wp2_with (first
      | (go_at_call 12; refine hO.mono ?_; clear hO; rintro e w7 ⟨rfl, hb7⟩))
    go_ret
    exact ⟨rfl, hb7⟩
end Go.Proofs.YtmggfkhfiggloaaDoor
