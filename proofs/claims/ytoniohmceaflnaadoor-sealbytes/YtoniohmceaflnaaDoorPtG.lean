/- The law SealBytes, walked. -/
import Derived.Test.YtoniohmceaflnaaDoorPtD
import Derived.Test.YtoniohmceaflnaaDoorPtF
namespace Go.Proofs.YtoniohmceaflnaaDoor
open Go.RowKit
attribute [local go_sem ↓] Go.wp_at_zero Go.wp_at_succ

theorem sDecV_len (s : List UInt8) : (sDecV s).2.1.length ≤ s.length := by
  rcases h : sDecL s with _ | ⟨⟨g, n⟩, t, tg⟩
  · rw [sDecV, h]; exact Nat.zero_le _
  · rw [sDecV, h]
    exact texts_mem (by rw [(sDec_some h).2.2]; simp)
theorem sEncV_len (g n : Int) (t tg : List UInt8) (ht : t.length ≤ 20000) : (sEncV g n t tg).length ≤ 1000000 := by
  unfold sEncV
  split
  · rename_i h
    obtain ⟨hp, hl⟩ := sEnc_ok h
    have h1 := name_len g n hp
    have h2 := pack_len [nameL g n, t, tg] (by rw [tot3]; omega)
    rw [tot3] at h2
    simp only [List.length_cons, List.length_nil] at h2
    omega
  · exact Nat.zero_le _

set_option maxRecDepth 20000 in
set_option maxHeartbeats 4000000 in
theorem bytes_any (g n : Int) (t tg b : List UInt8) (w : World) (he : Env w) (hb : EnvB w) (htl : t.length ≤ 140737488351232) (hbl : b.length ≤ 140737488351232) :
    Calls Tryd.prog 5 #[.agg #[.int .i64 g, .int .i64 n, .string (bs t), .string (bs tg)], .string (bs b)] w fun e W' => e = .returned (.bool true) ∧ Below w.heap.size w W' := by
  have hb1 : Below w.heap.size w (w.alloc (.cells #[.int .i64 g, .int .i64 n, .string (bs t), .string (bs tg)] 36)) := (Below.refl _ w).alloc (Nat.le_refl _) _
  have p0 : (w.alloc (.cells #[.int .i64 g, .int .i64 n, .string (bs t), .string (bs tg)] 36)).heap[w.heap.size]? = some (.cells #[.int .i64 g, .int .i64 n, .string (bs t), .string (bs tg)] 36) := heap_alloc_new _ _
  have hlp : w.heap.size < (w.alloc (.cells #[.int .i64 g, .int .i64 n, .string (bs t), .string (bs tg)] 36)).heap.size := by simp
  have hOne : ∀ W, Below w.heap.size w W → Calls Tryd.prog 13 #[] W fun e W' => e = .returned (.bool true) ∧ Below W.heap.size W W' := fun W hW => one3_any W (he.next hW).p (hb.next hW)
  have hx1 : (bs b).size ≤ 140737488351232 := by rw [bs_size]; exact hbl
  have hx2 : (bs t).size ≤ 140737488351232 := by rw [bs_size]; exact htl
  by_cases hlen : 20000 < b.length + t.length
  · have hq : decide ((20000 : Int) < ((bs b).size : Int) + ((bs t).size : Int)) = true := by rw [bs_size, bs_size]; simp; omega
    go_enter Tryd.func5, Tryd.ntmps5
    go_wp2_with (go_at_call 13; refine (hOne _ hb1).mono ?_; rintro e w2 ⟨rfl, hb2⟩)
    go_ret
    exact ⟨rfl, hb1.trans (hb2.mono hb1.size)⟩
  have hq : decide ((20000 : Int) < ((bs b).size : Int) + ((bs t).size : Int)) = false := by rw [bs_size, bs_size]; simp; omega
  have hEnc := fun W (h : EnvP W) => sEncode_any g n t tg W (by omega) h
  have hrEnc := fun W => rsEncode_any g n t tg W (by omega)
  have hDec := fun W (h : Env W) => sDecode_any b W (by omega) h
  have hrDec := fun W => rsDecode_any b W (by omega)
  have hBack : sEncE g n tg = 0 → ∀ W, Env W → Calls Tryd.prog 22 #[.string (bs (sEncV g n t tg))] W fun e W' => e = .returned (.tuple #[.agg #[.int .i64 g, .int .i64 n, .string (bs t), .string (bs tg)], .int .i64 0]) ∧ Below W.heap.size W W' := by
    intro h0 W hW
    have h := sDecode_any (sEncV g n t tg) W (sEncV_len g n t tg (by omega)) hW
    have h1 := sDec_enc (t := t) h0 (by omega)
    rw [sDecV, sDecE, h1] at h
    exact h
  have hAgain : sDecE b = 0 → ∀ W, EnvP W → Calls Tryd.prog 20 #[.agg #[.int .i64 (sDecV b).1.1, .int .i64 (sDecV b).1.2, .string (bs (sDecV b).2.1), .string (bs (sDecV b).2.2)]] W fun e W' => e = .returned (.tuple #[.string (bs b), .int .i64 0]) ∧ Below W.heap.size W W' := by
    intro h0 W hW
    have hl := sDecV_len b
    have h := sEncode_any (sDecV b).1.1 (sDecV b).1.2 (sDecV b).2.1 (sDecV b).2.2 W (by omega) hW
    rcases hd : sDecL b with _ | ⟨⟨g', n'⟩, t', tg'⟩
    · rw [sDecE, hd] at h0; cases h0
    · have hs := sDec_some hd
      rw [sDecV, hd] at h ⊢
      simp only [Option.getD_some] at h ⊢
      rw [hs.1, hs.2.1] at h
      exact h
  have hEc : sEncE g n tg = 0 ∨ (sEncE g n tg == 0) = false := by
    by_cases h : sEncE g n tg = 0
    · exact .inl h
    · exact .inr (by simpa using h)
  have hDc : sDecE b = 0 ∨ (sDecE b == 0) = false := by
    by_cases h : sDecE b = 0
    · exact .inl h
    · exact .inr (by simpa using h)
  obtain ⟨EV, hEV⟩ : ∃ x, sEncV g n t tg = x := ⟨_, rfl⟩
  obtain ⟨EE, hEE⟩ : ∃ x, sEncE g n tg = x := ⟨_, rfl⟩
  rw [hEV, hEE] at hEnc hrEnc hBack
  rw [hEE] at hEc
  obtain ⟨DE, hDE⟩ : ∃ x, sDecE b = x := ⟨_, rfl⟩
  obtain ⟨DG, hDG⟩ : ∃ x, (sDecV b).1.1 = x := ⟨_, rfl⟩
  obtain ⟨DN, hDN⟩ : ∃ x, (sDecV b).1.2 = x := ⟨_, rfl⟩
  obtain ⟨DT, hDT⟩ : ∃ x, (sDecV b).2.1 = x := ⟨_, rfl⟩
  obtain ⟨DU, hDU⟩ : ∃ x, (sDecV b).2.2 = x := ⟨_, rfl⟩
  rw [hDE, hDG, hDN, hDT, hDU] at hDec hrDec hAgain
  rw [hDE] at hDc
  clear hDE hDG hDN hDT hDU hEV hEE hlen
  have se := strs_same EV
  have sb := strs_same b
  have st := strs_same t
  have sg := strs_same tg
  have sd := strs_same DT
  have su := strs_same DU
  rcases hEc with rfl | hEc
  · rcases hDc with rfl | hDc
    · go_enter Tryd.func5, Tryd.ntmps5
      go_wp2_with fail
      refine (hEnc _ (he.next hb1).p).mono ?_
      rintro e w1 ⟨rfl, hb2⟩
      have hB1 := hb1.trans (hb2.mono hb1.size)
      have p1 := (hb2.block w.heap.size hlp).trans p0
      have hl1 : w.heap.size < w1.heap.size := (Array.getElem?_eq_some_iff.1 p1).1
      have x0 := cellB p1 0 (.int .i64 g) rfl
      have x1 := cellB p1 1 (.int .i64 n) rfl
      have x2 := cellB p1 2 (.string (bs t)) rfl
      have x3 := cellB p1 3 (.string (bs tg)) rfl
      clear hb2 p0 hlp hb1 hEnc
      go_wp2_with fail
      refine (hrEnc _).mono ?_
      rintro e w2 ⟨rfl, hb3⟩
      have hB2 := hB1.trans (hb3.mono hB1.size)
      have p2 := (hb3.block w.heap.size hl1).trans p1
      have hl2 : w.heap.size < w2.heap.size := (Array.getElem?_eq_some_iff.1 p2).1
      clear hb3 p1 hrEnc x0 x1 x2 x3 hl1
      go_wp2_with fail
      refine (hDec _ (he.next hB2)).mono ?_
      rintro e w3 ⟨rfl, hb4⟩
      have hB3 := hB2.trans (hb4.mono hB2.size)
      have p3 := (hb4.block w.heap.size hl2).trans p2
      have hl3 : w.heap.size < w3.heap.size := (Array.getElem?_eq_some_iff.1 p3).1
      have q3 : (w3.alloc (.cells #[.int .i64 DG, .int .i64 DN, .string (bs DT), .string (bs DU)] 36)).heap[w3.heap.size]? = some (.cells #[.int .i64 DG, .int .i64 DN, .string (bs DT), .string (bs DU)] 36) := heap_alloc_new _ _
      have hbx : Below w3.heap.size w3 (w3.alloc (.cells #[.int .i64 DG, .int .i64 DN, .string (bs DT), .string (bs DU)] 36)) := (Below.refl _ _).alloc (Nat.le_refl _) _
      have hlx : w3.heap.size < (w3.alloc (.cells #[.int .i64 DG, .int .i64 DN, .string (bs DT), .string (bs DU)] 36)).heap.size := by simp
      clear hb4 p2 hDec hl2
      go_wp2_with fail
      obtain ⟨W3, hW3⟩ : ∃ W, w3.alloc (.cells #[.int .i64 DG, .int .i64 DN, .string (bs DT), .string (bs DU)] 36) = W := ⟨_, rfl⟩
      rw [hW3] at hbx q3 hlx ⊢
      clear hW3
      have hBx := hB3.trans (hbx.mono hB3.size)
      have px := (hbx.block w.heap.size hl3).trans p3
      have hlX : w.heap.size < W3.heap.size := Nat.lt_of_lt_of_le hl3 hbx.size
      refine (hrDec _).mono ?_
      rintro e w4 ⟨rfl, hb5⟩
      have hB4 := hBx.trans (hb5.mono hBx.size)
      have p4 := (hb5.block w.heap.size hlX).trans px
      have q4 := (hb5.block w3.heap.size hlx).trans q3
      have hl4 : w.heap.size < w4.heap.size := (Array.getElem?_eq_some_iff.1 p4).1
      have hl4x : w3.heap.size < w4.heap.size := (Array.getElem?_eq_some_iff.1 q4).1
      have y0 := cellB q4 0 (.int .i64 DG) rfl
      have y1 := cellB q4 1 (.int .i64 DN) rfl
      have y2 := cellB q4 2 (.string (bs DT)) rfl
      have y3 := cellB q4 3 (.string (bs DU)) rfl
      have hby : Below w4.heap.size w4 (w4.alloc (.cells #[.int .i64 DG, .int .i64 DN, .string (bs DT), .string (bs DU)] 50)) := (Below.refl _ _).alloc (Nat.le_refl _) _
      have hBy := hB4.trans (hby.mono hB4.size)
      have py := (hby.block w.heap.size hl4).trans p4
      have qy := (hby.block w3.heap.size hl4x).trans q4
      clear hb5 px q3 p3 hrDec hbx hB3 hBx
      go_wp2_with fail
      obtain ⟨W5, hW5⟩ : ∃ W, w4.alloc (.cells #[.int .i64 DG, .int .i64 DN, .string (bs DT), .string (bs DU)] 50) = W := ⟨_, rfl⟩
      rw [hW5] at hby hBy py qy ⊢
      clear hW5
      have hl5 : w.heap.size < W5.heap.size := (Array.getElem?_eq_some_iff.1 py).1
      have hl5x : w3.heap.size < W5.heap.size := (Array.getElem?_eq_some_iff.1 qy).1
      refine (hBack trivial _ (he.next hBy)).mono ?_
      rintro e w6 ⟨rfl, hb6⟩
      have hB6 := hBy.trans (hb6.mono hBy.size)
      have p6 := (hb6.block w.heap.size hl5).trans py
      have q6 := (hb6.block w3.heap.size hl5x).trans qy
      have hl6 : w.heap.size < w6.heap.size := (Array.getElem?_eq_some_iff.1 p6).1
      have hl6x : w3.heap.size < w6.heap.size := (Array.getElem?_eq_some_iff.1 q6).1
      have k0 := cellB q6 0 (.int .i64 DG) rfl
      have k1 := cellB q6 1 (.int .i64 DN) rfl
      have k2 := cellB q6 2 (.string (bs DT)) rfl
      have k3 := cellB q6 3 (.string (bs DU)) rfl
      have u0 := cellB p6 0 (.int .i64 g) rfl
      have u1 := cellB p6 1 (.int .i64 n) rfl
      have u2 := cellB p6 2 (.string (bs t)) rfl
      have u3 := cellB p6 3 (.string (bs tg)) rfl
      have hbz : Below w6.heap.size w6 (w6.alloc (.cells #[.int .i64 g, .int .i64 n, .string (bs t), .string (bs tg)] 36)) := (Below.refl _ _).alloc (Nat.le_refl _) _
      have hBz := hB6.trans (hbz.mono hB6.size)
      have qz := (hbz.block w3.heap.size hl6x).trans q6
      clear y0 y1 y2 y3 hb6 py qy hBack
      go_wp2_with fail
      obtain ⟨W7, hW7⟩ : ∃ W, w6.alloc (.cells #[.int .i64 g, .int .i64 n, .string (bs t), .string (bs tg)] 36) = W := ⟨_, rfl⟩
      rw [hW7] at hBz ⊢
      clear hW7
      refine (hAgain trivial _ (he.next hBz).p).mono ?_
      rintro e w8 ⟨rfl, hb8⟩
      have hB8 := hBz.trans (hb8.mono hBz.size)
      go_wp2_with (go_at_call 13; refine (hOne w8 hB8).mono ?_; rintro e w9 ⟨rfl, hb9⟩)
      go_ret
      exact ⟨rfl, hB8.trans (hb9.mono hB8.size)⟩
    · go_enter Tryd.func5, Tryd.ntmps5
      go_wp2_with fail
      refine (hEnc _ (he.next hb1).p).mono ?_
      rintro e w1 ⟨rfl, hb2⟩
      have hB1 := hb1.trans (hb2.mono hb1.size)
      have p1 := (hb2.block w.heap.size hlp).trans p0
      have hl1 : w.heap.size < w1.heap.size := (Array.getElem?_eq_some_iff.1 p1).1
      have x0 := cellB p1 0 (.int .i64 g) rfl
      have x1 := cellB p1 1 (.int .i64 n) rfl
      have x2 := cellB p1 2 (.string (bs t)) rfl
      have x3 := cellB p1 3 (.string (bs tg)) rfl
      clear hb2 p0 hlp hb1 hEnc
      go_wp2_with fail
      refine (hrEnc _).mono ?_
      rintro e w2 ⟨rfl, hb3⟩
      have hB2 := hB1.trans (hb3.mono hB1.size)
      have p2 := (hb3.block w.heap.size hl1).trans p1
      have hl2 : w.heap.size < w2.heap.size := (Array.getElem?_eq_some_iff.1 p2).1
      clear hb3 p1 hrEnc x0 x1 x2 x3 hl1
      go_wp2_with fail
      refine (hDec _ (he.next hB2)).mono ?_
      rintro e w3 ⟨rfl, hb4⟩
      have hB3 := hB2.trans (hb4.mono hB2.size)
      have p3 := (hb4.block w.heap.size hl2).trans p2
      have hl3 : w.heap.size < w3.heap.size := (Array.getElem?_eq_some_iff.1 p3).1
      have q3 : (w3.alloc (.cells #[.int .i64 DG, .int .i64 DN, .string (bs DT), .string (bs DU)] 36)).heap[w3.heap.size]? = some (.cells #[.int .i64 DG, .int .i64 DN, .string (bs DT), .string (bs DU)] 36) := heap_alloc_new _ _
      have hbx : Below w3.heap.size w3 (w3.alloc (.cells #[.int .i64 DG, .int .i64 DN, .string (bs DT), .string (bs DU)] 36)) := (Below.refl _ _).alloc (Nat.le_refl _) _
      have hlx : w3.heap.size < (w3.alloc (.cells #[.int .i64 DG, .int .i64 DN, .string (bs DT), .string (bs DU)] 36)).heap.size := by simp
      clear hb4 p2 hDec hl2
      go_wp2_with fail
      obtain ⟨W3, hW3⟩ : ∃ W, w3.alloc (.cells #[.int .i64 DG, .int .i64 DN, .string (bs DT), .string (bs DU)] 36) = W := ⟨_, rfl⟩
      rw [hW3] at hbx q3 hlx ⊢
      clear hW3
      have hBx := hB3.trans (hbx.mono hB3.size)
      have px := (hbx.block w.heap.size hl3).trans p3
      have hlX : w.heap.size < W3.heap.size := Nat.lt_of_lt_of_le hl3 hbx.size
      refine (hrDec _).mono ?_
      rintro e w4 ⟨rfl, hb5⟩
      have hB4 := hBx.trans (hb5.mono hBx.size)
      have p4 := (hb5.block w.heap.size hlX).trans px
      have q4 := (hb5.block w3.heap.size hlx).trans q3
      have hl4 : w.heap.size < w4.heap.size := (Array.getElem?_eq_some_iff.1 p4).1
      have hl4x : w3.heap.size < w4.heap.size := (Array.getElem?_eq_some_iff.1 q4).1
      have y0 := cellB q4 0 (.int .i64 DG) rfl
      have y1 := cellB q4 1 (.int .i64 DN) rfl
      have y2 := cellB q4 2 (.string (bs DT)) rfl
      have y3 := cellB q4 3 (.string (bs DU)) rfl
      have hby : Below w4.heap.size w4 (w4.alloc (.cells #[.int .i64 DG, .int .i64 DN, .string (bs DT), .string (bs DU)] 50)) := (Below.refl _ _).alloc (Nat.le_refl _) _
      have hBy := hB4.trans (hby.mono hB4.size)
      have py := (hby.block w.heap.size hl4).trans p4
      have qy := (hby.block w3.heap.size hl4x).trans q4
      clear hb5 px q3 p3 hrDec hbx hB3 hBx
      go_wp2_with fail
      obtain ⟨W5, hW5⟩ : ∃ W, w4.alloc (.cells #[.int .i64 DG, .int .i64 DN, .string (bs DT), .string (bs DU)] 50) = W := ⟨_, rfl⟩
      rw [hW5] at hby hBy py qy ⊢
      clear hW5
      have hl5 : w.heap.size < W5.heap.size := (Array.getElem?_eq_some_iff.1 py).1
      have hl5x : w3.heap.size < W5.heap.size := (Array.getElem?_eq_some_iff.1 qy).1
      refine (hBack trivial _ (he.next hBy)).mono ?_
      rintro e w6 ⟨rfl, hb6⟩
      have hB6 := hBy.trans (hb6.mono hBy.size)
      have p6 := (hb6.block w.heap.size hl5).trans py
      have q6 := (hb6.block w3.heap.size hl5x).trans qy
      have hl6 : w.heap.size < w6.heap.size := (Array.getElem?_eq_some_iff.1 p6).1
      have hl6x : w3.heap.size < w6.heap.size := (Array.getElem?_eq_some_iff.1 q6).1
      have u0 := cellB p6 0 (.int .i64 g) rfl
      have u1 := cellB p6 1 (.int .i64 n) rfl
      have u2 := cellB p6 2 (.string (bs t)) rfl
      have u3 := cellB p6 3 (.string (bs tg)) rfl
      have hbz : Below w6.heap.size w6 (w6.alloc (.cells #[.int .i64 g, .int .i64 n, .string (bs t), .string (bs tg)] 36)) := (Below.refl _ _).alloc (Nat.le_refl _) _
      have hBz := hB6.trans (hbz.mono hB6.size)
      have qz := (hbz.block w3.heap.size hl6x).trans q6
      clear y0 y1 y2 y3 hb6 py qy hBack
      go_wp2_with fail
      obtain ⟨W7, hW7⟩ : ∃ W, w6.alloc (.cells #[.int .i64 g, .int .i64 n, .string (bs t), .string (bs tg)] 36) = W := ⟨_, rfl⟩
      rw [hW7] at hBz ⊢
      clear hW7
      refine (hOne W7 hBz).mono ?_
      rintro e w9 ⟨rfl, hb9⟩
      go_wp2
      go_ret
      exact ⟨rfl, hBz.trans (hb9.mono hBz.size)⟩
  · rcases hDc with rfl | hDc
    · go_enter Tryd.func5, Tryd.ntmps5
      go_wp2_with fail
      refine (hEnc _ (he.next hb1).p).mono ?_
      rintro e w1 ⟨rfl, hb2⟩
      have hB1 := hb1.trans (hb2.mono hb1.size)
      have p1 := (hb2.block w.heap.size hlp).trans p0
      have hl1 : w.heap.size < w1.heap.size := (Array.getElem?_eq_some_iff.1 p1).1
      have x0 := cellB p1 0 (.int .i64 g) rfl
      have x1 := cellB p1 1 (.int .i64 n) rfl
      have x2 := cellB p1 2 (.string (bs t)) rfl
      have x3 := cellB p1 3 (.string (bs tg)) rfl
      clear hb2 p0 hlp hb1 hEnc
      go_wp2_with fail
      refine (hrEnc _).mono ?_
      rintro e w2 ⟨rfl, hb3⟩
      have hB2 := hB1.trans (hb3.mono hB1.size)
      have p2 := (hb3.block w.heap.size hl1).trans p1
      have hl2 : w.heap.size < w2.heap.size := (Array.getElem?_eq_some_iff.1 p2).1
      clear hb3 p1 hrEnc x0 x1 x2 x3 hl1
      go_wp2_with fail
      refine (hDec _ (he.next hB2)).mono ?_
      rintro e w3 ⟨rfl, hb4⟩
      have hB3 := hB2.trans (hb4.mono hB2.size)
      have p3 := (hb4.block w.heap.size hl2).trans p2
      have hl3 : w.heap.size < w3.heap.size := (Array.getElem?_eq_some_iff.1 p3).1
      have q3 : (w3.alloc (.cells #[.int .i64 DG, .int .i64 DN, .string (bs DT), .string (bs DU)] 36)).heap[w3.heap.size]? = some (.cells #[.int .i64 DG, .int .i64 DN, .string (bs DT), .string (bs DU)] 36) := heap_alloc_new _ _
      have hbx : Below w3.heap.size w3 (w3.alloc (.cells #[.int .i64 DG, .int .i64 DN, .string (bs DT), .string (bs DU)] 36)) := (Below.refl _ _).alloc (Nat.le_refl _) _
      have hlx : w3.heap.size < (w3.alloc (.cells #[.int .i64 DG, .int .i64 DN, .string (bs DT), .string (bs DU)] 36)).heap.size := by simp
      clear hb4 p2 hDec hl2
      go_wp2_with fail
      obtain ⟨W3, hW3⟩ : ∃ W, w3.alloc (.cells #[.int .i64 DG, .int .i64 DN, .string (bs DT), .string (bs DU)] 36) = W := ⟨_, rfl⟩
      rw [hW3] at hbx q3 hlx ⊢
      clear hW3
      have hBx := hB3.trans (hbx.mono hB3.size)
      have px := (hbx.block w.heap.size hl3).trans p3
      have hlX : w.heap.size < W3.heap.size := Nat.lt_of_lt_of_le hl3 hbx.size
      refine (hrDec _).mono ?_
      rintro e w4 ⟨rfl, hb5⟩
      have hB4 := hBx.trans (hb5.mono hBx.size)
      have p4 := (hb5.block w.heap.size hlX).trans px
      have q4 := (hb5.block w3.heap.size hlx).trans q3
      have hl4 : w.heap.size < w4.heap.size := (Array.getElem?_eq_some_iff.1 p4).1
      have hl4x : w3.heap.size < w4.heap.size := (Array.getElem?_eq_some_iff.1 q4).1
      have y0 := cellB q4 0 (.int .i64 DG) rfl
      have y1 := cellB q4 1 (.int .i64 DN) rfl
      have y2 := cellB q4 2 (.string (bs DT)) rfl
      have y3 := cellB q4 3 (.string (bs DU)) rfl
      have hby : Below w4.heap.size w4 (w4.alloc (.cells #[.int .i64 DG, .int .i64 DN, .string (bs DT), .string (bs DU)] 50)) := (Below.refl _ _).alloc (Nat.le_refl _) _
      have hBy := hB4.trans (hby.mono hB4.size)
      have py := (hby.block w.heap.size hl4).trans p4
      have qy := (hby.block w3.heap.size hl4x).trans q4
      clear hb5 px q3 p3 hrDec hbx hB3 hBx
      go_wp2_with fail
      obtain ⟨W5, hW5⟩ : ∃ W, w4.alloc (.cells #[.int .i64 DG, .int .i64 DN, .string (bs DT), .string (bs DU)] 50) = W := ⟨_, rfl⟩
      rw [hW5] at hBy ⊢
      clear hW5
      refine (hAgain trivial _ (he.next hBy).p).mono ?_
      rintro e w8 ⟨rfl, hb8⟩
      have hB8 := hBy.trans (hb8.mono hBy.size)
      go_wp2_with (go_at_call 13; refine (hOne w8 hB8).mono ?_; rintro e w9 ⟨rfl, hb9⟩)
      go_ret
      exact ⟨rfl, hB8.trans (hb9.mono hB8.size)⟩
    · go_enter Tryd.func5, Tryd.ntmps5
      go_wp2_with fail
      refine (hEnc _ (he.next hb1).p).mono ?_
      rintro e w1 ⟨rfl, hb2⟩
      have hB1 := hb1.trans (hb2.mono hb1.size)
      have p1 := (hb2.block w.heap.size hlp).trans p0
      have hl1 : w.heap.size < w1.heap.size := (Array.getElem?_eq_some_iff.1 p1).1
      have x0 := cellB p1 0 (.int .i64 g) rfl
      have x1 := cellB p1 1 (.int .i64 n) rfl
      have x2 := cellB p1 2 (.string (bs t)) rfl
      have x3 := cellB p1 3 (.string (bs tg)) rfl
      clear hb2 p0 hlp hb1 hEnc
      go_wp2_with fail
      refine (hrEnc _).mono ?_
      rintro e w2 ⟨rfl, hb3⟩
      have hB2 := hB1.trans (hb3.mono hB1.size)
      have p2 := (hb3.block w.heap.size hl1).trans p1
      have hl2 : w.heap.size < w2.heap.size := (Array.getElem?_eq_some_iff.1 p2).1
      clear hb3 p1 hrEnc x0 x1 x2 x3 hl1
      go_wp2_with fail
      refine (hDec _ (he.next hB2)).mono ?_
      rintro e w3 ⟨rfl, hb4⟩
      have hB3 := hB2.trans (hb4.mono hB2.size)
      have p3 := (hb4.block w.heap.size hl2).trans p2
      have hl3 : w.heap.size < w3.heap.size := (Array.getElem?_eq_some_iff.1 p3).1
      have q3 : (w3.alloc (.cells #[.int .i64 DG, .int .i64 DN, .string (bs DT), .string (bs DU)] 36)).heap[w3.heap.size]? = some (.cells #[.int .i64 DG, .int .i64 DN, .string (bs DT), .string (bs DU)] 36) := heap_alloc_new _ _
      have hbx : Below w3.heap.size w3 (w3.alloc (.cells #[.int .i64 DG, .int .i64 DN, .string (bs DT), .string (bs DU)] 36)) := (Below.refl _ _).alloc (Nat.le_refl _) _
      have hlx : w3.heap.size < (w3.alloc (.cells #[.int .i64 DG, .int .i64 DN, .string (bs DT), .string (bs DU)] 36)).heap.size := by simp
      clear hb4 p2 hDec hl2
      go_wp2_with fail
      obtain ⟨W3, hW3⟩ : ∃ W, w3.alloc (.cells #[.int .i64 DG, .int .i64 DN, .string (bs DT), .string (bs DU)] 36) = W := ⟨_, rfl⟩
      rw [hW3] at hbx q3 hlx ⊢
      clear hW3
      have hBx := hB3.trans (hbx.mono hB3.size)
      have px := (hbx.block w.heap.size hl3).trans p3
      have hlX : w.heap.size < W3.heap.size := Nat.lt_of_lt_of_le hl3 hbx.size
      refine (hrDec _).mono ?_
      rintro e w4 ⟨rfl, hb5⟩
      have hB4 := hBx.trans (hb5.mono hBx.size)
      have p4 := (hb5.block w.heap.size hlX).trans px
      have q4 := (hb5.block w3.heap.size hlx).trans q3
      have hl4 : w.heap.size < w4.heap.size := (Array.getElem?_eq_some_iff.1 p4).1
      have hl4x : w3.heap.size < w4.heap.size := (Array.getElem?_eq_some_iff.1 q4).1
      have y0 := cellB q4 0 (.int .i64 DG) rfl
      have y1 := cellB q4 1 (.int .i64 DN) rfl
      have y2 := cellB q4 2 (.string (bs DT)) rfl
      have y3 := cellB q4 3 (.string (bs DU)) rfl
      have hby : Below w4.heap.size w4 (w4.alloc (.cells #[.int .i64 DG, .int .i64 DN, .string (bs DT), .string (bs DU)] 50)) := (Below.refl _ _).alloc (Nat.le_refl _) _
      have hBy := hB4.trans (hby.mono hB4.size)
      have py := (hby.block w.heap.size hl4).trans p4
      have qy := (hby.block w3.heap.size hl4x).trans q4
      clear hb5 px q3 p3 hrDec hbx hB3 hBx
      go_wp2_with fail
      obtain ⟨W5, hW5⟩ : ∃ W, w4.alloc (.cells #[.int .i64 DG, .int .i64 DN, .string (bs DT), .string (bs DU)] 50) = W := ⟨_, rfl⟩
      rw [hW5] at hBy ⊢
      clear hW5
      refine (hOne W5 hBy).mono ?_
      rintro e w9 ⟨rfl, hb9⟩
      go_wp2
      go_ret
      exact ⟨rfl, hBy.trans (hb9.mono hBy.size)⟩
end Go.Proofs.YtoniohmceaflnaaDoor
