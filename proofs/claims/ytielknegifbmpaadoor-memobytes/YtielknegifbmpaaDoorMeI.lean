/- The law MemoBytes, walked. -/
import Derived.Test.YtielknegifbmpaaDoorMeH
import Derived.Test.YtielknegifbmpaaDoorMfE
import Derived.Test.YtielknegifbmpaaDoorMfG
import Derived.Deep.RegionHeld3
namespace Go.Proofs.YtielknegifbmpaaDoor
open Go.RowKit
attribute [local go_sem ↓] Go.wp_at_zero Go.wp_at_succ

theorem deV_len (s : List UInt8) : (deV s).2.2.2.2.2.1.length ≤ s.length ∧ (deV s).2.2.2.2.2.2.length ≤ s.length := by
  rcases h : deL s with _ | ⟨k, g, n, v, m, t, tg⟩
  · rw [deV, h]; exact ⟨Nat.zero_le _, Nat.zero_le _⟩
  · rw [deV, h]
    have h3 := (me_de h).2.2
    exact ⟨texts_mem (by rw [h3]; simp [meTs]), texts_mem (by rw [h3]; simp [meTs])⟩

set_option maxRecDepth 20000 in
set_option maxHeartbeats 8000000 in
theorem bytes_any (k g n v m : Int) (t tg b : List UInt8) (w : World) (he : EnvM w) :
    Calls Tryd.prog 3 #[.agg #[.int .i64 k, .int .i64 g, .int .i64 n, .int .i64 v, .int .i64 m, .string (bs t), .string (bs tg)], .string (bs b)] w fun e W' => e = .returned (.bool true) ∧ Below w.heap.size w W' := by
  have hb1 : Below w.heap.size w (w.alloc (.cells #[.int .i64 k, .int .i64 g, .int .i64 n, .int .i64 v, .int .i64 m, .string (bs t), .string (bs tg)] 25)) := (Below.refl _ w).alloc (Nat.le_refl _) _
  have p0 : (w.alloc (.cells #[.int .i64 k, .int .i64 g, .int .i64 n, .int .i64 v, .int .i64 m, .string (bs t), .string (bs tg)] 25)).heap[w.heap.size]? = some (.cells #[.int .i64 k, .int .i64 g, .int .i64 n, .int .i64 v, .int .i64 m, .string (bs t), .string (bs tg)] 25) := heap_alloc_new _ _
  have hlp : w.heap.size < (w.alloc (.cells #[.int .i64 k, .int .i64 g, .int .i64 n, .int .i64 v, .int .i64 m, .string (bs t), .string (bs tg)] 25)).heap.size := by simp
  have hOne : ∀ W, Below w.heap.size w W → Calls Tryd.prog 5 #[] W fun e W' => e = .returned (.bool true) ∧ Below W.heap.size W W' := fun W hW => wants_any W (he.next hW)
  by_cases h1 : 40000 < t.length
  · have hq : decide ((40000 : Int) < ((bs t).size : Int)) = true := by rw [bs_size]; exact decide_eq_true (by omega)
    clear h1
    go_enter Tryd.func3, Tryd.ntmps3
    go_wp2_with (first | (go_at_call 5; refine (hOne _ hb1).mono ?_; rintro e w2 ⟨rfl, hb2⟩))
    go_ret
    exact ⟨rfl, hb1.trans (hb2.mono hb1.size)⟩
  have hq : decide ((40000 : Int) < ((bs t).size : Int)) = false := by rw [bs_size]; exact decide_eq_false (by omega)
  by_cases h2 : 40000 < b.length
  · have hq2 : decide ((40000 : Int) < ((bs b).size : Int)) = true := by rw [bs_size]; exact decide_eq_true (by omega)
    clear h1 h2
    go_enter Tryd.func3, Tryd.ntmps3
    go_wp2_with (first | (go_at_call 5; refine (hOne _ hb1).mono ?_; rintro e w2 ⟨rfl, hb2⟩))
    go_ret
    exact ⟨rfl, hb1.trans (hb2.mono hb1.size)⟩
  have hq2 : decide ((40000 : Int) < ((bs b).size : Int)) = false := by rw [bs_size]; exact decide_eq_false (by omega)
  have hEnc := fun W (h : EnvM W) => Encode_any k g n v m t tg W h
  have hrEnc := fun W => rEncode_any k g n v m t tg W
  have hDec := fun W (h : EnvM W) => Decode_any b W (by omega) h
  have hrDec := fun W => rDecode_any b W (by omega)
  have hC1 := fun W => conv_any k g n v m t tg W
  have hC2 := fun W => conv_any (deV b).1 (deV b).2.1 (deV b).2.2.1 (deV b).2.2.2.1 (deV b).2.2.2.2.1 (deV b).2.2.2.2.2.1 (deV b).2.2.2.2.2.2 W
  have hBack : cE k g n v m t.length tg.length = 0 → ∀ W, EnvM W → Calls Tryd.prog 9 #[.string (bs (meV k g n v m t tg))] W fun e W' => e = .returned (.tuple #[.agg #[.int .i64 k, .int .i64 g, .int .i64 n, .int .i64 v, .int .i64 m, .string (bs t), .string (bs tg)], .int .i64 0]) ∧ Below W.heap.size W W' := by
    intro h0 W hW
    have hl := me_len (k := k) (g := g) (n := n) (v := v) (m := m) (t := t) (tg := tg)
    have h := Decode_any (meV k g n v m t tg) W (by omega) hW
    have hd := de_me h0
    rw [deV, deE, meV, if_pos h0, hd] at h
    rw [meV, if_pos h0]
    exact h
  have hAgain : deE b = 0 → ∀ W, EnvM W → Calls Tryd.prog 6 #[.agg #[.int .i64 (deV b).1, .int .i64 (deV b).2.1, .int .i64 (deV b).2.2.1, .int .i64 (deV b).2.2.2.1, .int .i64 (deV b).2.2.2.2.1, .string (bs (deV b).2.2.2.2.2.1), .string (bs (deV b).2.2.2.2.2.2)]] W fun e W' => e = .returned (.tuple #[.string (bs b), .int .i64 0]) ∧ Below W.heap.size W W' := by
    intro h0 W hW
    rcases hd : deL b with _ | ⟨k', g', n', v', m', t', tg'⟩
    · rw [deE, hd] at h0; cases h0
    · obtain ⟨a1, a2, a3⟩ := me_de hd
      have h := Encode_any k' g' n' v' m' t' tg' W hW
      rw [meV, if_pos a1, a1, a2] at h
      rw [deV, hd]
      exact h
  have hEc : cE k g n v m t.length tg.length = 0 ∨ (cE k g n v m t.length tg.length == 0) = false := by
    by_cases h : cE k g n v m t.length tg.length = 0
    · exact .inl h
    · exact .inr (by simpa using h)
  have hDc : deE b = 0 ∨ (deE b == 0) = false := by
    by_cases h : deE b = 0
    · exact .inl h
    · exact .inr (by simpa using h)
  obtain ⟨EV, hEV⟩ : ∃ x, meV k g n v m t tg = x := ⟨_, rfl⟩
  obtain ⟨EE, hEE⟩ : ∃ x, cE k g n v m t.length tg.length = x := ⟨_, rfl⟩
  rw [hEV, hEE] at hEnc hrEnc hBack
  rw [hEE] at hEc
  obtain ⟨DE, hDE⟩ : ∃ x, deE b = x := ⟨_, rfl⟩
  obtain ⟨D1, hD1⟩ : ∃ x, (deV b).1 = x := ⟨_, rfl⟩
  obtain ⟨D2, hD2⟩ : ∃ x, (deV b).2.1 = x := ⟨_, rfl⟩
  obtain ⟨D3, hD3⟩ : ∃ x, (deV b).2.2.1 = x := ⟨_, rfl⟩
  obtain ⟨D4, hD4⟩ : ∃ x, (deV b).2.2.2.1 = x := ⟨_, rfl⟩
  obtain ⟨D5, hD5⟩ : ∃ x, (deV b).2.2.2.2.1 = x := ⟨_, rfl⟩
  obtain ⟨DT, hDT⟩ : ∃ x, (deV b).2.2.2.2.2.1 = x := ⟨_, rfl⟩
  obtain ⟨DU, hDU⟩ : ∃ x, (deV b).2.2.2.2.2.2 = x := ⟨_, rfl⟩
  rw [hDE, hD1, hD2, hD3, hD4, hD5, hDT, hDU] at hDec hrDec hAgain
  rw [hD1, hD2, hD3, hD4, hD5, hDT, hDU] at hC2
  rw [hDE] at hDc
  clear hDE hD1 hD2 hD3 hD4 hD5 hDT hDU hEV hEE h1 h2
  have se := strs_same EV
  have sb := strs_same b
  have st := strs_same t
  have sg := strs_same tg
  have sd := strs_same DT
  have su := strs_same DU
  rcases hEc with rfl | hEc
  · rcases hDc with rfl | hDc
    · go_enter Tryd.func3, Tryd.ntmps3
      go_wp2_with fail
      refine (hEnc _ (he.next hb1)).mono ?_
      clear hEnc
      rintro e w1 ⟨rfl, hb2⟩
      have hB1 := hb1.trans (hb2.mono hb1.size)
      have p1 := (hb2.block w.heap.size hlp).trans p0
      have hl1 : w.heap.size < w1.heap.size := (Array.getElem?_eq_some_iff.1 p1).1
      have x0 := cellB p1 0 (.int .i64 k) rfl
      have x1 := cellB p1 1 (.int .i64 g) rfl
      have x2 := cellB p1 2 (.int .i64 n) rfl
      have x3 := cellB p1 3 (.int .i64 v) rfl
      have x4 := cellB p1 4 (.int .i64 m) rfl
      have x5 := cellB p1 5 (.string (bs t)) rfl
      have x6 := cellB p1 6 (.string (bs tg)) rfl
      clear hb2 p0 hlp hb1
      go_wp2_with fail
      refine (hC1 _).mono ?_
      clear hC1
      rintro e w2 ⟨rfl, hb3⟩
      have hB2 := hB1.trans (hb3.mono hB1.size)
      have p2 := (hb3.block w.heap.size hl1).trans p1
      have hl2 : w.heap.size < w2.heap.size := (Array.getElem?_eq_some_iff.1 p2).1
      clear hb3 p1 hl1 hB1 x0 x1 x2 x3 x4 x5 x6
      go_wp2_with fail
      refine (hrEnc _).mono ?_
      clear hrEnc
      rintro e w3 ⟨rfl, hb4⟩
      have hB3 := hB2.trans (hb4.mono hB2.size)
      have p3 := (hb4.block w.heap.size hl2).trans p2
      have hl3 : w.heap.size < w3.heap.size := (Array.getElem?_eq_some_iff.1 p3).1
      clear hb4 p2 hl2 hB2
      go_wp2_with fail
      refine (hDec _ (he.next hB3)).mono ?_
      clear hDec
      rintro e w4 ⟨rfl, hb5⟩
      have hB4 := hB3.trans (hb5.mono hB3.size)
      have p4 := (hb5.block w.heap.size hl3).trans p3
      have hl4 : w.heap.size < w4.heap.size := (Array.getElem?_eq_some_iff.1 p4).1
      have hbx : Below w4.heap.size w4 (w4.alloc (.cells #[.int .i64 D1, .int .i64 D2, .int .i64 D3, .int .i64 D4, .int .i64 D5, .string (bs DT), .string (bs DU)] 25)) := (Below.refl _ _).alloc (Nat.le_refl _) _
      have HQ : Hid ((w4.alloc (.cells #[.int .i64 D1, .int .i64 D2, .int .i64 D3, .int .i64 D4, .int .i64 D5, .string (bs DT), .string (bs DU)] 25)).heap[w4.heap.size]? = some (.cells #[.int .i64 D1, .int .i64 D2, .int .i64 D3, .int .i64 D4, .int .i64 D5, .string (bs DT), .string (bs DU)] 25)) := heap_alloc_new _ _
      have HLx : Hid (w4.heap.size < (w4.alloc (.cells #[.int .i64 D1, .int .i64 D2, .int .i64 D3, .int .i64 D4, .int .i64 D5, .string (bs DT), .string (bs DU)] 25)).heap.size) := by show _ < _; simp
      have HBx : Hid (Below w.heap.size w (w4.alloc (.cells #[.int .i64 D1, .int .i64 D2, .int .i64 D3, .int .i64 D4, .int .i64 D5, .string (bs DT), .string (bs DU)] 25))) := hB4.trans (hbx.mono hB4.size)
      have HPx : Hid ((w4.alloc (.cells #[.int .i64 D1, .int .i64 D2, .int .i64 D3, .int .i64 D4, .int .i64 D5, .string (bs DT), .string (bs DU)] 25)).heap[w.heap.size]? = some (.cells #[.int .i64 k, .int .i64 g, .int .i64 n, .int .i64 v, .int .i64 m, .string (bs t), .string (bs tg)] 25)) := (hbx.block _ hl4).trans p4
      clear hb5 p3 hl3 hB3 p4 hl4 hB4 hbx
      go_wp2_with fail
      obtain ⟨W4, hW4⟩ : ∃ W, w4.alloc (.cells #[.int .i64 D1, .int .i64 D2, .int .i64 D3, .int .i64 D4, .int .i64 D5, .string (bs DT), .string (bs DU)] 25) = W := ⟨_, rfl⟩
      rw [hW4] at HQ HLx HBx HPx ⊢
      clear hW4
      obtain ⟨A, hA⟩ : ∃ A, w4.heap.size = A := ⟨_, rfl⟩
      rw [hA] at HQ HLx ⊢
      clear hA
      refine (hrDec _).mono ?_
      clear hrDec
      rintro e w5 ⟨rfl, hb6⟩
      have hb7 : Below w5.heap.size w5 (w5.alloc (.cells #[.int .i64 D1, .int .i64 D2, .int .i64 D3, .int .i64 D4, .int .i64 D5, .string (bs DT), .string (bs DU)] 32)) := (Below.refl _ _).alloc (Nat.le_refl _) _
      have HR : Hid ((w5.alloc (.cells #[.int .i64 D1, .int .i64 D2, .int .i64 D3, .int .i64 D4, .int .i64 D5, .string (bs DT), .string (bs DU)] 32)).heap[w5.heap.size]? = some (.cells #[.int .i64 D1, .int .i64 D2, .int .i64 D3, .int .i64 D4, .int .i64 D5, .string (bs DT), .string (bs DU)] 32)) := heap_alloc_new _ _
      have HLy : Hid (w5.heap.size < (w5.alloc (.cells #[.int .i64 D1, .int .i64 D2, .int .i64 D3, .int .i64 D4, .int .i64 D5, .string (bs DT), .string (bs DU)] 32)).heap.size) := by show _ < _; simp
      have HB67 : Hid (Below W4.heap.size W4 (w5.alloc (.cells #[.int .i64 D1, .int .i64 D2, .int .i64 D3, .int .i64 D4, .int .i64 D5, .string (bs DT), .string (bs DU)] 32))) := hb6.trans (hb7.mono hb6.size)
      clear hb6 hb7
      go_wp2_with fail
      obtain ⟨W5, hW5⟩ : ∃ W, w5.alloc (.cells #[.int .i64 D1, .int .i64 D2, .int .i64 D3, .int .i64 D4, .int .i64 D5, .string (bs DT), .string (bs DU)] 32) = W := ⟨_, rfl⟩
      rw [hW5] at HR HLy HB67 ⊢
      clear hW5
      obtain ⟨E, hE⟩ : ∃ E, w5.heap.size = E := ⟨_, rfl⟩
      rw [hE] at HR HLy ⊢
      clear hE
      have HB5 : Hid (Below w.heap.size w W5) := HBx.out.trans (HB67.out.mono HBx.out.size)
      have HK : Hid (∀ W, Below W5.heap.size W5 W → (W.heap[w.heap.size]? = some (.cells #[.int .i64 k, .int .i64 g, .int .i64 n, .int .i64 v, .int .i64 m, .string (bs t), .string (bs tg)] 25) ∧ W.heap[A]? = some (.cells #[.int .i64 D1, .int .i64 D2, .int .i64 D3, .int .i64 D4, .int .i64 D5, .string (bs DT), .string (bs DU)] 25) ∧ W.heap[E]? = some (.cells #[.int .i64 D1, .int .i64 D2, .int .i64 D3, .int .i64 D4, .int .i64 D5, .string (bs DT), .string (bs DU)] 32))) := fun W hb => by
        have a1 := (HB67.out.block _ (Array.getElem?_eq_some_iff.1 HPx.out).1).trans HPx.out
        have a2 := (HB67.out.block _ HLx.out).trans HQ.out
        exact ⟨(hb.block _ (Array.getElem?_eq_some_iff.1 a1).1).trans a1, (hb.block _ (Array.getElem?_eq_some_iff.1 a2).1).trans a2, (hb.block _ HLy.out).trans HR.out⟩
      clear HQ HLx HBx HPx HR HLy HB67
      have hR1 := hC2 W5.drew
      obtain ⟨-, a9, a11⟩ := HK.out W5 (Below.refl _ _)
      have u0 := cellB a9 0 (.int .i64 D1) rfl
      have u1 := cellB a9 1 (.int .i64 D2) rfl
      have u2 := cellB a9 2 (.int .i64 D3) rfl
      have u3 := cellB a9 3 (.int .i64 D4) rfl
      have u4 := cellB a9 4 (.int .i64 D5) rfl
      have u5 := cellB a9 5 (.string (bs DT)) rfl
      have u6 := cellB a9 6 (.string (bs DU)) rfl
      have y0 := cellB a11 0 (.int .i64 D1) rfl
      have y1 := cellB a11 1 (.int .i64 D2) rfl
      have y2 := cellB a11 2 (.int .i64 D3) rfl
      have y3 := cellB a11 3 (.int .i64 D4) rfl
      have y4 := cellB a11 4 (.int .i64 D5) rfl
      have y5 := cellB a11 5 (.string (bs DT)) rfl
      have y6 := cellB a11 6 (.string (bs DU)) rfl
      clear a9 a11 hC2
      go_region_held3 (fun w' => w'.cell? ⟨A, 0, none⟩ = some (.int .i64 D1) ∧ w'.cell? ⟨A, 1, none⟩ = some (.int .i64 D2) ∧ w'.cell? ⟨A, 2, none⟩ = some (.int .i64 D3) ∧ w'.cell? ⟨A, 3, none⟩ = some (.int .i64 D4) ∧ w'.cell? ⟨A, 4, none⟩ = some (.int .i64 D5) ∧ w'.cell? ⟨A, 5, none⟩ = some (.string (bs DT)) ∧ w'.cell? ⟨A, 6, none⟩ = some (.string (bs DU)) ∧ w'.cell? ⟨E, 0, none⟩ = some (.int .i64 D1) ∧ w'.cell? ⟨E, 1, none⟩ = some (.int .i64 D2) ∧ w'.cell? ⟨E, 2, none⟩ = some (.int .i64 D3) ∧ w'.cell? ⟨E, 3, none⟩ = some (.int .i64 D4) ∧ w'.cell? ⟨E, 4, none⟩ = some (.int .i64 D5) ∧ w'.cell? ⟨E, 5, none⟩ = some (.string (bs DT)) ∧ w'.cell? ⟨E, 6, none⟩ = some (.string (bs DU))) (go_keep)
        (first | (go_at_call 8; refine hR1.mono ?_; rintro e w6 ⟨rfl, hb6⟩; have HB6 : Hid (Below W5.heap.size W5 w6) := (below_drew (Below.refl _ _)).trans hb6; obtain ⟨-, k9, k11⟩ := HK.out w6 HB6.out; have k0 := cellB k9 0 (.int .i64 D1) rfl; have k1 := cellB k9 1 (.int .i64 D2) rfl; have k2 := cellB k9 2 (.int .i64 D3) rfl; have k3 := cellB k9 3 (.int .i64 D4) rfl; have k4 := cellB k9 4 (.int .i64 D5) rfl; have k5 := cellB k9 5 (.string (bs DT)) rfl; have k6 := cellB k9 6 (.string (bs DU)) rfl; have j0 := cellB k11 0 (.int .i64 D1) rfl; have j1 := cellB k11 1 (.int .i64 D2) rfl; have j2 := cellB k11 2 (.int .i64 D3) rfl; have j3 := cellB k11 3 (.int .i64 D4) rfl; have j4 := cellB k11 4 (.int .i64 D5) rfl; have j5 := cellB k11 5 (.string (bs DT)) rfl; have j6 := cellB k11 6 (.string (bs DU)) rfl; clear hb6 k9 k11))
      clear hR1 u0 u1 u2 u3 u4 u5 u6 y0 y1 y2 y3 y4 y5 y6 k0 k1 k2 k3 k4 k5 k6 j0 j1 j2 j3 j4 j5 j6
      have HC : Hid (Below W5.heap.size W5 w6) := HB6.out
      go_wp2_with fail
      refine (hBack trivial _ (he.next (HB5.out.trans (HC.out.mono HB5.out.size)))).mono ?_
      rintro e w7 ⟨rfl, hb7⟩
      have hb8 : Below w7.heap.size w7 (w7.alloc (.cells #[.int .i64 k, .int .i64 g, .int .i64 n, .int .i64 v, .int .i64 m, .string (bs t), .string (bs tg)] 25)) := (Below.refl _ _).alloc (Nat.le_refl _) _
      have HD : Hid (Below W5.heap.size W5 (w7.alloc (.cells #[.int .i64 k, .int .i64 g, .int .i64 n, .int .i64 v, .int .i64 m, .string (bs t), .string (bs tg)] 25))) := HC.out.trans ((hb7.trans (hb8.mono hb7.size)).mono HC.out.size)
      have HM : Hid ((w7.alloc (.cells #[.int .i64 k, .int .i64 g, .int .i64 n, .int .i64 v, .int .i64 m, .string (bs t), .string (bs tg)] 25)).heap[w7.heap.size]? = some (.cells #[.int .i64 k, .int .i64 g, .int .i64 n, .int .i64 v, .int .i64 m, .string (bs t), .string (bs tg)] 25)) := heap_alloc_new _ _
      clear hb7 hb8
      go_upto_region 11 with fail
      obtain ⟨W7, hW7⟩ : ∃ W, w7.alloc (.cells #[.int .i64 k, .int .i64 g, .int .i64 n, .int .i64 v, .int .i64 m, .string (bs t), .string (bs tg)] 25) = W := ⟨_, rfl⟩
      rw [hW7] at HD HM ⊢
      clear hW7
      have m7 := HM.out
      have n0 := cellB m7 0 (.int .i64 k) rfl
      have n1 := cellB m7 1 (.int .i64 g) rfl
      have n2 := cellB m7 2 (.int .i64 n) rfl
      have n3 := cellB m7 3 (.int .i64 v) rfl
      have n4 := cellB m7 4 (.int .i64 m) rfl
      have n5 := cellB m7 5 (.string (bs t)) rfl
      have n6 := cellB m7 6 (.string (bs tg)) rfl
      obtain ⟨a2, a9, -⟩ := HK.out W7 HD.out
      have x0 := cellB a2 0 (.int .i64 k) rfl
      have x1 := cellB a2 1 (.int .i64 g) rfl
      have x2 := cellB a2 2 (.int .i64 n) rfl
      have x3 := cellB a2 3 (.int .i64 v) rfl
      have x4 := cellB a2 4 (.int .i64 m) rfl
      have x5 := cellB a2 5 (.string (bs t)) rfl
      have x6 := cellB a2 6 (.string (bs tg)) rfl
      have u0 := cellB a9 0 (.int .i64 D1) rfl
      have u1 := cellB a9 1 (.int .i64 D2) rfl
      have u2 := cellB a9 2 (.int .i64 D3) rfl
      have u3 := cellB a9 3 (.int .i64 D4) rfl
      have u4 := cellB a9 4 (.int .i64 D5) rfl
      have u5 := cellB a9 5 (.string (bs DT)) rfl
      have u6 := cellB a9 6 (.string (bs DU)) rfl
      clear HM m7 a2 a9
      go_wp2_with fail
      refine (hAgain trivial _ (he.next (HB5.out.trans (HD.out.mono HB5.out.size)))).mono ?_
      rintro e w8 ⟨rfl, hb8⟩
      have HE : Hid (Below W5.heap.size W5 w8) := HD.out.trans (hb8.mono HD.out.size)
      clear hb8
      have hBz := HB5.out.trans (HE.out.mono HB5.out.size)
      have hLast := hOne w8 hBz
      go_wp2_with (first | (go_at_call 5; refine hLast.mono ?_; rintro e w9 ⟨rfl, hb9⟩))
      go_ret
      exact ⟨rfl, hBz.trans (hb9.mono hBz.size)⟩
    · clear hAgain
      go_enter Tryd.func3, Tryd.ntmps3
      go_wp2_with fail
      refine (hEnc _ (he.next hb1)).mono ?_
      clear hEnc
      rintro e w1 ⟨rfl, hb2⟩
      have hB1 := hb1.trans (hb2.mono hb1.size)
      have p1 := (hb2.block w.heap.size hlp).trans p0
      have hl1 : w.heap.size < w1.heap.size := (Array.getElem?_eq_some_iff.1 p1).1
      have x0 := cellB p1 0 (.int .i64 k) rfl
      have x1 := cellB p1 1 (.int .i64 g) rfl
      have x2 := cellB p1 2 (.int .i64 n) rfl
      have x3 := cellB p1 3 (.int .i64 v) rfl
      have x4 := cellB p1 4 (.int .i64 m) rfl
      have x5 := cellB p1 5 (.string (bs t)) rfl
      have x6 := cellB p1 6 (.string (bs tg)) rfl
      clear hb2 p0 hlp hb1
      go_wp2_with fail
      refine (hC1 _).mono ?_
      clear hC1
      rintro e w2 ⟨rfl, hb3⟩
      have hB2 := hB1.trans (hb3.mono hB1.size)
      have p2 := (hb3.block w.heap.size hl1).trans p1
      have hl2 : w.heap.size < w2.heap.size := (Array.getElem?_eq_some_iff.1 p2).1
      clear hb3 p1 hl1 hB1 x0 x1 x2 x3 x4 x5 x6
      go_wp2_with fail
      refine (hrEnc _).mono ?_
      clear hrEnc
      rintro e w3 ⟨rfl, hb4⟩
      have hB3 := hB2.trans (hb4.mono hB2.size)
      have p3 := (hb4.block w.heap.size hl2).trans p2
      have hl3 : w.heap.size < w3.heap.size := (Array.getElem?_eq_some_iff.1 p3).1
      clear hb4 p2 hl2 hB2
      go_wp2_with fail
      refine (hDec _ (he.next hB3)).mono ?_
      clear hDec
      rintro e w4 ⟨rfl, hb5⟩
      have hB4 := hB3.trans (hb5.mono hB3.size)
      have p4 := (hb5.block w.heap.size hl3).trans p3
      have hl4 : w.heap.size < w4.heap.size := (Array.getElem?_eq_some_iff.1 p4).1
      have hbx : Below w4.heap.size w4 (w4.alloc (.cells #[.int .i64 D1, .int .i64 D2, .int .i64 D3, .int .i64 D4, .int .i64 D5, .string (bs DT), .string (bs DU)] 25)) := (Below.refl _ _).alloc (Nat.le_refl _) _
      have HQ : Hid ((w4.alloc (.cells #[.int .i64 D1, .int .i64 D2, .int .i64 D3, .int .i64 D4, .int .i64 D5, .string (bs DT), .string (bs DU)] 25)).heap[w4.heap.size]? = some (.cells #[.int .i64 D1, .int .i64 D2, .int .i64 D3, .int .i64 D4, .int .i64 D5, .string (bs DT), .string (bs DU)] 25)) := heap_alloc_new _ _
      have HLx : Hid (w4.heap.size < (w4.alloc (.cells #[.int .i64 D1, .int .i64 D2, .int .i64 D3, .int .i64 D4, .int .i64 D5, .string (bs DT), .string (bs DU)] 25)).heap.size) := by show _ < _; simp
      have HBx : Hid (Below w.heap.size w (w4.alloc (.cells #[.int .i64 D1, .int .i64 D2, .int .i64 D3, .int .i64 D4, .int .i64 D5, .string (bs DT), .string (bs DU)] 25))) := hB4.trans (hbx.mono hB4.size)
      have HPx : Hid ((w4.alloc (.cells #[.int .i64 D1, .int .i64 D2, .int .i64 D3, .int .i64 D4, .int .i64 D5, .string (bs DT), .string (bs DU)] 25)).heap[w.heap.size]? = some (.cells #[.int .i64 k, .int .i64 g, .int .i64 n, .int .i64 v, .int .i64 m, .string (bs t), .string (bs tg)] 25)) := (hbx.block _ hl4).trans p4
      clear hb5 p3 hl3 hB3 p4 hl4 hB4 hbx
      go_wp2_with fail
      obtain ⟨W4, hW4⟩ : ∃ W, w4.alloc (.cells #[.int .i64 D1, .int .i64 D2, .int .i64 D3, .int .i64 D4, .int .i64 D5, .string (bs DT), .string (bs DU)] 25) = W := ⟨_, rfl⟩
      rw [hW4] at HQ HLx HBx HPx ⊢
      clear hW4
      obtain ⟨A, hA⟩ : ∃ A, w4.heap.size = A := ⟨_, rfl⟩
      rw [hA] at HQ HLx ⊢
      clear hA
      refine (hrDec _).mono ?_
      clear hrDec
      rintro e w5 ⟨rfl, hb6⟩
      have hb7 : Below w5.heap.size w5 (w5.alloc (.cells #[.int .i64 D1, .int .i64 D2, .int .i64 D3, .int .i64 D4, .int .i64 D5, .string (bs DT), .string (bs DU)] 32)) := (Below.refl _ _).alloc (Nat.le_refl _) _
      have HR : Hid ((w5.alloc (.cells #[.int .i64 D1, .int .i64 D2, .int .i64 D3, .int .i64 D4, .int .i64 D5, .string (bs DT), .string (bs DU)] 32)).heap[w5.heap.size]? = some (.cells #[.int .i64 D1, .int .i64 D2, .int .i64 D3, .int .i64 D4, .int .i64 D5, .string (bs DT), .string (bs DU)] 32)) := heap_alloc_new _ _
      have HLy : Hid (w5.heap.size < (w5.alloc (.cells #[.int .i64 D1, .int .i64 D2, .int .i64 D3, .int .i64 D4, .int .i64 D5, .string (bs DT), .string (bs DU)] 32)).heap.size) := by show _ < _; simp
      have HB67 : Hid (Below W4.heap.size W4 (w5.alloc (.cells #[.int .i64 D1, .int .i64 D2, .int .i64 D3, .int .i64 D4, .int .i64 D5, .string (bs DT), .string (bs DU)] 32))) := hb6.trans (hb7.mono hb6.size)
      clear hb6 hb7
      go_wp2_with fail
      obtain ⟨W5, hW5⟩ : ∃ W, w5.alloc (.cells #[.int .i64 D1, .int .i64 D2, .int .i64 D3, .int .i64 D4, .int .i64 D5, .string (bs DT), .string (bs DU)] 32) = W := ⟨_, rfl⟩
      rw [hW5] at HR HLy HB67 ⊢
      clear hW5
      obtain ⟨E, hE⟩ : ∃ E, w5.heap.size = E := ⟨_, rfl⟩
      rw [hE] at HR HLy ⊢
      clear hE
      have HB5 : Hid (Below w.heap.size w W5) := HBx.out.trans (HB67.out.mono HBx.out.size)
      have HK : Hid (∀ W, Below W5.heap.size W5 W → (W.heap[w.heap.size]? = some (.cells #[.int .i64 k, .int .i64 g, .int .i64 n, .int .i64 v, .int .i64 m, .string (bs t), .string (bs tg)] 25) ∧ W.heap[A]? = some (.cells #[.int .i64 D1, .int .i64 D2, .int .i64 D3, .int .i64 D4, .int .i64 D5, .string (bs DT), .string (bs DU)] 25) ∧ W.heap[E]? = some (.cells #[.int .i64 D1, .int .i64 D2, .int .i64 D3, .int .i64 D4, .int .i64 D5, .string (bs DT), .string (bs DU)] 32))) := fun W hb => by
        have a1 := (HB67.out.block _ (Array.getElem?_eq_some_iff.1 HPx.out).1).trans HPx.out
        have a2 := (HB67.out.block _ HLx.out).trans HQ.out
        exact ⟨(hb.block _ (Array.getElem?_eq_some_iff.1 a1).1).trans a1, (hb.block _ (Array.getElem?_eq_some_iff.1 a2).1).trans a2, (hb.block _ HLy.out).trans HR.out⟩
      clear HQ HLx HBx HPx HR HLy HB67
      have hR1 := hC2 W5.drew
      obtain ⟨-, a9, a11⟩ := HK.out W5 (Below.refl _ _)
      have u0 := cellB a9 0 (.int .i64 D1) rfl
      have u1 := cellB a9 1 (.int .i64 D2) rfl
      have u2 := cellB a9 2 (.int .i64 D3) rfl
      have u3 := cellB a9 3 (.int .i64 D4) rfl
      have u4 := cellB a9 4 (.int .i64 D5) rfl
      have u5 := cellB a9 5 (.string (bs DT)) rfl
      have u6 := cellB a9 6 (.string (bs DU)) rfl
      have y0 := cellB a11 0 (.int .i64 D1) rfl
      have y1 := cellB a11 1 (.int .i64 D2) rfl
      have y2 := cellB a11 2 (.int .i64 D3) rfl
      have y3 := cellB a11 3 (.int .i64 D4) rfl
      have y4 := cellB a11 4 (.int .i64 D5) rfl
      have y5 := cellB a11 5 (.string (bs DT)) rfl
      have y6 := cellB a11 6 (.string (bs DU)) rfl
      clear a9 a11 hC2
      go_region_held3 (fun w' => w'.cell? ⟨A, 0, none⟩ = some (.int .i64 D1) ∧ w'.cell? ⟨A, 1, none⟩ = some (.int .i64 D2) ∧ w'.cell? ⟨A, 2, none⟩ = some (.int .i64 D3) ∧ w'.cell? ⟨A, 3, none⟩ = some (.int .i64 D4) ∧ w'.cell? ⟨A, 4, none⟩ = some (.int .i64 D5) ∧ w'.cell? ⟨A, 5, none⟩ = some (.string (bs DT)) ∧ w'.cell? ⟨A, 6, none⟩ = some (.string (bs DU)) ∧ w'.cell? ⟨E, 0, none⟩ = some (.int .i64 D1) ∧ w'.cell? ⟨E, 1, none⟩ = some (.int .i64 D2) ∧ w'.cell? ⟨E, 2, none⟩ = some (.int .i64 D3) ∧ w'.cell? ⟨E, 3, none⟩ = some (.int .i64 D4) ∧ w'.cell? ⟨E, 4, none⟩ = some (.int .i64 D5) ∧ w'.cell? ⟨E, 5, none⟩ = some (.string (bs DT)) ∧ w'.cell? ⟨E, 6, none⟩ = some (.string (bs DU))) (go_keep)
        (first | (go_at_call 8; refine hR1.mono ?_; rintro e w6 ⟨rfl, hb6⟩; have HB6 : Hid (Below W5.heap.size W5 w6) := (below_drew (Below.refl _ _)).trans hb6; obtain ⟨-, k9, k11⟩ := HK.out w6 HB6.out; have k0 := cellB k9 0 (.int .i64 D1) rfl; have k1 := cellB k9 1 (.int .i64 D2) rfl; have k2 := cellB k9 2 (.int .i64 D3) rfl; have k3 := cellB k9 3 (.int .i64 D4) rfl; have k4 := cellB k9 4 (.int .i64 D5) rfl; have k5 := cellB k9 5 (.string (bs DT)) rfl; have k6 := cellB k9 6 (.string (bs DU)) rfl; have j0 := cellB k11 0 (.int .i64 D1) rfl; have j1 := cellB k11 1 (.int .i64 D2) rfl; have j2 := cellB k11 2 (.int .i64 D3) rfl; have j3 := cellB k11 3 (.int .i64 D4) rfl; have j4 := cellB k11 4 (.int .i64 D5) rfl; have j5 := cellB k11 5 (.string (bs DT)) rfl; have j6 := cellB k11 6 (.string (bs DU)) rfl; clear hb6 k9 k11))
      clear hR1 u0 u1 u2 u3 u4 u5 u6 y0 y1 y2 y3 y4 y5 y6 k0 k1 k2 k3 k4 k5 k6 j0 j1 j2 j3 j4 j5 j6
      have HC : Hid (Below W5.heap.size W5 w6) := HB6.out
      go_wp2_with fail
      refine (hBack trivial _ (he.next (HB5.out.trans (HC.out.mono HB5.out.size)))).mono ?_
      rintro e w7 ⟨rfl, hb7⟩
      have hb8 : Below w7.heap.size w7 (w7.alloc (.cells #[.int .i64 k, .int .i64 g, .int .i64 n, .int .i64 v, .int .i64 m, .string (bs t), .string (bs tg)] 25)) := (Below.refl _ _).alloc (Nat.le_refl _) _
      have HD : Hid (Below W5.heap.size W5 (w7.alloc (.cells #[.int .i64 k, .int .i64 g, .int .i64 n, .int .i64 v, .int .i64 m, .string (bs t), .string (bs tg)] 25))) := HC.out.trans ((hb7.trans (hb8.mono hb7.size)).mono HC.out.size)
      have HM : Hid ((w7.alloc (.cells #[.int .i64 k, .int .i64 g, .int .i64 n, .int .i64 v, .int .i64 m, .string (bs t), .string (bs tg)] 25)).heap[w7.heap.size]? = some (.cells #[.int .i64 k, .int .i64 g, .int .i64 n, .int .i64 v, .int .i64 m, .string (bs t), .string (bs tg)] 25)) := heap_alloc_new _ _
      clear hb7 hb8
      go_upto_region 11 with fail
      obtain ⟨W7, hW7⟩ : ∃ W, w7.alloc (.cells #[.int .i64 k, .int .i64 g, .int .i64 n, .int .i64 v, .int .i64 m, .string (bs t), .string (bs tg)] 25) = W := ⟨_, rfl⟩
      rw [hW7] at HD HM ⊢
      clear hW7
      have m7 := HM.out
      have n0 := cellB m7 0 (.int .i64 k) rfl
      have n1 := cellB m7 1 (.int .i64 g) rfl
      have n2 := cellB m7 2 (.int .i64 n) rfl
      have n3 := cellB m7 3 (.int .i64 v) rfl
      have n4 := cellB m7 4 (.int .i64 m) rfl
      have n5 := cellB m7 5 (.string (bs t)) rfl
      have n6 := cellB m7 6 (.string (bs tg)) rfl
      obtain ⟨a2, a9, -⟩ := HK.out W7 HD.out
      have x0 := cellB a2 0 (.int .i64 k) rfl
      have x1 := cellB a2 1 (.int .i64 g) rfl
      have x2 := cellB a2 2 (.int .i64 n) rfl
      have x3 := cellB a2 3 (.int .i64 v) rfl
      have x4 := cellB a2 4 (.int .i64 m) rfl
      have x5 := cellB a2 5 (.string (bs t)) rfl
      have x6 := cellB a2 6 (.string (bs tg)) rfl
      have u0 := cellB a9 0 (.int .i64 D1) rfl
      have u1 := cellB a9 1 (.int .i64 D2) rfl
      have u2 := cellB a9 2 (.int .i64 D3) rfl
      have u3 := cellB a9 3 (.int .i64 D4) rfl
      have u4 := cellB a9 4 (.int .i64 D5) rfl
      have u5 := cellB a9 5 (.string (bs DT)) rfl
      have u6 := cellB a9 6 (.string (bs DU)) rfl
      clear HM m7 a2 a9
      have hBz := HB5.out.trans (HD.out.mono HB5.out.size)
      have hLast := hOne W7 hBz
      go_wp2_with (first | (go_at_call 5; refine hLast.mono ?_; rintro e w9 ⟨rfl, hb9⟩))
      go_ret
      exact ⟨rfl, hBz.trans (hb9.mono hBz.size)⟩
  · rcases hDc with rfl | hDc
    · clear hBack
      go_enter Tryd.func3, Tryd.ntmps3
      go_wp2_with fail
      refine (hEnc _ (he.next hb1)).mono ?_
      clear hEnc
      rintro e w1 ⟨rfl, hb2⟩
      have hB1 := hb1.trans (hb2.mono hb1.size)
      have p1 := (hb2.block w.heap.size hlp).trans p0
      have hl1 : w.heap.size < w1.heap.size := (Array.getElem?_eq_some_iff.1 p1).1
      have x0 := cellB p1 0 (.int .i64 k) rfl
      have x1 := cellB p1 1 (.int .i64 g) rfl
      have x2 := cellB p1 2 (.int .i64 n) rfl
      have x3 := cellB p1 3 (.int .i64 v) rfl
      have x4 := cellB p1 4 (.int .i64 m) rfl
      have x5 := cellB p1 5 (.string (bs t)) rfl
      have x6 := cellB p1 6 (.string (bs tg)) rfl
      clear hb2 p0 hlp hb1
      go_wp2_with fail
      refine (hC1 _).mono ?_
      clear hC1
      rintro e w2 ⟨rfl, hb3⟩
      have hB2 := hB1.trans (hb3.mono hB1.size)
      have p2 := (hb3.block w.heap.size hl1).trans p1
      have hl2 : w.heap.size < w2.heap.size := (Array.getElem?_eq_some_iff.1 p2).1
      clear hb3 p1 hl1 hB1 x0 x1 x2 x3 x4 x5 x6
      go_wp2_with fail
      refine (hrEnc _).mono ?_
      clear hrEnc
      rintro e w3 ⟨rfl, hb4⟩
      have hB3 := hB2.trans (hb4.mono hB2.size)
      have p3 := (hb4.block w.heap.size hl2).trans p2
      have hl3 : w.heap.size < w3.heap.size := (Array.getElem?_eq_some_iff.1 p3).1
      clear hb4 p2 hl2 hB2
      go_wp2_with fail
      refine (hDec _ (he.next hB3)).mono ?_
      clear hDec
      rintro e w4 ⟨rfl, hb5⟩
      have hB4 := hB3.trans (hb5.mono hB3.size)
      have p4 := (hb5.block w.heap.size hl3).trans p3
      have hl4 : w.heap.size < w4.heap.size := (Array.getElem?_eq_some_iff.1 p4).1
      have hbx : Below w4.heap.size w4 (w4.alloc (.cells #[.int .i64 D1, .int .i64 D2, .int .i64 D3, .int .i64 D4, .int .i64 D5, .string (bs DT), .string (bs DU)] 25)) := (Below.refl _ _).alloc (Nat.le_refl _) _
      have HQ : Hid ((w4.alloc (.cells #[.int .i64 D1, .int .i64 D2, .int .i64 D3, .int .i64 D4, .int .i64 D5, .string (bs DT), .string (bs DU)] 25)).heap[w4.heap.size]? = some (.cells #[.int .i64 D1, .int .i64 D2, .int .i64 D3, .int .i64 D4, .int .i64 D5, .string (bs DT), .string (bs DU)] 25)) := heap_alloc_new _ _
      have HLx : Hid (w4.heap.size < (w4.alloc (.cells #[.int .i64 D1, .int .i64 D2, .int .i64 D3, .int .i64 D4, .int .i64 D5, .string (bs DT), .string (bs DU)] 25)).heap.size) := by show _ < _; simp
      have HBx : Hid (Below w.heap.size w (w4.alloc (.cells #[.int .i64 D1, .int .i64 D2, .int .i64 D3, .int .i64 D4, .int .i64 D5, .string (bs DT), .string (bs DU)] 25))) := hB4.trans (hbx.mono hB4.size)
      have HPx : Hid ((w4.alloc (.cells #[.int .i64 D1, .int .i64 D2, .int .i64 D3, .int .i64 D4, .int .i64 D5, .string (bs DT), .string (bs DU)] 25)).heap[w.heap.size]? = some (.cells #[.int .i64 k, .int .i64 g, .int .i64 n, .int .i64 v, .int .i64 m, .string (bs t), .string (bs tg)] 25)) := (hbx.block _ hl4).trans p4
      clear hb5 p3 hl3 hB3 p4 hl4 hB4 hbx
      go_wp2_with fail
      obtain ⟨W4, hW4⟩ : ∃ W, w4.alloc (.cells #[.int .i64 D1, .int .i64 D2, .int .i64 D3, .int .i64 D4, .int .i64 D5, .string (bs DT), .string (bs DU)] 25) = W := ⟨_, rfl⟩
      rw [hW4] at HQ HLx HBx HPx ⊢
      clear hW4
      obtain ⟨A, hA⟩ : ∃ A, w4.heap.size = A := ⟨_, rfl⟩
      rw [hA] at HQ HLx ⊢
      clear hA
      refine (hrDec _).mono ?_
      clear hrDec
      rintro e w5 ⟨rfl, hb6⟩
      have hb7 : Below w5.heap.size w5 (w5.alloc (.cells #[.int .i64 D1, .int .i64 D2, .int .i64 D3, .int .i64 D4, .int .i64 D5, .string (bs DT), .string (bs DU)] 32)) := (Below.refl _ _).alloc (Nat.le_refl _) _
      have HR : Hid ((w5.alloc (.cells #[.int .i64 D1, .int .i64 D2, .int .i64 D3, .int .i64 D4, .int .i64 D5, .string (bs DT), .string (bs DU)] 32)).heap[w5.heap.size]? = some (.cells #[.int .i64 D1, .int .i64 D2, .int .i64 D3, .int .i64 D4, .int .i64 D5, .string (bs DT), .string (bs DU)] 32)) := heap_alloc_new _ _
      have HLy : Hid (w5.heap.size < (w5.alloc (.cells #[.int .i64 D1, .int .i64 D2, .int .i64 D3, .int .i64 D4, .int .i64 D5, .string (bs DT), .string (bs DU)] 32)).heap.size) := by show _ < _; simp
      have HB67 : Hid (Below W4.heap.size W4 (w5.alloc (.cells #[.int .i64 D1, .int .i64 D2, .int .i64 D3, .int .i64 D4, .int .i64 D5, .string (bs DT), .string (bs DU)] 32))) := hb6.trans (hb7.mono hb6.size)
      clear hb6 hb7
      go_wp2_with fail
      obtain ⟨W5, hW5⟩ : ∃ W, w5.alloc (.cells #[.int .i64 D1, .int .i64 D2, .int .i64 D3, .int .i64 D4, .int .i64 D5, .string (bs DT), .string (bs DU)] 32) = W := ⟨_, rfl⟩
      rw [hW5] at HR HLy HB67 ⊢
      clear hW5
      obtain ⟨E, hE⟩ : ∃ E, w5.heap.size = E := ⟨_, rfl⟩
      rw [hE] at HR HLy ⊢
      clear hE
      have HB5 : Hid (Below w.heap.size w W5) := HBx.out.trans (HB67.out.mono HBx.out.size)
      have HK : Hid (∀ W, Below W5.heap.size W5 W → (W.heap[w.heap.size]? = some (.cells #[.int .i64 k, .int .i64 g, .int .i64 n, .int .i64 v, .int .i64 m, .string (bs t), .string (bs tg)] 25) ∧ W.heap[A]? = some (.cells #[.int .i64 D1, .int .i64 D2, .int .i64 D3, .int .i64 D4, .int .i64 D5, .string (bs DT), .string (bs DU)] 25) ∧ W.heap[E]? = some (.cells #[.int .i64 D1, .int .i64 D2, .int .i64 D3, .int .i64 D4, .int .i64 D5, .string (bs DT), .string (bs DU)] 32))) := fun W hb => by
        have a1 := (HB67.out.block _ (Array.getElem?_eq_some_iff.1 HPx.out).1).trans HPx.out
        have a2 := (HB67.out.block _ HLx.out).trans HQ.out
        exact ⟨(hb.block _ (Array.getElem?_eq_some_iff.1 a1).1).trans a1, (hb.block _ (Array.getElem?_eq_some_iff.1 a2).1).trans a2, (hb.block _ HLy.out).trans HR.out⟩
      clear HQ HLx HBx HPx HR HLy HB67
      have hR1 := hC2 W5.drew
      obtain ⟨-, a9, a11⟩ := HK.out W5 (Below.refl _ _)
      have u0 := cellB a9 0 (.int .i64 D1) rfl
      have u1 := cellB a9 1 (.int .i64 D2) rfl
      have u2 := cellB a9 2 (.int .i64 D3) rfl
      have u3 := cellB a9 3 (.int .i64 D4) rfl
      have u4 := cellB a9 4 (.int .i64 D5) rfl
      have u5 := cellB a9 5 (.string (bs DT)) rfl
      have u6 := cellB a9 6 (.string (bs DU)) rfl
      have y0 := cellB a11 0 (.int .i64 D1) rfl
      have y1 := cellB a11 1 (.int .i64 D2) rfl
      have y2 := cellB a11 2 (.int .i64 D3) rfl
      have y3 := cellB a11 3 (.int .i64 D4) rfl
      have y4 := cellB a11 4 (.int .i64 D5) rfl
      have y5 := cellB a11 5 (.string (bs DT)) rfl
      have y6 := cellB a11 6 (.string (bs DU)) rfl
      clear a9 a11 hC2
      go_region_held3 (fun w' => w'.cell? ⟨A, 0, none⟩ = some (.int .i64 D1) ∧ w'.cell? ⟨A, 1, none⟩ = some (.int .i64 D2) ∧ w'.cell? ⟨A, 2, none⟩ = some (.int .i64 D3) ∧ w'.cell? ⟨A, 3, none⟩ = some (.int .i64 D4) ∧ w'.cell? ⟨A, 4, none⟩ = some (.int .i64 D5) ∧ w'.cell? ⟨A, 5, none⟩ = some (.string (bs DT)) ∧ w'.cell? ⟨A, 6, none⟩ = some (.string (bs DU)) ∧ w'.cell? ⟨E, 0, none⟩ = some (.int .i64 D1) ∧ w'.cell? ⟨E, 1, none⟩ = some (.int .i64 D2) ∧ w'.cell? ⟨E, 2, none⟩ = some (.int .i64 D3) ∧ w'.cell? ⟨E, 3, none⟩ = some (.int .i64 D4) ∧ w'.cell? ⟨E, 4, none⟩ = some (.int .i64 D5) ∧ w'.cell? ⟨E, 5, none⟩ = some (.string (bs DT)) ∧ w'.cell? ⟨E, 6, none⟩ = some (.string (bs DU))) (go_keep)
        (first | (go_at_call 8; refine hR1.mono ?_; rintro e w6 ⟨rfl, hb6⟩; have HB6 : Hid (Below W5.heap.size W5 w6) := (below_drew (Below.refl _ _)).trans hb6; obtain ⟨-, k9, k11⟩ := HK.out w6 HB6.out; have k0 := cellB k9 0 (.int .i64 D1) rfl; have k1 := cellB k9 1 (.int .i64 D2) rfl; have k2 := cellB k9 2 (.int .i64 D3) rfl; have k3 := cellB k9 3 (.int .i64 D4) rfl; have k4 := cellB k9 4 (.int .i64 D5) rfl; have k5 := cellB k9 5 (.string (bs DT)) rfl; have k6 := cellB k9 6 (.string (bs DU)) rfl; have j0 := cellB k11 0 (.int .i64 D1) rfl; have j1 := cellB k11 1 (.int .i64 D2) rfl; have j2 := cellB k11 2 (.int .i64 D3) rfl; have j3 := cellB k11 3 (.int .i64 D4) rfl; have j4 := cellB k11 4 (.int .i64 D5) rfl; have j5 := cellB k11 5 (.string (bs DT)) rfl; have j6 := cellB k11 6 (.string (bs DU)) rfl; clear hb6 k9 k11))
      clear hR1 u0 u1 u2 u3 u4 u5 u6 y0 y1 y2 y3 y4 y5 y6 k0 k1 k2 k3 k4 k5 k6 j0 j1 j2 j3 j4 j5 j6
      have HC : Hid (Below W5.heap.size W5 w6) := HB6.out
      obtain ⟨-, a9, -⟩ := HK.out w6 HC.out
      have u0 := cellB a9 0 (.int .i64 D1) rfl
      have u1 := cellB a9 1 (.int .i64 D2) rfl
      have u2 := cellB a9 2 (.int .i64 D3) rfl
      have u3 := cellB a9 3 (.int .i64 D4) rfl
      have u4 := cellB a9 4 (.int .i64 D5) rfl
      have u5 := cellB a9 5 (.string (bs DT)) rfl
      have u6 := cellB a9 6 (.string (bs DU)) rfl
      clear a9
      go_wp2_with fail
      refine (hAgain trivial _ (he.next (HB5.out.trans (HC.out.mono HB5.out.size)))).mono ?_
      rintro e w8 ⟨rfl, hb8⟩
      have HE : Hid (Below W5.heap.size W5 w8) := HC.out.trans (hb8.mono HC.out.size)
      clear hb8
      have hBz := HB5.out.trans (HE.out.mono HB5.out.size)
      have hLast := hOne w8 hBz
      go_wp2_with (first | (go_at_call 5; refine hLast.mono ?_; rintro e w9 ⟨rfl, hb9⟩))
      go_ret
      exact ⟨rfl, hBz.trans (hb9.mono hBz.size)⟩
    · clear hBack
      clear hAgain
      go_enter Tryd.func3, Tryd.ntmps3
      go_wp2_with fail
      refine (hEnc _ (he.next hb1)).mono ?_
      clear hEnc
      rintro e w1 ⟨rfl, hb2⟩
      have hB1 := hb1.trans (hb2.mono hb1.size)
      have p1 := (hb2.block w.heap.size hlp).trans p0
      have hl1 : w.heap.size < w1.heap.size := (Array.getElem?_eq_some_iff.1 p1).1
      have x0 := cellB p1 0 (.int .i64 k) rfl
      have x1 := cellB p1 1 (.int .i64 g) rfl
      have x2 := cellB p1 2 (.int .i64 n) rfl
      have x3 := cellB p1 3 (.int .i64 v) rfl
      have x4 := cellB p1 4 (.int .i64 m) rfl
      have x5 := cellB p1 5 (.string (bs t)) rfl
      have x6 := cellB p1 6 (.string (bs tg)) rfl
      clear hb2 p0 hlp hb1
      go_wp2_with fail
      refine (hC1 _).mono ?_
      clear hC1
      rintro e w2 ⟨rfl, hb3⟩
      have hB2 := hB1.trans (hb3.mono hB1.size)
      have p2 := (hb3.block w.heap.size hl1).trans p1
      have hl2 : w.heap.size < w2.heap.size := (Array.getElem?_eq_some_iff.1 p2).1
      clear hb3 p1 hl1 hB1 x0 x1 x2 x3 x4 x5 x6
      go_wp2_with fail
      refine (hrEnc _).mono ?_
      clear hrEnc
      rintro e w3 ⟨rfl, hb4⟩
      have hB3 := hB2.trans (hb4.mono hB2.size)
      have p3 := (hb4.block w.heap.size hl2).trans p2
      have hl3 : w.heap.size < w3.heap.size := (Array.getElem?_eq_some_iff.1 p3).1
      clear hb4 p2 hl2 hB2
      go_wp2_with fail
      refine (hDec _ (he.next hB3)).mono ?_
      clear hDec
      rintro e w4 ⟨rfl, hb5⟩
      have hB4 := hB3.trans (hb5.mono hB3.size)
      have p4 := (hb5.block w.heap.size hl3).trans p3
      have hl4 : w.heap.size < w4.heap.size := (Array.getElem?_eq_some_iff.1 p4).1
      have hbx : Below w4.heap.size w4 (w4.alloc (.cells #[.int .i64 D1, .int .i64 D2, .int .i64 D3, .int .i64 D4, .int .i64 D5, .string (bs DT), .string (bs DU)] 25)) := (Below.refl _ _).alloc (Nat.le_refl _) _
      have HQ : Hid ((w4.alloc (.cells #[.int .i64 D1, .int .i64 D2, .int .i64 D3, .int .i64 D4, .int .i64 D5, .string (bs DT), .string (bs DU)] 25)).heap[w4.heap.size]? = some (.cells #[.int .i64 D1, .int .i64 D2, .int .i64 D3, .int .i64 D4, .int .i64 D5, .string (bs DT), .string (bs DU)] 25)) := heap_alloc_new _ _
      have HLx : Hid (w4.heap.size < (w4.alloc (.cells #[.int .i64 D1, .int .i64 D2, .int .i64 D3, .int .i64 D4, .int .i64 D5, .string (bs DT), .string (bs DU)] 25)).heap.size) := by show _ < _; simp
      have HBx : Hid (Below w.heap.size w (w4.alloc (.cells #[.int .i64 D1, .int .i64 D2, .int .i64 D3, .int .i64 D4, .int .i64 D5, .string (bs DT), .string (bs DU)] 25))) := hB4.trans (hbx.mono hB4.size)
      have HPx : Hid ((w4.alloc (.cells #[.int .i64 D1, .int .i64 D2, .int .i64 D3, .int .i64 D4, .int .i64 D5, .string (bs DT), .string (bs DU)] 25)).heap[w.heap.size]? = some (.cells #[.int .i64 k, .int .i64 g, .int .i64 n, .int .i64 v, .int .i64 m, .string (bs t), .string (bs tg)] 25)) := (hbx.block _ hl4).trans p4
      clear hb5 p3 hl3 hB3 p4 hl4 hB4 hbx
      go_wp2_with fail
      obtain ⟨W4, hW4⟩ : ∃ W, w4.alloc (.cells #[.int .i64 D1, .int .i64 D2, .int .i64 D3, .int .i64 D4, .int .i64 D5, .string (bs DT), .string (bs DU)] 25) = W := ⟨_, rfl⟩
      rw [hW4] at HQ HLx HBx HPx ⊢
      clear hW4
      obtain ⟨A, hA⟩ : ∃ A, w4.heap.size = A := ⟨_, rfl⟩
      rw [hA] at HQ HLx ⊢
      clear hA
      refine (hrDec _).mono ?_
      clear hrDec
      rintro e w5 ⟨rfl, hb6⟩
      have hb7 : Below w5.heap.size w5 (w5.alloc (.cells #[.int .i64 D1, .int .i64 D2, .int .i64 D3, .int .i64 D4, .int .i64 D5, .string (bs DT), .string (bs DU)] 32)) := (Below.refl _ _).alloc (Nat.le_refl _) _
      have HR : Hid ((w5.alloc (.cells #[.int .i64 D1, .int .i64 D2, .int .i64 D3, .int .i64 D4, .int .i64 D5, .string (bs DT), .string (bs DU)] 32)).heap[w5.heap.size]? = some (.cells #[.int .i64 D1, .int .i64 D2, .int .i64 D3, .int .i64 D4, .int .i64 D5, .string (bs DT), .string (bs DU)] 32)) := heap_alloc_new _ _
      have HLy : Hid (w5.heap.size < (w5.alloc (.cells #[.int .i64 D1, .int .i64 D2, .int .i64 D3, .int .i64 D4, .int .i64 D5, .string (bs DT), .string (bs DU)] 32)).heap.size) := by show _ < _; simp
      have HB67 : Hid (Below W4.heap.size W4 (w5.alloc (.cells #[.int .i64 D1, .int .i64 D2, .int .i64 D3, .int .i64 D4, .int .i64 D5, .string (bs DT), .string (bs DU)] 32))) := hb6.trans (hb7.mono hb6.size)
      clear hb6 hb7
      go_wp2_with fail
      obtain ⟨W5, hW5⟩ : ∃ W, w5.alloc (.cells #[.int .i64 D1, .int .i64 D2, .int .i64 D3, .int .i64 D4, .int .i64 D5, .string (bs DT), .string (bs DU)] 32) = W := ⟨_, rfl⟩
      rw [hW5] at HR HLy HB67 ⊢
      clear hW5
      obtain ⟨E, hE⟩ : ∃ E, w5.heap.size = E := ⟨_, rfl⟩
      rw [hE] at HR HLy ⊢
      clear hE
      have HB5 : Hid (Below w.heap.size w W5) := HBx.out.trans (HB67.out.mono HBx.out.size)
      have HK : Hid (∀ W, Below W5.heap.size W5 W → (W.heap[w.heap.size]? = some (.cells #[.int .i64 k, .int .i64 g, .int .i64 n, .int .i64 v, .int .i64 m, .string (bs t), .string (bs tg)] 25) ∧ W.heap[A]? = some (.cells #[.int .i64 D1, .int .i64 D2, .int .i64 D3, .int .i64 D4, .int .i64 D5, .string (bs DT), .string (bs DU)] 25) ∧ W.heap[E]? = some (.cells #[.int .i64 D1, .int .i64 D2, .int .i64 D3, .int .i64 D4, .int .i64 D5, .string (bs DT), .string (bs DU)] 32))) := fun W hb => by
        have a1 := (HB67.out.block _ (Array.getElem?_eq_some_iff.1 HPx.out).1).trans HPx.out
        have a2 := (HB67.out.block _ HLx.out).trans HQ.out
        exact ⟨(hb.block _ (Array.getElem?_eq_some_iff.1 a1).1).trans a1, (hb.block _ (Array.getElem?_eq_some_iff.1 a2).1).trans a2, (hb.block _ HLy.out).trans HR.out⟩
      clear HQ HLx HBx HPx HR HLy HB67
      have hR1 := hC2 W5.drew
      obtain ⟨-, a9, a11⟩ := HK.out W5 (Below.refl _ _)
      have u0 := cellB a9 0 (.int .i64 D1) rfl
      have u1 := cellB a9 1 (.int .i64 D2) rfl
      have u2 := cellB a9 2 (.int .i64 D3) rfl
      have u3 := cellB a9 3 (.int .i64 D4) rfl
      have u4 := cellB a9 4 (.int .i64 D5) rfl
      have u5 := cellB a9 5 (.string (bs DT)) rfl
      have u6 := cellB a9 6 (.string (bs DU)) rfl
      have y0 := cellB a11 0 (.int .i64 D1) rfl
      have y1 := cellB a11 1 (.int .i64 D2) rfl
      have y2 := cellB a11 2 (.int .i64 D3) rfl
      have y3 := cellB a11 3 (.int .i64 D4) rfl
      have y4 := cellB a11 4 (.int .i64 D5) rfl
      have y5 := cellB a11 5 (.string (bs DT)) rfl
      have y6 := cellB a11 6 (.string (bs DU)) rfl
      clear a9 a11 hC2
      go_region_held3 (fun w' => w'.cell? ⟨A, 0, none⟩ = some (.int .i64 D1) ∧ w'.cell? ⟨A, 1, none⟩ = some (.int .i64 D2) ∧ w'.cell? ⟨A, 2, none⟩ = some (.int .i64 D3) ∧ w'.cell? ⟨A, 3, none⟩ = some (.int .i64 D4) ∧ w'.cell? ⟨A, 4, none⟩ = some (.int .i64 D5) ∧ w'.cell? ⟨A, 5, none⟩ = some (.string (bs DT)) ∧ w'.cell? ⟨A, 6, none⟩ = some (.string (bs DU)) ∧ w'.cell? ⟨E, 0, none⟩ = some (.int .i64 D1) ∧ w'.cell? ⟨E, 1, none⟩ = some (.int .i64 D2) ∧ w'.cell? ⟨E, 2, none⟩ = some (.int .i64 D3) ∧ w'.cell? ⟨E, 3, none⟩ = some (.int .i64 D4) ∧ w'.cell? ⟨E, 4, none⟩ = some (.int .i64 D5) ∧ w'.cell? ⟨E, 5, none⟩ = some (.string (bs DT)) ∧ w'.cell? ⟨E, 6, none⟩ = some (.string (bs DU))) (go_keep)
        (first | (go_at_call 8; refine hR1.mono ?_; rintro e w6 ⟨rfl, hb6⟩; have HB6 : Hid (Below W5.heap.size W5 w6) := (below_drew (Below.refl _ _)).trans hb6; obtain ⟨-, k9, k11⟩ := HK.out w6 HB6.out; have k0 := cellB k9 0 (.int .i64 D1) rfl; have k1 := cellB k9 1 (.int .i64 D2) rfl; have k2 := cellB k9 2 (.int .i64 D3) rfl; have k3 := cellB k9 3 (.int .i64 D4) rfl; have k4 := cellB k9 4 (.int .i64 D5) rfl; have k5 := cellB k9 5 (.string (bs DT)) rfl; have k6 := cellB k9 6 (.string (bs DU)) rfl; have j0 := cellB k11 0 (.int .i64 D1) rfl; have j1 := cellB k11 1 (.int .i64 D2) rfl; have j2 := cellB k11 2 (.int .i64 D3) rfl; have j3 := cellB k11 3 (.int .i64 D4) rfl; have j4 := cellB k11 4 (.int .i64 D5) rfl; have j5 := cellB k11 5 (.string (bs DT)) rfl; have j6 := cellB k11 6 (.string (bs DU)) rfl; clear hb6 k9 k11))
      clear hR1 u0 u1 u2 u3 u4 u5 u6 y0 y1 y2 y3 y4 y5 y6 k0 k1 k2 k3 k4 k5 k6 j0 j1 j2 j3 j4 j5 j6
      have HC : Hid (Below W5.heap.size W5 w6) := HB6.out
      obtain ⟨-, a9, -⟩ := HK.out w6 HC.out
      have u0 := cellB a9 0 (.int .i64 D1) rfl
      have u1 := cellB a9 1 (.int .i64 D2) rfl
      have u2 := cellB a9 2 (.int .i64 D3) rfl
      have u3 := cellB a9 3 (.int .i64 D4) rfl
      have u4 := cellB a9 4 (.int .i64 D5) rfl
      have u5 := cellB a9 5 (.string (bs DT)) rfl
      have u6 := cellB a9 6 (.string (bs DU)) rfl
      clear a9
      have hBz := HB5.out.trans (HC.out.mono HB5.out.size)
      have hLast := hOne w6 hBz
      go_wp2_with (first | (go_at_call 5; refine hLast.mono ?_; rintro e w9 ⟨rfl, hb9⟩))
      go_ret
      exact ⟨rfl, hBz.trans (hb9.mono hBz.size)⟩
end Go.Proofs.YtielknegifbmpaaDoor
