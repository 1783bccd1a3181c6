/- The bytes of what was signed, walked: the program's Encode and the plain one. -/
import Derived.Test.YtoniohmceaflnaaDoorPtB
import Derived.Test.YtoniohmceaflnaaDoorOnC
namespace Go.Proofs.YtoniohmceaflnaaDoor
open Go.RowKit
attribute [local go_sem ↓] Go.wp_at_zero Go.wp_at_succ

theorem Sl_built3 (w : World) (a b c : List UInt8) : Sl (w.alloc (.cells #[.string (bs a), .string (bs b), .string (bs c)] 9)) (.slice (some ⟨w.heap.size, 0, none⟩) 3 3) [a, b, c] := by
  refine .inr ⟨w.heap.size, 0, 3, rfl, by simp, fun i t ht => ?_⟩
  unfold World.cell?
  rw [World.alloc_heap_new]
  match i with
  | 0 =>
    simp only [List.getElem?_cons_zero, Option.some.injEq] at ht
    subst ht
    rfl
  | 1 =>
    simp only [List.getElem?_cons_succ, List.getElem?_cons_zero, Option.some.injEq] at ht
    subst ht
    rfl
  | 2 =>
    simp only [List.getElem?_cons_succ, List.getElem?_cons_zero, Option.some.injEq] at ht
    subst ht
    rfl
  | i + 3 => simp at ht
theorem tot3 (a b c : List UInt8) : tot [a, b, c] = a.length + (b.length + c.length) := by simp [tot]

set_option maxRecDepth 20000 in
set_option maxHeartbeats 1000000 in
theorem sEncode_any (g n : Int) (t tg : List UInt8) (w : World) (ht : t.length ≤ 500000) (he : EnvP w) :
    Calls Tryd.prog 20 #[.agg #[.int .i64 g, .int .i64 n, .string (bs t), .string (bs tg)]] w fun e W' => e = .returned (.tuple #[.string (bs (sEncV g n t tg)), .int .i64 (sEncE g n tg)]) ∧ Below w.heap.size w W' := by
  have hb1 : Below w.heap.size w (w.alloc (.cells #[.int .i64 g, .int .i64 n, .string (bs t), .string (bs tg)] 36)) := (Below.refl _ w).alloc (Nat.le_refl _) _
  have p0 : (w.alloc (.cells #[.int .i64 g, .int .i64 n, .string (bs t), .string (bs tg)] 36)).heap[w.heap.size]? = some (.cells #[.int .i64 g, .int .i64 n, .string (bs t), .string (bs tg)] 36) := heap_alloc_new _ _
  have hlp : w.heap.size < (w.alloc (.cells #[.int .i64 g, .int .i64 n, .string (bs t), .string (bs tg)] 36)).heap.size := by simp
  have hN := Name_any g n (w.alloc (.cells #[.int .i64 g, .int .i64 n, .string (bs t), .string (bs tg)] 36)) (he.next hb1)
  by_cases hp : isP g n
  · rw [show nameE g n = 0 from if_pos hp, show nameV g n = nameL g n from if_pos hp] at hN
    have hnl := name_len g n hp
    by_cases hl : tg.length = 16
    · have e0 := sEnc_of hp hl
      rw [sEncV, if_pos e0, e0]
      have hq : (((bs tg).size : Int) != 16) = false := by rw [bs_size, hl]; rfl
      obtain ⟨NM, hNM⟩ : ∃ x, nameL g n = x := ⟨_, rfl⟩
      rw [hNM] at hN hnl ⊢
      have htot : tot [NM, t, tg] ≤ 1000000 := by rw [tot3]; omega
      obtain ⟨PL, hPL⟩ : ∃ x, packL [NM, t, tg] = x := ⟨_, rfl⟩
      have hPk : ∀ W v, EnvP W → Sl W v [NM, t, tg] → Calls Tryd.prog 34 #[v] W fun e W' => e = .returned (.string (bs PL)) ∧ Below W.heap.size W W' := by
        intro W v h1 h2
        have := Pack_any [NM, t, tg] v W htot (by simp) h1 h2
        rw [hPL] at this
        exact this
      rw [hPL]
      clear hNM hp hl e0 hPL htot
      go_enter Tryd.func20, Tryd.ntmps20
      go_wp2_with fail
      refine hN.mono ?_
      clear hN
      rintro e w1 ⟨rfl, hb2⟩
      have hB1 := hb1.trans (hb2.mono hb1.size)
      have p1 := (hb2.block w.heap.size hlp).trans p0
      have x1 := cellB p1 2 (.string (bs t)) rfl
      have x2 := cellB p1 3 (.string (bs tg)) rfl
      have hb3 : Below w1.heap.size w1 (w1.alloc (.cells #[.string (bs NM), .string (bs t), .string (bs tg)] 9)) := (Below.refl _ _).alloc (Nat.le_refl _) _
      have hB3 := hB1.trans (hb3.mono hB1.size)
      clear hb2 p0
      go_wp2_with (go_at_call 34; refine (hPk _ _ (he.next hB3) (Sl_built3 w1 _ _ _)).mono ?_; rintro e w4 ⟨rfl, hb4⟩)
      go_ret2
      exact ⟨rfl, hB3.trans (hb4.mono hB3.size)⟩
    · have e0 : sEncE g n tg = 4 := by rw [sEncE, if_neg (fun c => c hp), if_neg hl]
      rw [sEncV, e0, if_neg (by decide)]
      have hq : (((bs tg).size : Int) != 16) = true := by rw [bs_size]; simp; omega
      clear hl e0
      obtain ⟨NM, hNM⟩ : ∃ x, nameL g n = x := ⟨_, rfl⟩
      rw [hNM] at hN hnl
      clear hNM hp
      go_enter Tryd.func20, Tryd.ntmps20
      go_wp2_with fail
      refine hN.mono ?_
      clear hN
      rintro e w1 ⟨rfl, hb2⟩
      have hB1 := hb1.trans (hb2.mono hb1.size)
      have p1 := (hb2.block w.heap.size hlp).trans p0
      have x2 := cellB p1 3 (.string (bs tg)) rfl
      go_wp2
      go_ret2
      exact ⟨rfl, hB1⟩
  · have e0 : sEncE g n tg = 1 := by rw [sEncE, if_pos hp]
    rw [sEncV, e0, if_neg (by decide)]
    rw [show nameE g n = 1 from if_neg hp, show nameV g n = [] from if_neg hp] at hN
    go_enter Tryd.func20, Tryd.ntmps20
    go_wp2_with fail
    refine hN.mono ?_
    clear hN
    rintro e w1 ⟨rfl, hb2⟩
    go_wp2
    go_ret2
    exact ⟨rfl, hb1.trans (hb2.mono hb1.size)⟩

set_option maxRecDepth 20000 in
set_option maxHeartbeats 1000000 in
theorem rsEncode_any (g n : Int) (t tg : List UInt8) (w : World) (ht : t.length ≤ 500000) :
    Calls Tryd.prog 21 #[.agg #[.int .i64 g, .int .i64 n], .string (bs t), .string (bs tg)] w fun e W' => e = .returned (.tuple #[.string (bs (sEncV g n t tg)), .int .i64 (sEncE g n tg)]) ∧ Below w.heap.size w W' := by
  have hb1 : Below w.heap.size w (w.alloc (.cells #[.int .i64 g, .int .i64 n] 23)) := (Below.refl _ w).alloc (Nat.le_refl _) _
  have hN := rName_any g n (w.alloc (.cells #[.int .i64 g, .int .i64 n] 23))
  by_cases hp : isP g n
  · rw [show nameE g n = 0 from if_pos hp, show nameV g n = nameL g n from if_pos hp] at hN
    have hnl := name_len g n hp
    by_cases hl : tg.length = 16
    · have e0 := sEnc_of hp hl
      rw [sEncV, if_pos e0, e0]
      have hq : (((bs tg).size : Int) != 16) = false := by rw [bs_size, hl]; rfl
      obtain ⟨NM, hNM⟩ : ∃ x, nameL g n = x := ⟨_, rfl⟩
      rw [hNM] at hN hnl ⊢
      have htot : tot [NM, t, tg] ≤ 1000000 := by rw [tot3]; omega
      obtain ⟨PL, hPL⟩ : ∃ x, packL [NM, t, tg] = x := ⟨_, rfl⟩
      have hPk : ∀ W v, Sl W v [NM, t, tg] → Calls Tryd.prog 36 #[v] W fun e W' => e = .returned (.string (bs PL)) ∧ Below W.heap.size W W' := by
        intro W v h2
        have := rPack_any [NM, t, tg] v W htot (by simp) h2
        rw [hPL] at this
        exact this
      rw [hPL]
      clear hNM hp hl e0 hPL htot
      go_enter Tryd.func21, Tryd.ntmps21
      go_wp2_with fail
      refine hN.mono ?_
      clear hN
      rintro e w1 ⟨rfl, hb2⟩
      have hB1 := hb1.trans (hb2.mono hb1.size)
      have hb3 : Below w1.heap.size w1 (w1.alloc (.cells #[.string (bs NM), .string (bs t), .string (bs tg)] 9)) := (Below.refl _ _).alloc (Nat.le_refl _) _
      have hB3 := hB1.trans (hb3.mono hB1.size)
      clear hb2
      go_wp2_with (go_at_call 36; refine (hPk _ _ (Sl_built3 w1 _ _ _)).mono ?_; rintro e w4 ⟨rfl, hb4⟩)
      go_ret2
      exact ⟨rfl, hB3.trans (hb4.mono hB3.size)⟩
    · have e0 : sEncE g n tg = 4 := by rw [sEncE, if_neg (fun c => c hp), if_neg hl]
      rw [sEncV, e0, if_neg (by decide)]
      have hq : (((bs tg).size : Int) != 16) = true := by rw [bs_size]; simp; omega
      clear hl e0
      obtain ⟨NM, hNM⟩ : ∃ x, nameL g n = x := ⟨_, rfl⟩
      rw [hNM] at hN hnl
      clear hNM hp
      go_enter Tryd.func21, Tryd.ntmps21
      go_wp2_with fail
      refine hN.mono ?_
      clear hN
      rintro e w1 ⟨rfl, hb2⟩
      have hB1 := hb1.trans (hb2.mono hb1.size)
      go_wp2
      go_ret2
      exact ⟨rfl, hB1⟩
  · have e0 : sEncE g n tg = 1 := by rw [sEncE, if_pos hp]
    rw [sEncV, e0, if_neg (by decide)]
    rw [show nameE g n = 1 from if_neg hp, show nameV g n = [] from if_neg hp] at hN
    go_enter Tryd.func21, Tryd.ntmps21
    go_wp2_with fail
    refine hN.mono ?_
    clear hN
    rintro e w1 ⟨rfl, hb2⟩
    go_wp2
    go_ret2
    exact ⟨rfl, hb1.trans (hb2.mono hb1.size)⟩
end Go.Proofs.YtoniohmceaflnaaDoor
