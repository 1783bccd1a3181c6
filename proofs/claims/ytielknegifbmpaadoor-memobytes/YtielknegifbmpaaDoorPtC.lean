/- The party of a name by the plain text: a loop in a loop. -/
import Derived.Test.YtielknegifbmpaaDoorPtB
import Derived.Test.YtielknegifbmpaaDoorMeB
import Derived.Deep.LoopGhost
namespace Go.Proofs.YtielknegifbmpaaDoor
open Go.RowKit
attribute [local go_sem ↓] Go.wp_at_zero Go.wp_at_succ

set_option maxRecDepth 20000 in
set_option maxHeartbeats 2000000 in
theorem rParty_any (s : List UInt8) (w : World) :
    Calls Tryd.prog 25 #[.string (bs s)] w fun e W' => e = .returned (.tuple #[.agg #[.int .i64 (partyG s), .int .i64 (partyN s)], .int .i64 (partyE s)]) ∧ Below w.heap.size w W' := by
  have hb0 : Below w.heap.size w (w.alloc (.cells #[.int .i64 0, .int .i64 0] 23)) := (Below.refl _ w).alloc (Nat.le_refl _) _
  have r0 : (w.alloc (.cells #[.int .i64 0, .int .i64 0] 23)).heap[w.heap.size]? = some (.cells #[.int .i64 0, .int .i64 0] 23) := heap_alloc_new _ _
  obtain ⟨PG, hPG⟩ : ∃ x, partyG s = x := ⟨_, rfl⟩
  obtain ⟨PN, hPN⟩ : ∃ x, partyN s = x := ⟨_, rfl⟩
  obtain ⟨PE, hPE⟩ : ∃ x, partyE s = x := ⟨_, rfl⟩
  have HS : ∀ g n, isP g n → nameL g n = s → PG = g ∧ PN = n ∧ PE = 0 := by
    intro g n h1 h2
    rw [← hPG, ← hPN, ← hPE, partyG, partyN, partyE, ← h2, party_name h1]
    exact ⟨rfl, rfl, rfl⟩
  have HN : (∀ g n, isP g n → nameL g n ≠ s) → PG = 0 ∧ PN = 0 ∧ PE = 4 := by
    intro h
    rw [← hPG, ← hPN, ← hPE, partyG, partyN, partyE, party_none h]
    exact ⟨rfl, rfl, rfl⟩
  rw [hPG, hPN, hPE]
  have HH : Hid ((∀ g n, isP g n → nameL g n = s → PG = g ∧ PN = n ∧ PE = 0) ∧ ((∀ g n, isP g n → nameL g n ≠ s) → PG = 0 ∧ PN = 0 ∧ PE = 4)) := ⟨HS, HN⟩
  clear hPG hPN hPE HS HN
  go_enter Tryd.func25, Tryd.ntmps25
  go_wp2
  go_loopg [4] 6 (fun k i wr => ∃ g : Int, i = .int .i64 g ∧ -1 ≤ g ∧ g ≤ 5 ∧ g + (k : Int) = 5 ∧ Hid (∀ g' n', isP g' n' → g' < g → nameL g' n' ≠ s) ∧ wr.heap[w.heap.size]? = some (.cells #[.int .i64 0, .int .i64 0] 23) ∧ Below w.heap.size w wr)
  case atStart => exact ⟨-1, rfl, by decide, by decide, by decide, fun g' n' h1 h2 => by obtain ⟨h, _⟩ := h1; omega, r0, hb0⟩
  case round =>
    obtain ⟨g, rfl, hg1, hg5, hgk, hpast, r1, hB1⟩ := hrel
    clear r0 hb0
    by_cases hlt : g ≤ 4
    · go_wp2
      go_loopg [5] 16 (fun k i wr2 => ∃ n : Int, i = .int .i64 n ∧ 0 ≤ n ∧ n ≤ 16 ∧ n + (k : Int) = 16 ∧ Hid (∀ n', isP g n' → n' < n → nameL g n' ≠ s) ∧ wr2.heap[w.heap.size]? = some (.cells #[.int .i64 0, .int .i64 0] 23) ∧ Below w.heap.size w wr2)
      case atStart => exact ⟨0, rfl, by decide, by decide, by decide, fun n' h1 h2 => by obtain ⟨_, _, h, _⟩ := h1; omega, r1, hB1⟩
      case round =>
        obtain ⟨n, rfl, hn0, hn16, hnk, hpast2, r2, hB2⟩ := hrel
        clear r1 hB1
        by_cases hnlt : n ≤ 15
        · have hp : isP g n := ⟨hg1, hlt, hn0, hnlt⟩
          have hN := rName_any g n
          rw [show nameE g n = 0 from if_pos hp, show nameV g n = nameL g n from if_pos hp] at hN
          have hl2 : w.heap.size < wr.heap.size := (Array.getElem?_eq_some_iff.1 r2).1
          have hba : Below wr.heap.size wr (wr.alloc (.cells #[.int .i64 g, .int .i64 n] 23)) := (Below.refl _ _).alloc (Nat.le_refl _) _
          have hBa := hB2.trans (hba.mono hB2.size)
          have ra := (hba.block w.heap.size hl2).trans r2
          have q4 : (wr.alloc (.cells #[.int .i64 g, .int .i64 n] 23)).heap[wr.heap.size]? = some (.cells #[.int .i64 g, .int .i64 n] 23) := heap_alloc_new _ _
          have hl4 : wr.heap.size < (wr.alloc (.cells #[.int .i64 g, .int .i64 n] 23)).heap.size := by simp
          have hl5 := Nat.lt_of_lt_of_le hl2 hba.size
          clear hba
          by_cases heq : nameL g n = s
          · obtain ⟨rfl, rfl, rfl⟩ := HH.out.1 g n hp heq
            rw [heq] at hN
            have hss := strs_same s
            clear heq hp HH
            go_wp2_with fail
            refine (hN _).mono ?_
            rintro e w5 ⟨rfl, hb5⟩
            have hB5 := hBa.trans (hb5.mono hBa.size)
            have r5 := (hb5.block w.heap.size hl5).trans ra
            have q5 := (hb5.block wr.heap.size hl4).trans q4
            have f0 := frozenB r5 0
            have f1 := frozenB r5 1
            have s0 := cellB r5 0 _ rfl
            have s1 := cellB r5 1 _ rfl
            have x0 := cellB q5 0 _ rfl
            have x1 := cellB q5 1 _ rfl
            have hr4 := setB (setB r5 0 (.int .i64 PG)) 1 (.int .i64 PN)
            have z0 := cellB hr4 0 (.int .i64 PG) rfl
            have z1 := cellB hr4 1 (.int .i64 PN) rfl
            have hBz := (hB5.setCell (p := ⟨w.heap.size, 0, none⟩) (Nat.le_refl _) (.int .i64 PG)).setCell (p := ⟨w.heap.size, 1, none⟩) (Nat.le_refl _) (.int .i64 PN)
            clear hr4 hb5 hN
            go_wp2
            exact bodyPost_ret (v := .tuple #[.agg #[.int .i64 PG, .int .i64 PN], .int .i64 0]) (by simp [results, Tryd.f25, go_sem, z0, z1]) rfl ⟨rfl, hBz⟩
          · have hss := strs_other heq
            have HQ : Hid (nameL g n ≠ s) := heq
            obtain ⟨NM, hNM⟩ : ∃ x, nameL g n = x := ⟨_, rfl⟩
            rw [hNM] at hN hss
            clear heq hp hNM
            go_wp2_with fail
            refine (hN _).mono ?_
            rintro e w5 ⟨rfl, hb5⟩
            have hB5 := hBa.trans (hb5.mono hBa.size)
            have r5 := (hb5.block w.heap.size hl5).trans ra
            clear hb5 hN
            go_wp2
            go_roundg (15 - n).toNat
            case measure => omega
            case rel =>
              refine ⟨n + 1, rfl, by omega, by omega, by omega, fun n' h1 h2 => ?_, r5, hB5⟩
              by_cases hnn : n' = n
              · rw [hnn]; exact HQ.out
              · exact hpast2.out n' h1 (by omega)
        · go_wp2
          go_roundg (4 - g).toNat
          case measure => omega
          case rel =>
            refine ⟨g + 1, rfl, by omega, by omega, by omega, fun g' n' h1 h2 => ?_, r2, hB2⟩
            by_cases hgg : g' = g
            · subst hgg; exact hpast2.out n' h1 (by obtain ⟨_, _, _, h⟩ := h1; omega)
            · exact hpast.out g' n' h1 (by omega)
    · obtain ⟨rfl, rfl, rfl⟩ := HH.out.2 (fun g' n' h1 => hpast.out g' n' h1 (by obtain ⟨_, h, _⟩ := h1; omega))
      have f0 := frozenB r1 0
      have f1 := frozenB r1 1
      have s0 := cellB r1 0 _ rfl
      have s1 := cellB r1 1 _ rfl
      have hr4 := setB (setB r1 0 (.int .i64 0)) 1 (.int .i64 0)
      have z0 := cellB hr4 0 (.int .i64 0) rfl
      have z1 := cellB hr4 1 (.int .i64 0) rfl
      have hBz := (hB1.setCell (p := ⟨w.heap.size, 0, none⟩) (Nat.le_refl _) (.int .i64 0)).setCell (p := ⟨w.heap.size, 1, none⟩) (Nat.le_refl _) (.int .i64 0)
      clear hr4 HH
      go_wp2
      exact bodyPost_ret (v := .tuple #[.agg #[.int .i64 0, .int .i64 0], .int .i64 4]) (by simp [results, Tryd.f25, go_sem, z0, z1]) rfl ⟨rfl, hBz⟩
end Go.Proofs.YtielknegifbmpaaDoor
