/- The party of a name, walked. -/
import Derived.Test.YtmkjcfakopbdhaaGreatDoorPtA
namespace Go.Proofs.YtmkjcfakopbdhaaGreatDoor
open Go.RowKit
attribute [local go_sem ↓] Go.wp_at_zero Go.wp_at_succ

theorem tot_mem {l : List (List UInt8)} {t : List UInt8} (h : t ∈ l) : t.length ≤ tot l := by
  induction l with
  | nil => cases h
  | cons a l ih =>
    rw [tot_cons]
    rcases List.mem_cons.1 h with rfl | h
    · omega
    · have := ih h; omega
theorem texts_mem {s t : List UInt8} (h : t ∈ texts s) : t.length ≤ s.length := by
  unfold texts at h
  split at h
  · by_cases h0 : s = []
    · subst h0; rw [items_nil] at h; cases h
    · have := items_tot h0
      have := tot_mem h
      omega
  · cases h
/-- A slice of some texts, its cells. -/
theorem Sl.cells2 {w : World} {v : Value} {a b : List UInt8} (h : Sl w v [a, b]) : ∃ g o cap, v = .slice (some ⟨g, o, none⟩) 2 cap ∧ g < w.heap.size ∧ w.cell? ⟨g, o, none⟩ = some (.string (bs a)) ∧ w.cell? ⟨g, o + 1, none⟩ = some (.string (bs b)) := by
  rcases h with ⟨h, _⟩ | ⟨g, o, cap, rfl, hlt, h⟩
  · cases h
  · exact ⟨g, o, cap, rfl, hlt, h 0 a rfl, h 1 b rfl⟩
theorem Sl.cells3 {w : World} {v : Value} {a b c : List UInt8} (h : Sl w v [a, b, c]) : ∃ g o cap, v = .slice (some ⟨g, o, none⟩) 3 cap ∧ g < w.heap.size ∧ w.cell? ⟨g, o, none⟩ = some (.string (bs a)) ∧ w.cell? ⟨g, o + 1, none⟩ = some (.string (bs b)) ∧ w.cell? ⟨g, o + 2, none⟩ = some (.string (bs c)) := by
  rcases h with ⟨h, _⟩ | ⟨g, o, cap, rfl, hlt, h⟩
  · cases h
  · exact ⟨g, o, cap, rfl, hlt, h 0 a rfl, h 1 b rfl, h 2 c rfl⟩
theorem partyT_not2 {l : List (List UInt8)} (h : l.length ≠ 2) : partyT l = none := by
  unfold partyT
  split
  · exact absurd rfl h
  · rfl
theorem err_cases (s : List UInt8) : errOf s = 0 ∨ errOf s = 4 ∧ texts s = [] := by
  unfold errOf texts
  by_cases h : good s
  · rw [if_pos h]; exact .inl rfl
  · rw [if_neg h, if_neg h]; exact .inr ⟨rfl, rfl⟩

set_option maxRecDepth 20000 in
set_option maxHeartbeats 2000000 in
theorem Party_any (s : List UInt8) (w : World) (hs : s.length ≤ 1000000) (he : Env w) :
    Calls Tryz.prog 21 #[.string (bs s)] w fun e W' => e = .returned (.tuple #[.agg #[.int .i64 (partyG s), .int .i64 (partyN s)], .int .i64 (partyE s)]) ∧ Below w.heap.size w W' := by
  have hb0 : Below w.heap.size w (w.alloc (.cells #[.int .i64 0, .int .i64 0] 23)) := (Below.refl _ w).alloc (Nat.le_refl _) _
  have r0 : (w.alloc (.cells #[.int .i64 0, .int .i64 0] 23)).heap[w.heap.size]? = some (.cells #[.int .i64 0, .int .i64 0] 23) := heap_alloc_new _ _
  have hlp : w.heap.size < (w.alloc (.cells #[.int .i64 0, .int .i64 0] 23)).heap.size := by simp
  have hU := Unpack_any s (w.alloc (.cells #[.int .i64 0, .int .i64 0] 23)) hs (he.next hb0)
  by_cases h2 : (texts s).length = 2
  · have h0 : errOf s = 0 := by
      rcases err_cases s with h | ⟨_, h⟩
      · exact h
      · rw [h] at h2; cases h2
    obtain ⟨a, b, hab⟩ : ∃ a b, texts s = [a, b] := by
      match hT : texts s with
      | [] => rw [hT] at h2; cases h2
      | [_] => rw [hT] at h2; cases h2
      | [a, b] => exact ⟨a, b, rfl⟩
      | _ :: _ :: _ :: _ => rw [hT] at h2; simp at h2
    have hla := texts_mem (s := s) (t := a) (by rw [hab]; simp)
    have hlb := texts_mem (s := s) (t := b) (by rw [hab]; simp)
    have hP : partyL s = party2 (toNumL a) (toNumL b) := by rw [partyL, hab]; rfl
    obtain ⟨PG, hPG⟩ : ∃ x, partyG s = x := ⟨_, rfl⟩
    obtain ⟨PN, hPN⟩ : ∃ x, partyN s = x := ⟨_, rfl⟩
    obtain ⟨PE, hPE⟩ : ∃ x, partyE s = x := ⟨_, rfl⟩
    obtain ⟨A, hA⟩ : ∃ x, tnV a = x := ⟨_, rfl⟩
    obtain ⟨B, hB⟩ : ∃ x, tnV b = x := ⟨_, rfl⟩
    obtain ⟨EA, hEA⟩ : ∃ x, tnE a = x := ⟨_, rfl⟩
    obtain ⟨EB, hEB⟩ : ∃ x, tnE b = x := ⟨_, rfl⟩
    obtain ⟨EN, hEN⟩ : ∃ x, nameE A B = x := ⟨_, rfl⟩
    have hcase : (EA = 0 ∧ EB = 0 ∧ EN = 0 ∧ PE = 0 ∧ PG = A ∧ PN = B) ∨ (PE = 4 ∧ PG = 0 ∧ PN = 0 ∧ (EA = 4 ∨ EA = 0 ∧ (EB = 4 ∨ EB = 0 ∧ EN = 1))) := by
      rw [← hPG, ← hPN, ← hPE, ← hEN, partyG, partyN, partyE, hP, ← hA, ← hB, ← hEA, ← hEB]
      rcases ha : toNumL a with _ | x
      · exact .inr ⟨rfl, rfl, rfl, .inl (tnV_none ha).2⟩
      rcases hb : toNumL b with _ | y
      · exact .inr ⟨rfl, rfl, rfl, .inr ⟨(tnV_some ha).2, .inl (tnV_none hb).2⟩⟩
      rw [(tnV_some ha).1, (tnV_some ha).2, (tnV_some hb).1, (tnV_some hb).2]
      by_cases hp : isP x y
      · exact .inl ⟨rfl, rfl, if_pos hp, by rw [party2, if_pos hp]; rfl, by rw [party2, if_pos hp]; rfl, by rw [party2, if_pos hp]; rfl⟩
      · exact .inr ⟨by rw [party2, if_neg hp]; rfl, by rw [party2, if_neg hp]; rfl, by rw [party2, if_neg hp]; rfl, .inr ⟨rfl, .inr ⟨rfl, if_neg hp⟩⟩⟩
    rw [hPG, hPN, hPE]
    rw [h0, hab] at hU
    clear hPG hPN hPE hP h0 h2 hab
    go_enter Tryz.func21, Tryz.ntmps21
    go_wp2_with fail
    refine hU.mono ?_
    clear hU
    rintro e w1 ⟨v, rfl, hv, hb1⟩
    obtain ⟨vb, vo, vc, rfl, hvl, c0, c1⟩ := (Sl.of_owns (l := [a, b]) hv).cells2
    have hB1 := hb0.trans (hb1.mono hb0.size)
    have r1 := (hb1.block w.heap.size hlp).trans r0
    have hl1 : w.heap.size < w1.heap.size := (Array.getElem?_eq_some_iff.1 r1).1
    have hTa := ToNum_any (bs a) w1 (by rw [bs_size]; omega) (he.next hB1)
    rw [bs_list, hA, hEA] at hTa
    clear hv hb1 r0 hb0 hlp
    go_wp2_with fail
    refine hTa.mono ?_
    clear hTa
    rintro e w2 ⟨rfl, hb2⟩
    have hB2 := hB1.trans (hb2.mono hB1.size)
    have r2 := (hb2.block w.heap.size hl1).trans r1
    have hl2 : w.heap.size < w2.heap.size := (Array.getElem?_eq_some_iff.1 r2).1
    have d1 := (hb2.cell (p := ⟨vb, vo + 1, none⟩) hvl).trans c1
    have hTb := ToNum_any (bs b) w2 (by rw [bs_size]; omega) (he.next hB2)
    rw [bs_list, hB, hEB] at hTb
    clear hb2 c0 c1 r1 hB1
    go_wp2_with fail
    refine hTb.mono ?_
    clear hTb
    rintro e w3 ⟨rfl, hb3⟩
    have hB3 := hB2.trans (hb3.mono hB2.size)
    have r3 := (hb3.block w.heap.size hl2).trans r2
    have hl3 : w.heap.size < w3.heap.size := (Array.getElem?_eq_some_iff.1 r3).1
    have hb4 : Below w3.heap.size w3 (w3.alloc (.cells #[.int .i64 A, .int .i64 B] 23)) := (Below.refl _ _).alloc (Nat.le_refl _) _
    have hB4 := hB3.trans (hb4.mono hB3.size)
    have q4 : (w3.alloc (.cells #[.int .i64 A, .int .i64 B] 23)).heap[w3.heap.size]? = some (.cells #[.int .i64 A, .int .i64 B] 23) := heap_alloc_new _ _
    have r4 := (hb4.block w.heap.size hl3).trans r3
    have hN := Name_any A B (w3.alloc (.cells #[.int .i64 A, .int .i64 B] 23)) (he.next hB4).p
    rw [hEN] at hN
    have hl4 : w3.heap.size < (w3.alloc (.cells #[.int .i64 A, .int .i64 B] 23)).heap.size := by simp
    clear hb3 d1 r2 hB2 hA hB hEA hEB hEN
    go_wp2_with fail
    refine hN.mono ?_
    clear hN
    rintro e w5 ⟨rfl, hb5⟩
    have hB5 := hB4.trans (hb5.mono hB4.size)
    have r5 := (hb5.block w.heap.size (Nat.lt_of_lt_of_le hl3 hb4.size)).trans r4
    have q5 := (hb5.block w3.heap.size hl4).trans q4
    have f0 := frozenB r5 0
    have f1 := frozenB r5 1
    have s0 := cellB r5 0 _ rfl
    have s1 := cellB r5 1 _ rfl
    have x0 := cellB q5 0 _ rfl
    have x1 := cellB q5 1 _ rfl
    clear hb5 r4 q4 hb4 hB4
    rcases hcase with ⟨rfl, rfl, rfl, rfl, rfl, rfl⟩ | ⟨rfl, rfl, rfl, hh⟩
    · go_wp2
      have hr4 := setB (setB r5 0 (.int .i64 PG)) 1 (.int .i64 PN)
      have z0 := cellB hr4 0 (.int .i64 PG) rfl
      have z1 := cellB hr4 1 (.int .i64 PN) rfl
      have hBz := (hB5.setCell (p := ⟨w.heap.size, 0, none⟩) (Nat.le_refl _) (.int .i64 PG)).setCell (p := ⟨w.heap.size, 1, none⟩) (Nat.le_refl _) (.int .i64 PN)
      exact bodyPost_ret (v := .tuple #[.agg #[.int .i64 PG, .int .i64 PN], .int .i64 0]) (by simp [results, Tryz.f21, go_sem, z0, z1]) rfl ⟨rfl, hBz⟩
    · have hr4 := setB (setB r5 0 (.int .i64 0)) 1 (.int .i64 0)
      have z0 := cellB hr4 0 (.int .i64 0) rfl
      have z1 := cellB hr4 1 (.int .i64 0) rfl
      have hBz := (hB5.setCell (p := ⟨w.heap.size, 0, none⟩) (Nat.le_refl _) (.int .i64 0)).setCell (p := ⟨w.heap.size, 1, none⟩) (Nat.le_refl _) (.int .i64 0)
      clear hr4
      rcases hh with rfl | ⟨rfl, rfl | ⟨rfl, rfl⟩⟩
      all_goals
        go_wp2
        exact bodyPost_ret (v := .tuple #[.agg #[.int .i64 0, .int .i64 0], .int .i64 4]) (by simp [results, Tryz.f21, go_sem, z0, z1]) rfl ⟨rfl, hBz⟩
  · have hP : partyL s = none := partyT_not2 h2
    rw [partyG, partyN, partyE, hP]
    simp only [Option.getD_none, Option.isSome_none, Bool.false_eq_true, if_false]
    have hcase : (errOf s = 0 ∧ (((texts s).length : Int) != 2) = true) ∨ (errOf s = 4) := by
      rcases err_cases s with h | ⟨h, _⟩
      · exact .inl ⟨h, by simp; omega⟩
      · exact .inr h
    obtain ⟨ES, hES⟩ : ∃ x, errOf s = x := ⟨_, rfl⟩
    rw [hES] at hU hcase
    obtain ⟨L, hL⟩ : ∃ L, texts s = L := ⟨_, rfl⟩
    rw [hL] at hU hcase
    clear hES hL h2 hP
    go_enter Tryz.func21, Tryz.ntmps21
    go_wp2_with fail
    refine hU.mono ?_
    clear hU
    rintro e w1 ⟨v, rfl, hv, hb1⟩
    obtain ⟨va, vc, rfl⟩ := (Sl.of_owns hv).slice
    have hB1 := hb0.trans (hb1.mono hb0.size)
    have r1 := (hb1.block w.heap.size hlp).trans r0
    have f0 := frozenB r1 0
    have f1 := frozenB r1 1
    have s0 := cellB r1 0 _ rfl
    have s1 := cellB r1 1 _ rfl
    have hr4 := setB (setB r1 0 (.int .i64 0)) 1 (.int .i64 0)
    have z0 := cellB hr4 0 (.int .i64 0) rfl
    have z1 := cellB hr4 1 (.int .i64 0) rfl
    have hBz := (hB1.setCell (p := ⟨w.heap.size, 0, none⟩) (Nat.le_refl _) (.int .i64 0)).setCell (p := ⟨w.heap.size, 1, none⟩) (Nat.le_refl _) (.int .i64 0)
    clear hr4 hv hb1 r0 hb0
    rcases hcase with ⟨rfl, hne⟩ | rfl
    all_goals
      go_wp2
      exact bodyPost_ret (v := .tuple #[.agg #[.int .i64 0, .int .i64 0], .int .i64 4]) (by simp [results, Tryz.f21, go_sem, z0, z1]) rfl ⟨rfl, hBz⟩
end Go.Proofs.YtmkjcfakopbdhaaGreatDoor
