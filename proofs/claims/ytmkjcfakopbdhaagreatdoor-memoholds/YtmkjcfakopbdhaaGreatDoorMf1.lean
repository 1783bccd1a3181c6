/- Kinds by the plain text: its table of rows, what a field may be. -/
import Derived.Test.YtmkjcfakopbdhaaGreatDoorMeD
import Derived.Test.YtmkjcfakopbdhaaGreatDoorMe1
import Derived.Deep.QuietTactic
namespace Go.Proofs.YtmkjcfakopbdhaaGreatDoor
section
open Go.RowKit
attribute [local go_sem ↓] Go.wp_at_zero Go.wp_at_succ

def rowsB : List (List UInt8) := [[], [45, 45, 116, 46], [48, 49, 116, 103], [48, 49, 116, 103], [45, 49, 116, 103], [49, 45, 116, 103], [49, 45, 116, 46], [45, 45, 116, 46], [48, 48, 46, 103], [48, 49, 116, 103], [45, 45, 116, 103], [45, 45, 116, 103], [45, 48, 46, 46]]
def rowB (k : Nat) : List UInt8 := rowsB.getD k []
def wiB (n : Int) (c : UInt8) : Bool := if c = 45 then n == 0 else if c = 48 then decide (0 ≤ n) && decide (n ≤ 1099511627776) else decide (1 ≤ n) && decide (n ≤ 1099511627776)
theorem row_is (k : Nat) (h1 : 1 ≤ k) (h2 : k ≤ 12) : ∃ c0 c1 c2 c3 : UInt8, rowB k = [c0, c1, c2, c3] ∧ (c0 = 45 ∨ c0 = 48 ∨ c0 = 49) ∧ (c1 = 45 ∨ c1 = 48 ∨ c1 = 49) ∧ (∀ v, wiB v c0 = decide (vlo k ≤ v ∧ v ≤ vhi k)) ∧ (∀ m, wiB m c1 = decide (nlo k ≤ m ∧ m ≤ nhi k)) ∧ (c2 = 46 ∧ txK k = 0 ∨ c2 = 116 ∧ txK k = 524288) ∧ (c3 = 103 ∧ tgK k = 16 ∨ c3 = 46 ∧ tgK k = 0) := by
  have e0 : ∀ v : Int, wiB v 45 = decide ((0 : Int) ≤ v ∧ v ≤ 0) := fun v => by
    show (v == 0) = _
    by_cases h : v = 0
    · subst h; rfl
    · rw [show (v == 0) = false by simpa using h, decide_eq_false (by omega)]
  have e1 : ∀ v : Int, wiB v 48 = decide ((0 : Int) ≤ v ∧ v ≤ 1099511627776) := fun v => by
    show (decide (0 ≤ v) && decide (v ≤ 1099511627776)) = _
    by_cases h : 0 ≤ v <;> by_cases h' : v ≤ 1099511627776 <;> simp [h, h']
  have e2 : ∀ v : Int, wiB v 49 = decide ((1 : Int) ≤ v ∧ v ≤ 1099511627776) := fun v => by
    show (decide (1 ≤ v) && decide (v ≤ 1099511627776)) = _
    by_cases h : 1 ≤ v <;> by_cases h' : v ≤ 1099511627776 <;> simp [h, h']
  have : k = 1 ∨ k = 2 ∨ k = 3 ∨ k = 4 ∨ k = 5 ∨ k = 6 ∨ k = 7 ∨ k = 8 ∨ k = 9 ∨ k = 10 ∨ k = 11 ∨ k = 12 := by omega
  rcases this with rfl | rfl | rfl | rfl | rfl | rfl | rfl | rfl | rfl | rfl | rfl | rfl
  · exact ⟨45, 45, 116, 46, rfl, .inl rfl, .inl rfl, e0, e0, .inr ⟨rfl, rfl⟩, .inr ⟨rfl, rfl⟩⟩
  · exact ⟨48, 49, 116, 103, rfl, .inr (.inl rfl), .inr (.inr rfl), e1, e2, .inr ⟨rfl, rfl⟩, .inl ⟨rfl, rfl⟩⟩
  · exact ⟨48, 49, 116, 103, rfl, .inr (.inl rfl), .inr (.inr rfl), e1, e2, .inr ⟨rfl, rfl⟩, .inl ⟨rfl, rfl⟩⟩
  · exact ⟨45, 49, 116, 103, rfl, .inl rfl, .inr (.inr rfl), e0, e2, .inr ⟨rfl, rfl⟩, .inl ⟨rfl, rfl⟩⟩
  · exact ⟨49, 45, 116, 103, rfl, .inr (.inr rfl), .inl rfl, e2, e0, .inr ⟨rfl, rfl⟩, .inl ⟨rfl, rfl⟩⟩
  · exact ⟨49, 45, 116, 46, rfl, .inr (.inr rfl), .inl rfl, e2, e0, .inr ⟨rfl, rfl⟩, .inr ⟨rfl, rfl⟩⟩
  · exact ⟨45, 45, 116, 46, rfl, .inl rfl, .inl rfl, e0, e0, .inr ⟨rfl, rfl⟩, .inr ⟨rfl, rfl⟩⟩
  · exact ⟨48, 48, 46, 103, rfl, .inr (.inl rfl), .inr (.inl rfl), e1, e1, .inl ⟨rfl, rfl⟩, .inl ⟨rfl, rfl⟩⟩
  · exact ⟨48, 49, 116, 103, rfl, .inr (.inl rfl), .inr (.inr rfl), e1, e2, .inr ⟨rfl, rfl⟩, .inl ⟨rfl, rfl⟩⟩
  · exact ⟨45, 45, 116, 103, rfl, .inl rfl, .inl rfl, e0, e0, .inr ⟨rfl, rfl⟩, .inl ⟨rfl, rfl⟩⟩
  · exact ⟨45, 45, 116, 103, rfl, .inl rfl, .inl rfl, e0, e0, .inr ⟨rfl, rfl⟩, .inl ⟨rfl, rfl⟩⟩
  · exact ⟨45, 48, 46, 46, rfl, .inl rfl, .inr (.inl rfl), e0, e1, .inl ⟨rfl, rfl⟩, .inr ⟨rfl, rfl⟩⟩

set_option maxRecDepth 20000 in
set_option maxHeartbeats 2000000 in
theorem krow_any (k : Nat) (h2 : k ≤ 12) (w : World) : Calls Tryz.prog 41 #[.int .i64 (k : Int)] w fun e W' => e = .returned (.string (bs (rowB k))) ∧ Below w.heap.size w W' := by
  have : k = 0 ∨ k = 1 ∨ k = 2 ∨ k = 3 ∨ k = 4 ∨ k = 5 ∨ k = 6 ∨ k = 7 ∨ k = 8 ∨ k = 9 ∨ k = 10 ∨ k = 11 ∨ k = 12 := by omega
  rcases this with rfl | rfl | rfl | rfl | rfl | rfl | rfl | rfl | rfl | rfl | rfl | rfl | rfl
  all_goals
    go_enter Tryz.func41, Tryz.ntmps41
    go_wp2
    go_ret
    exact ⟨rfl, (Below.refl _ w).alloc (Nat.le_refl _) _⟩

theorem rwithin_any (n : Int) (c : UInt8) (hc : c = 45 ∨ c = 48 ∨ c = 49) (w : World) : Calls Tryz.prog 58 #[.int .i64 n, .int .u8 c.toNat] w fun e W' => e = .returned (.bool (wiB n c)) ∧ W' = w := by
  rcases hc with rfl | rfl | rfl
  · rw [show wiB n 45 = (n == 0) from rfl]
    go_enter Tryz.func58, Tryz.ntmps58
    go_wp2
    go_ret
    exact ⟨rfl, rfl⟩
  · rw [show wiB n 48 = (decide (0 ≤ n) && decide (n ≤ 1099511627776)) from rfl]
    by_cases h1 : 0 ≤ n
    · by_cases h2 : n ≤ 1099511627776
      · rw [decide_eq_true h1, decide_eq_true h2]
        go_enter Tryz.func58, Tryz.ntmps58
        go_wp2
        go_ret
        exact ⟨rfl, rfl⟩
      · rw [decide_eq_true h1, decide_eq_false h2]
        go_enter Tryz.func58, Tryz.ntmps58
        go_wp2
        go_ret
        exact ⟨rfl, rfl⟩
    · rw [decide_eq_false h1]
      go_enter Tryz.func58, Tryz.ntmps58
      go_wp2
      go_ret
      exact ⟨rfl, rfl⟩
  · rw [show wiB n 49 = (decide (1 ≤ n) && decide (n ≤ 1099511627776)) from rfl]
    by_cases h1 : 1 ≤ n
    · by_cases h2 : n ≤ 1099511627776
      · rw [decide_eq_true h1, decide_eq_true h2]
        go_enter Tryz.func58, Tryz.ntmps58
        go_wp2
        go_ret
        exact ⟨rfl, rfl⟩
      · rw [decide_eq_true h1, decide_eq_false h2]
        go_enter Tryz.func58, Tryz.ntmps58
        go_wp2
        go_ret
        exact ⟨rfl, rfl⟩
    · rw [decide_eq_false h1]
      go_enter Tryz.func58, Tryz.ntmps58
      go_wp2
      go_ret
      exact ⟨rfl, rfl⟩
end
section
open Go.RowKit
attribute [local go_sem ↓] Go.wp_at_zero Go.wp_at_succ

theorem bs_toList (l : List UInt8) : (bs l).toList = l := by simp [bs, ByteArray.toList_eq]
set_option maxRecDepth 20000 in
set_option maxHeartbeats 4000000 in
theorem rRight_k (k : Nat) (hk1 : 1 ≤ k) (hk2 : k ≤ 12) (g n v m : Int) (hp : isP g n) (t tg : List UInt8) (w : World) :
    Calls Tryz.prog 40 #[.agg #[.int .i64 k, .int .i64 g, .int .i64 n, .int .i64 v, .int .i64 m, .string (bs t), .string (bs tg)]] w fun e W' => e = .returned (.int .i64 (if g = -1 ∧ anyK k = false then 1 else if okF k v m t.length then 0 else 4)) ∧ Below w.heap.size w W' := by
  have hb0 : Below w.heap.size w (w.alloc (.cells #[.int .i64 k, .int .i64 g, .int .i64 n, .int .i64 v, .int .i64 m, .string (bs t), .string (bs tg)] 38)) := (Below.refl _ w).alloc (Nat.le_refl _) _
  have p0 : (w.alloc (.cells #[.int .i64 k, .int .i64 g, .int .i64 n, .int .i64 v, .int .i64 m, .string (bs t), .string (bs tg)] 38)).heap[w.heap.size]? = some (.cells #[.int .i64 k, .int .i64 g, .int .i64 n, .int .i64 v, .int .i64 m, .string (bs t), .string (bs tg)] 38) := heap_alloc_new _ _
  have hlp : w.heap.size < (w.alloc (.cells #[.int .i64 k, .int .i64 g, .int .i64 n, .int .i64 v, .int .i64 m, .string (bs t), .string (bs tg)] 38)).heap.size := by simp
  have hI := fun W => Is_any g n W
  rw [decide_eq_true hp] at hI
  have hRow := fun W => krow_any k hk2 W
  obtain ⟨c0, c1, c2, c3, hrow, hc0, hc1, hv, hm, hc2, -⟩ := row_is k hk1 hk2
  have hW := fun n c hc W => rwithin_any n c hc W
  have hW0 := hv v
  have hW1 := hm m
  rw [hrow] at hRow
  have hlen : (bs t).size = t.length := bs_size t
  have HA : Hid (anyK k = false ↔ k ≠ 1 ∧ k ≠ 12) := by
    have : k = 1 ∨ k = 2 ∨ k = 3 ∨ k = 4 ∨ k = 5 ∨ k = 6 ∨ k = 7 ∨ k = 8 ∨ k = 9 ∨ k = 10 ∨ k = 11 ∨ k = 12 := by omega
    show _ ↔ _
    rcases this with rfl | rfl | rfl | rfl | rfl | rfl | rfl | rfl | rfl | rfl | rfl | rfl <;> decide
  obtain ⟨an, han⟩ : ∃ an, anyK k = an := ⟨_, rfl⟩
  obtain ⟨vl, hvl⟩ : ∃ x, vlo k = x := ⟨_, rfl⟩
  obtain ⟨vh, hvh⟩ : ∃ x, vhi k = x := ⟨_, rfl⟩
  obtain ⟨nl, hnl⟩ : ∃ x, nlo k = x := ⟨_, rfl⟩
  obtain ⟨nh, hnh⟩ : ∃ x, nhi k = x := ⟨_, rfl⟩
  obtain ⟨tx, htx⟩ : ∃ x, txK k = x := ⟨_, rfl⟩
  unfold okF
  rw [han, hvl, hvh, hnl, hnh, htx]
  rw [han] at HA
  rw [hvl, hvh] at hW0
  rw [hnl, hnh] at hW1
  rw [htx] at hc2
  clear hv hm hrow han hvl hvh hnl hnh htx hp
  obtain ⟨R, hR⟩ : ∃ R : Int, (if g = -1 ∧ an = false then 1 else if vl ≤ v ∧ v ≤ vh ∧ nl ≤ m ∧ m ≤ nh ∧ (t.length : Int) ≤ tx then 0 else 4) = R := ⟨_, rfl⟩
  have HR : Hid ((if g = -1 ∧ an = false then 1 else if vl ≤ v ∧ v ≤ vh ∧ nl ≤ m ∧ m ≤ nh ∧ (t.length : Int) ≤ tx then (0 : Int) else 4) = R) := hR
  rw [hR]
  clear hR
  have k0 : (1 : Int) ≤ (k : Int) := by omega
  have k1 : (k : Int) ≤ 12 := by omega
  by_cases cg : g = -1
  · subst cg
    by_cases ca : an = false
    · obtain ⟨e1, e2⟩ := HA.out.1 ca
      have HE : Hid (R = 1) := by show R = 1; rw [← HR.out, if_pos ⟨rfl, ca⟩]
      clear HR
      have d1 : ((k : Int) != 1) = true := by simp; omega
      have d2 : ((k : Int) != 12) = true := by simp; omega
      clear ca e1 e2 HA
      go_enter Tryz.func40, Tryz.ntmps40
      go_wp2_with (first | (go_at_call 57; refine (hI _).mono ?_; rintro e w1 ⟨rfl, hb1⟩; have p1 := (hb1.block w.heap.size hlp).trans p0; have x0 := cellB p1 0 (.int .i64 (k : Int)) rfl; have x1 := cellB p1 1 (.int .i64 (-1)) rfl; have hl1 : w.heap.size < w1.heap.size := (Array.getElem?_eq_some_iff.1 p1).1; have hB1 := hb0.trans (hb1.mono hb0.size); clear hb1))
      go_ret
      exact ⟨by rw [HE.out]; rfl, hB1⟩
    · have HN : Hid (¬ ((-1 : Int) = -1 ∧ an = false)) := fun c => ca c.2
      by_cases e1 : k = 1
      · have d1 : ((k : Int) != 1) = false := by subst e1; rfl
        clear e1 ca HA
        by_cases c1v : vl ≤ v ∧ v ≤ vh
        · rw [decide_eq_true c1v] at hW0
          by_cases c1m : nl ≤ m ∧ m ≤ nh
          · rw [decide_eq_true c1m] at hW1
            rcases hc2 with ⟨rfl, rfl⟩ | ⟨rfl, rfl⟩
            · by_cases c3t : t = []
              · have hte : (bs t).toList.isEmpty = true := by rw [bs_toList, c3t]; rfl
                have hq : decide ((524288 : Int) < ((bs t).size : Int)) = false := by rw [hlen, c3t]; rfl
                have HE : Hid (R = 0) := by
                  show R = _; rw [← HR.out, if_neg HN.out]; exact if_pos ⟨c1v.1, c1v.2, c1m.1, c1m.2, by rw [c3t]; simp⟩
                clear HR
                clear c1v c1m hlen c3t
                go_enter Tryz.func40, Tryz.ntmps40
                go_wp2_with (first | (go_at_call 57; refine (hI _).mono ?_; rintro e w1 ⟨rfl, hb1⟩; have p1 := (hb1.block w.heap.size hlp).trans p0; have x0 := cellB p1 0 (.int .i64 (k : Int)) rfl; have x1 := cellB p1 1 (.int .i64 (-1)) rfl; have hl1 : w.heap.size < w1.heap.size := (Array.getElem?_eq_some_iff.1 p1).1; have hB1 := hb0.trans (hb1.mono hb0.size); clear hb1))
                refine (hRow _).mono ?_
                rintro e w2 ⟨rfl, hb2⟩
                have p2 := (hb2.block w.heap.size hl1).trans p1
                have y2 := cellB p2 3 (.int .i64 v) rfl
                have y3 := cellB p2 4 (.int .i64 m) rfl
                have y4 := cellB p2 5 (.string (bs t)) rfl
                have hB2 := hB1.trans (hb2.mono hB1.size)
                clear hb2 x0 x1 p1 hl1 hB1 p0 hlp hb0 hI hRow k0 k1
                have i0 : ∀ W : World, (Instr.index 9 (.string (bs [c0, c1, 46, c3])) (.int .i64 0)).run Tryz.prog W = .ok (.int .u8 c0.toNat) W := fun W => rfl
                have i1 : ∀ W : World, (Instr.index 9 (.string (bs [c0, c1, 46, c3])) (.int .i64 1)).run Tryz.prog W = .ok (.int .u8 c1.toNat) W := fun W => rfl
                have i2 : ∀ W : World, (Instr.index 9 (.string (bs [c0, c1, 46, c3])) (.int .i64 2)).run Tryz.prog W = .ok (.int .u8 46) W := fun W => rfl
                go_wp2_with fail
                go_quiet (first | (go_at_call 58; refine Calls.quiet_of_same (hW _ _ (by assumption) _)))
                go_wp2
                go_ret
                exact ⟨by rw [HE.out]; rfl, below_drewN hB2 _⟩
              · have hte : (bs t).toList.isEmpty = false := by rw [bs_toList]; simpa using c3t
                have htl : 0 < t.length := List.length_pos_iff.2 c3t
                have HE : Hid (R = 4) := by
                  show R = _; rw [← HR.out, if_neg HN.out]; exact if_neg (fun c => by have := c.2.2.2.2; omega)
                clear HR
                clear c1v c1m hlen htl c3t
                go_enter Tryz.func40, Tryz.ntmps40
                go_wp2_with (first | (go_at_call 57; refine (hI _).mono ?_; rintro e w1 ⟨rfl, hb1⟩; have p1 := (hb1.block w.heap.size hlp).trans p0; have x0 := cellB p1 0 (.int .i64 (k : Int)) rfl; have x1 := cellB p1 1 (.int .i64 (-1)) rfl; have hl1 : w.heap.size < w1.heap.size := (Array.getElem?_eq_some_iff.1 p1).1; have hB1 := hb0.trans (hb1.mono hb0.size); clear hb1))
                refine (hRow _).mono ?_
                rintro e w2 ⟨rfl, hb2⟩
                have p2 := (hb2.block w.heap.size hl1).trans p1
                have y2 := cellB p2 3 (.int .i64 v) rfl
                have y3 := cellB p2 4 (.int .i64 m) rfl
                have y4 := cellB p2 5 (.string (bs t)) rfl
                have hB2 := hB1.trans (hb2.mono hB1.size)
                clear hb2 x0 x1 p1 hl1 hB1 p0 hlp hb0 hI hRow k0 k1
                have i0 : ∀ W : World, (Instr.index 9 (.string (bs [c0, c1, 46, c3])) (.int .i64 0)).run Tryz.prog W = .ok (.int .u8 c0.toNat) W := fun W => rfl
                have i1 : ∀ W : World, (Instr.index 9 (.string (bs [c0, c1, 46, c3])) (.int .i64 1)).run Tryz.prog W = .ok (.int .u8 c1.toNat) W := fun W => rfl
                have i2 : ∀ W : World, (Instr.index 9 (.string (bs [c0, c1, 46, c3])) (.int .i64 2)).run Tryz.prog W = .ok (.int .u8 46) W := fun W => rfl
                go_wp2_with fail
                go_quiet (first | (go_at_call 58; refine Calls.quiet_of_same (hW _ _ (by assumption) _)))
                go_wp2
                go_ret
                exact ⟨by rw [HE.out]; rfl, below_drewN hB2 _⟩
            · by_cases c3t : (t.length : Int) ≤ 524288
              · have hq : decide ((524288 : Int) < ((bs t).size : Int)) = false := by rw [hlen]; exact decide_eq_false (by omega)
                have HE : Hid (R = 0) := by
                  show R = _; rw [← HR.out, if_neg HN.out]; exact if_pos ⟨c1v.1, c1v.2, c1m.1, c1m.2, c3t⟩
                clear HR
                clear c1v c1m hlen c3t
                go_enter Tryz.func40, Tryz.ntmps40
                go_wp2_with (first | (go_at_call 57; refine (hI _).mono ?_; rintro e w1 ⟨rfl, hb1⟩; have p1 := (hb1.block w.heap.size hlp).trans p0; have x0 := cellB p1 0 (.int .i64 (k : Int)) rfl; have x1 := cellB p1 1 (.int .i64 (-1)) rfl; have hl1 : w.heap.size < w1.heap.size := (Array.getElem?_eq_some_iff.1 p1).1; have hB1 := hb0.trans (hb1.mono hb0.size); clear hb1))
                refine (hRow _).mono ?_
                rintro e w2 ⟨rfl, hb2⟩
                have p2 := (hb2.block w.heap.size hl1).trans p1
                have y2 := cellB p2 3 (.int .i64 v) rfl
                have y3 := cellB p2 4 (.int .i64 m) rfl
                have y4 := cellB p2 5 (.string (bs t)) rfl
                have hB2 := hB1.trans (hb2.mono hB1.size)
                clear hb2 x0 x1 p1 hl1 hB1 p0 hlp hb0 hI hRow k0 k1
                have i0 : ∀ W : World, (Instr.index 9 (.string (bs [c0, c1, 116, c3])) (.int .i64 0)).run Tryz.prog W = .ok (.int .u8 c0.toNat) W := fun W => rfl
                have i1 : ∀ W : World, (Instr.index 9 (.string (bs [c0, c1, 116, c3])) (.int .i64 1)).run Tryz.prog W = .ok (.int .u8 c1.toNat) W := fun W => rfl
                have i2 : ∀ W : World, (Instr.index 9 (.string (bs [c0, c1, 116, c3])) (.int .i64 2)).run Tryz.prog W = .ok (.int .u8 116) W := fun W => rfl
                go_wp2_with fail
                go_quiet (first | (go_at_call 58; refine Calls.quiet_of_same (hW _ _ (by assumption) _)))
                go_wp2
                go_ret
                exact ⟨by rw [HE.out]; rfl, below_drewN hB2 _⟩
              · have hq : decide ((524288 : Int) < ((bs t).size : Int)) = true := by rw [hlen]; exact decide_eq_true (by omega)
                have HE : Hid (R = 4) := by
                  show R = _; rw [← HR.out, if_neg HN.out]; exact if_neg (fun c => c3t c.2.2.2.2)
                clear HR
                clear c1v c1m hlen c3t
                go_enter Tryz.func40, Tryz.ntmps40
                go_wp2_with (first | (go_at_call 57; refine (hI _).mono ?_; rintro e w1 ⟨rfl, hb1⟩; have p1 := (hb1.block w.heap.size hlp).trans p0; have x0 := cellB p1 0 (.int .i64 (k : Int)) rfl; have x1 := cellB p1 1 (.int .i64 (-1)) rfl; have hl1 : w.heap.size < w1.heap.size := (Array.getElem?_eq_some_iff.1 p1).1; have hB1 := hb0.trans (hb1.mono hb0.size); clear hb1))
                refine (hRow _).mono ?_
                rintro e w2 ⟨rfl, hb2⟩
                have p2 := (hb2.block w.heap.size hl1).trans p1
                have y2 := cellB p2 3 (.int .i64 v) rfl
                have y3 := cellB p2 4 (.int .i64 m) rfl
                have y4 := cellB p2 5 (.string (bs t)) rfl
                have hB2 := hB1.trans (hb2.mono hB1.size)
                clear hb2 x0 x1 p1 hl1 hB1 p0 hlp hb0 hI hRow k0 k1
                have i0 : ∀ W : World, (Instr.index 9 (.string (bs [c0, c1, 116, c3])) (.int .i64 0)).run Tryz.prog W = .ok (.int .u8 c0.toNat) W := fun W => rfl
                have i1 : ∀ W : World, (Instr.index 9 (.string (bs [c0, c1, 116, c3])) (.int .i64 1)).run Tryz.prog W = .ok (.int .u8 c1.toNat) W := fun W => rfl
                have i2 : ∀ W : World, (Instr.index 9 (.string (bs [c0, c1, 116, c3])) (.int .i64 2)).run Tryz.prog W = .ok (.int .u8 116) W := fun W => rfl
                go_wp2_with fail
                go_quiet (first | (go_at_call 58; refine Calls.quiet_of_same (hW _ _ (by assumption) _)))
                go_wp2
                go_ret
                exact ⟨by rw [HE.out]; rfl, below_drewN hB2 _⟩
          · rw [decide_eq_false c1m] at hW1
            have HE : Hid (R = 4) := by
              show R = _; rw [← HR.out, if_neg HN.out]; exact if_neg (fun c => c1m ⟨c.2.2.1, c.2.2.2.1⟩)
            clear HR
            clear c1v c1m hlen hc2
            go_enter Tryz.func40, Tryz.ntmps40
            go_wp2_with (first | (go_at_call 57; refine (hI _).mono ?_; rintro e w1 ⟨rfl, hb1⟩; have p1 := (hb1.block w.heap.size hlp).trans p0; have x0 := cellB p1 0 (.int .i64 (k : Int)) rfl; have x1 := cellB p1 1 (.int .i64 (-1)) rfl; have hl1 : w.heap.size < w1.heap.size := (Array.getElem?_eq_some_iff.1 p1).1; have hB1 := hb0.trans (hb1.mono hb0.size); clear hb1))
            refine (hRow _).mono ?_
            rintro e w2 ⟨rfl, hb2⟩
            have p2 := (hb2.block w.heap.size hl1).trans p1
            have y2 := cellB p2 3 (.int .i64 v) rfl
            have y3 := cellB p2 4 (.int .i64 m) rfl
            have y4 := cellB p2 5 (.string (bs t)) rfl
            have hB2 := hB1.trans (hb2.mono hB1.size)
            clear hb2 x0 x1 p1 hl1 hB1 p0 hlp hb0 hI hRow k0 k1
            have i0 : ∀ W : World, (Instr.index 9 (.string (bs [c0, c1, c2, c3])) (.int .i64 0)).run Tryz.prog W = .ok (.int .u8 c0.toNat) W := fun W => rfl
            have i1 : ∀ W : World, (Instr.index 9 (.string (bs [c0, c1, c2, c3])) (.int .i64 1)).run Tryz.prog W = .ok (.int .u8 c1.toNat) W := fun W => rfl
            have i2 : ∀ W : World, (Instr.index 9 (.string (bs [c0, c1, c2, c3])) (.int .i64 2)).run Tryz.prog W = .ok (.int .u8 c2.toNat) W := fun W => rfl
            go_wp2_with fail
            go_quiet (first | (go_at_call 58; refine Calls.quiet_of_same (hW _ _ (by assumption) _)))
            go_wp2
            go_ret
            exact ⟨by rw [HE.out]; rfl, below_drewN hB2 _⟩
        · rw [decide_eq_false c1v] at hW0
          have HE : Hid (R = 4) := by
            show R = _; rw [← HR.out, if_neg HN.out]; exact if_neg (fun c => c1v ⟨c.1, c.2.1⟩)
          clear HR
          clear c1v hlen hc2
          go_enter Tryz.func40, Tryz.ntmps40
          go_wp2_with (first | (go_at_call 57; refine (hI _).mono ?_; rintro e w1 ⟨rfl, hb1⟩; have p1 := (hb1.block w.heap.size hlp).trans p0; have x0 := cellB p1 0 (.int .i64 (k : Int)) rfl; have x1 := cellB p1 1 (.int .i64 (-1)) rfl; have hl1 : w.heap.size < w1.heap.size := (Array.getElem?_eq_some_iff.1 p1).1; have hB1 := hb0.trans (hb1.mono hb0.size); clear hb1))
          refine (hRow _).mono ?_
          rintro e w2 ⟨rfl, hb2⟩
          have p2 := (hb2.block w.heap.size hl1).trans p1
          have y2 := cellB p2 3 (.int .i64 v) rfl
          have y3 := cellB p2 4 (.int .i64 m) rfl
          have y4 := cellB p2 5 (.string (bs t)) rfl
          have hB2 := hB1.trans (hb2.mono hB1.size)
          clear hb2 x0 x1 p1 hl1 hB1 p0 hlp hb0 hI hRow k0 k1
          have i0 : ∀ W : World, (Instr.index 9 (.string (bs [c0, c1, c2, c3])) (.int .i64 0)).run Tryz.prog W = .ok (.int .u8 c0.toNat) W := fun W => rfl
          have i1 : ∀ W : World, (Instr.index 9 (.string (bs [c0, c1, c2, c3])) (.int .i64 1)).run Tryz.prog W = .ok (.int .u8 c1.toNat) W := fun W => rfl
          have i2 : ∀ W : World, (Instr.index 9 (.string (bs [c0, c1, c2, c3])) (.int .i64 2)).run Tryz.prog W = .ok (.int .u8 c2.toNat) W := fun W => rfl
          go_wp2_with fail
          go_quiet (first | (go_at_call 58; refine Calls.quiet_of_same (hW _ _ (by assumption) _)))
          go_wp2
          go_ret
          exact ⟨by rw [HE.out]; rfl, below_drewN hB2 _⟩
      · have e2 : k = 12 := Classical.byContradiction fun e2 => ca (HA.out.2 ⟨e1, e2⟩)
        have d1 : ((k : Int) != 1) = true := by simp; omega
        have d2 : ((k : Int) != 12) = false := by subst e2; rfl
        clear e1 e2 ca HA
        by_cases c1v : vl ≤ v ∧ v ≤ vh
        · rw [decide_eq_true c1v] at hW0
          by_cases c1m : nl ≤ m ∧ m ≤ nh
          · rw [decide_eq_true c1m] at hW1
            rcases hc2 with ⟨rfl, rfl⟩ | ⟨rfl, rfl⟩
            · by_cases c3t : t = []
              · have hte : (bs t).toList.isEmpty = true := by rw [bs_toList, c3t]; rfl
                have hq : decide ((524288 : Int) < ((bs t).size : Int)) = false := by rw [hlen, c3t]; rfl
                have HE : Hid (R = 0) := by
                  show R = _; rw [← HR.out, if_neg HN.out]; exact if_pos ⟨c1v.1, c1v.2, c1m.1, c1m.2, by rw [c3t]; simp⟩
                clear HR
                clear c1v c1m hlen c3t
                go_enter Tryz.func40, Tryz.ntmps40
                go_wp2_with (first | (go_at_call 57; refine (hI _).mono ?_; rintro e w1 ⟨rfl, hb1⟩; have p1 := (hb1.block w.heap.size hlp).trans p0; have x0 := cellB p1 0 (.int .i64 (k : Int)) rfl; have x1 := cellB p1 1 (.int .i64 (-1)) rfl; have hl1 : w.heap.size < w1.heap.size := (Array.getElem?_eq_some_iff.1 p1).1; have hB1 := hb0.trans (hb1.mono hb0.size); clear hb1))
                refine (hRow _).mono ?_
                rintro e w2 ⟨rfl, hb2⟩
                have p2 := (hb2.block w.heap.size hl1).trans p1
                have y2 := cellB p2 3 (.int .i64 v) rfl
                have y3 := cellB p2 4 (.int .i64 m) rfl
                have y4 := cellB p2 5 (.string (bs t)) rfl
                have hB2 := hB1.trans (hb2.mono hB1.size)
                clear hb2 x0 x1 p1 hl1 hB1 p0 hlp hb0 hI hRow k0 k1
                have i0 : ∀ W : World, (Instr.index 9 (.string (bs [c0, c1, 46, c3])) (.int .i64 0)).run Tryz.prog W = .ok (.int .u8 c0.toNat) W := fun W => rfl
                have i1 : ∀ W : World, (Instr.index 9 (.string (bs [c0, c1, 46, c3])) (.int .i64 1)).run Tryz.prog W = .ok (.int .u8 c1.toNat) W := fun W => rfl
                have i2 : ∀ W : World, (Instr.index 9 (.string (bs [c0, c1, 46, c3])) (.int .i64 2)).run Tryz.prog W = .ok (.int .u8 46) W := fun W => rfl
                go_wp2_with fail
                go_quiet (first | (go_at_call 58; refine Calls.quiet_of_same (hW _ _ (by assumption) _)))
                go_wp2
                go_ret
                exact ⟨by rw [HE.out]; rfl, below_drewN hB2 _⟩
              · have hte : (bs t).toList.isEmpty = false := by rw [bs_toList]; simpa using c3t
                have htl : 0 < t.length := List.length_pos_iff.2 c3t
                have HE : Hid (R = 4) := by
                  show R = _; rw [← HR.out, if_neg HN.out]; exact if_neg (fun c => by have := c.2.2.2.2; omega)
                clear HR
                clear c1v c1m hlen htl c3t
                go_enter Tryz.func40, Tryz.ntmps40
                go_wp2_with (first | (go_at_call 57; refine (hI _).mono ?_; rintro e w1 ⟨rfl, hb1⟩; have p1 := (hb1.block w.heap.size hlp).trans p0; have x0 := cellB p1 0 (.int .i64 (k : Int)) rfl; have x1 := cellB p1 1 (.int .i64 (-1)) rfl; have hl1 : w.heap.size < w1.heap.size := (Array.getElem?_eq_some_iff.1 p1).1; have hB1 := hb0.trans (hb1.mono hb0.size); clear hb1))
                refine (hRow _).mono ?_
                rintro e w2 ⟨rfl, hb2⟩
                have p2 := (hb2.block w.heap.size hl1).trans p1
                have y2 := cellB p2 3 (.int .i64 v) rfl
                have y3 := cellB p2 4 (.int .i64 m) rfl
                have y4 := cellB p2 5 (.string (bs t)) rfl
                have hB2 := hB1.trans (hb2.mono hB1.size)
                clear hb2 x0 x1 p1 hl1 hB1 p0 hlp hb0 hI hRow k0 k1
                have i0 : ∀ W : World, (Instr.index 9 (.string (bs [c0, c1, 46, c3])) (.int .i64 0)).run Tryz.prog W = .ok (.int .u8 c0.toNat) W := fun W => rfl
                have i1 : ∀ W : World, (Instr.index 9 (.string (bs [c0, c1, 46, c3])) (.int .i64 1)).run Tryz.prog W = .ok (.int .u8 c1.toNat) W := fun W => rfl
                have i2 : ∀ W : World, (Instr.index 9 (.string (bs [c0, c1, 46, c3])) (.int .i64 2)).run Tryz.prog W = .ok (.int .u8 46) W := fun W => rfl
                go_wp2_with fail
                go_quiet (first | (go_at_call 58; refine Calls.quiet_of_same (hW _ _ (by assumption) _)))
                go_wp2
                go_ret
                exact ⟨by rw [HE.out]; rfl, below_drewN hB2 _⟩
            · by_cases c3t : (t.length : Int) ≤ 524288
              · have hq : decide ((524288 : Int) < ((bs t).size : Int)) = false := by rw [hlen]; exact decide_eq_false (by omega)
                have HE : Hid (R = 0) := by
                  show R = _; rw [← HR.out, if_neg HN.out]; exact if_pos ⟨c1v.1, c1v.2, c1m.1, c1m.2, c3t⟩
                clear HR
                clear c1v c1m hlen c3t
                go_enter Tryz.func40, Tryz.ntmps40
                go_wp2_with (first | (go_at_call 57; refine (hI _).mono ?_; rintro e w1 ⟨rfl, hb1⟩; have p1 := (hb1.block w.heap.size hlp).trans p0; have x0 := cellB p1 0 (.int .i64 (k : Int)) rfl; have x1 := cellB p1 1 (.int .i64 (-1)) rfl; have hl1 : w.heap.size < w1.heap.size := (Array.getElem?_eq_some_iff.1 p1).1; have hB1 := hb0.trans (hb1.mono hb0.size); clear hb1))
                refine (hRow _).mono ?_
                rintro e w2 ⟨rfl, hb2⟩
                have p2 := (hb2.block w.heap.size hl1).trans p1
                have y2 := cellB p2 3 (.int .i64 v) rfl
                have y3 := cellB p2 4 (.int .i64 m) rfl
                have y4 := cellB p2 5 (.string (bs t)) rfl
                have hB2 := hB1.trans (hb2.mono hB1.size)
                clear hb2 x0 x1 p1 hl1 hB1 p0 hlp hb0 hI hRow k0 k1
                have i0 : ∀ W : World, (Instr.index 9 (.string (bs [c0, c1, 116, c3])) (.int .i64 0)).run Tryz.prog W = .ok (.int .u8 c0.toNat) W := fun W => rfl
                have i1 : ∀ W : World, (Instr.index 9 (.string (bs [c0, c1, 116, c3])) (.int .i64 1)).run Tryz.prog W = .ok (.int .u8 c1.toNat) W := fun W => rfl
                have i2 : ∀ W : World, (Instr.index 9 (.string (bs [c0, c1, 116, c3])) (.int .i64 2)).run Tryz.prog W = .ok (.int .u8 116) W := fun W => rfl
                go_wp2_with fail
                go_quiet (first | (go_at_call 58; refine Calls.quiet_of_same (hW _ _ (by assumption) _)))
                go_wp2
                go_ret
                exact ⟨by rw [HE.out]; rfl, below_drewN hB2 _⟩
              · have hq : decide ((524288 : Int) < ((bs t).size : Int)) = true := by rw [hlen]; exact decide_eq_true (by omega)
                have HE : Hid (R = 4) := by
                  show R = _; rw [← HR.out, if_neg HN.out]; exact if_neg (fun c => c3t c.2.2.2.2)
                clear HR
                clear c1v c1m hlen c3t
                go_enter Tryz.func40, Tryz.ntmps40
                go_wp2_with (first | (go_at_call 57; refine (hI _).mono ?_; rintro e w1 ⟨rfl, hb1⟩; have p1 := (hb1.block w.heap.size hlp).trans p0; have x0 := cellB p1 0 (.int .i64 (k : Int)) rfl; have x1 := cellB p1 1 (.int .i64 (-1)) rfl; have hl1 : w.heap.size < w1.heap.size := (Array.getElem?_eq_some_iff.1 p1).1; have hB1 := hb0.trans (hb1.mono hb0.size); clear hb1))
                refine (hRow _).mono ?_
                rintro e w2 ⟨rfl, hb2⟩
                have p2 := (hb2.block w.heap.size hl1).trans p1
                have y2 := cellB p2 3 (.int .i64 v) rfl
                have y3 := cellB p2 4 (.int .i64 m) rfl
                have y4 := cellB p2 5 (.string (bs t)) rfl
                have hB2 := hB1.trans (hb2.mono hB1.size)
                clear hb2 x0 x1 p1 hl1 hB1 p0 hlp hb0 hI hRow k0 k1
                have i0 : ∀ W : World, (Instr.index 9 (.string (bs [c0, c1, 116, c3])) (.int .i64 0)).run Tryz.prog W = .ok (.int .u8 c0.toNat) W := fun W => rfl
                have i1 : ∀ W : World, (Instr.index 9 (.string (bs [c0, c1, 116, c3])) (.int .i64 1)).run Tryz.prog W = .ok (.int .u8 c1.toNat) W := fun W => rfl
                have i2 : ∀ W : World, (Instr.index 9 (.string (bs [c0, c1, 116, c3])) (.int .i64 2)).run Tryz.prog W = .ok (.int .u8 116) W := fun W => rfl
                go_wp2_with fail
                go_quiet (first | (go_at_call 58; refine Calls.quiet_of_same (hW _ _ (by assumption) _)))
                go_wp2
                go_ret
                exact ⟨by rw [HE.out]; rfl, below_drewN hB2 _⟩
          · rw [decide_eq_false c1m] at hW1
            have HE : Hid (R = 4) := by
              show R = _; rw [← HR.out, if_neg HN.out]; exact if_neg (fun c => c1m ⟨c.2.2.1, c.2.2.2.1⟩)
            clear HR
            clear c1v c1m hlen hc2
            go_enter Tryz.func40, Tryz.ntmps40
            go_wp2_with (first | (go_at_call 57; refine (hI _).mono ?_; rintro e w1 ⟨rfl, hb1⟩; have p1 := (hb1.block w.heap.size hlp).trans p0; have x0 := cellB p1 0 (.int .i64 (k : Int)) rfl; have x1 := cellB p1 1 (.int .i64 (-1)) rfl; have hl1 : w.heap.size < w1.heap.size := (Array.getElem?_eq_some_iff.1 p1).1; have hB1 := hb0.trans (hb1.mono hb0.size); clear hb1))
            refine (hRow _).mono ?_
            rintro e w2 ⟨rfl, hb2⟩
            have p2 := (hb2.block w.heap.size hl1).trans p1
            have y2 := cellB p2 3 (.int .i64 v) rfl
            have y3 := cellB p2 4 (.int .i64 m) rfl
            have y4 := cellB p2 5 (.string (bs t)) rfl
            have hB2 := hB1.trans (hb2.mono hB1.size)
            clear hb2 x0 x1 p1 hl1 hB1 p0 hlp hb0 hI hRow k0 k1
            have i0 : ∀ W : World, (Instr.index 9 (.string (bs [c0, c1, c2, c3])) (.int .i64 0)).run Tryz.prog W = .ok (.int .u8 c0.toNat) W := fun W => rfl
            have i1 : ∀ W : World, (Instr.index 9 (.string (bs [c0, c1, c2, c3])) (.int .i64 1)).run Tryz.prog W = .ok (.int .u8 c1.toNat) W := fun W => rfl
            have i2 : ∀ W : World, (Instr.index 9 (.string (bs [c0, c1, c2, c3])) (.int .i64 2)).run Tryz.prog W = .ok (.int .u8 c2.toNat) W := fun W => rfl
            go_wp2_with fail
            go_quiet (first | (go_at_call 58; refine Calls.quiet_of_same (hW _ _ (by assumption) _)))
            go_wp2
            go_ret
            exact ⟨by rw [HE.out]; rfl, below_drewN hB2 _⟩
        · rw [decide_eq_false c1v] at hW0
          have HE : Hid (R = 4) := by
            show R = _; rw [← HR.out, if_neg HN.out]; exact if_neg (fun c => c1v ⟨c.1, c.2.1⟩)
          clear HR
          clear c1v hlen hc2
          go_enter Tryz.func40, Tryz.ntmps40
          go_wp2_with (first | (go_at_call 57; refine (hI _).mono ?_; rintro e w1 ⟨rfl, hb1⟩; have p1 := (hb1.block w.heap.size hlp).trans p0; have x0 := cellB p1 0 (.int .i64 (k : Int)) rfl; have x1 := cellB p1 1 (.int .i64 (-1)) rfl; have hl1 : w.heap.size < w1.heap.size := (Array.getElem?_eq_some_iff.1 p1).1; have hB1 := hb0.trans (hb1.mono hb0.size); clear hb1))
          refine (hRow _).mono ?_
          rintro e w2 ⟨rfl, hb2⟩
          have p2 := (hb2.block w.heap.size hl1).trans p1
          have y2 := cellB p2 3 (.int .i64 v) rfl
          have y3 := cellB p2 4 (.int .i64 m) rfl
          have y4 := cellB p2 5 (.string (bs t)) rfl
          have hB2 := hB1.trans (hb2.mono hB1.size)
          clear hb2 x0 x1 p1 hl1 hB1 p0 hlp hb0 hI hRow k0 k1
          have i0 : ∀ W : World, (Instr.index 9 (.string (bs [c0, c1, c2, c3])) (.int .i64 0)).run Tryz.prog W = .ok (.int .u8 c0.toNat) W := fun W => rfl
          have i1 : ∀ W : World, (Instr.index 9 (.string (bs [c0, c1, c2, c3])) (.int .i64 1)).run Tryz.prog W = .ok (.int .u8 c1.toNat) W := fun W => rfl
          have i2 : ∀ W : World, (Instr.index 9 (.string (bs [c0, c1, c2, c3])) (.int .i64 2)).run Tryz.prog W = .ok (.int .u8 c2.toNat) W := fun W => rfl
          go_wp2_with fail
          go_quiet (first | (go_at_call 58; refine Calls.quiet_of_same (hW _ _ (by assumption) _)))
          go_wp2
          go_ret
          exact ⟨by rw [HE.out]; rfl, below_drewN hB2 _⟩
  · have HN : Hid (¬ (g = -1 ∧ an = false)) := fun c => cg c.1
    have hg : (g == -1) = false := by simpa using cg
    clear cg HA
    by_cases c1v : vl ≤ v ∧ v ≤ vh
    · rw [decide_eq_true c1v] at hW0
      by_cases c1m : nl ≤ m ∧ m ≤ nh
      · rw [decide_eq_true c1m] at hW1
        rcases hc2 with ⟨rfl, rfl⟩ | ⟨rfl, rfl⟩
        · by_cases c3t : t = []
          · have hte : (bs t).toList.isEmpty = true := by rw [bs_toList, c3t]; rfl
            have hq : decide ((524288 : Int) < ((bs t).size : Int)) = false := by rw [hlen, c3t]; rfl
            have HE : Hid (R = 0) := by
              show R = _; rw [← HR.out, if_neg HN.out]; exact if_pos ⟨c1v.1, c1v.2, c1m.1, c1m.2, by rw [c3t]; simp⟩
            clear HR
            clear c1v c1m hlen c3t
            go_enter Tryz.func40, Tryz.ntmps40
            go_wp2_with (first | (go_at_call 57; refine (hI _).mono ?_; rintro e w1 ⟨rfl, hb1⟩; have p1 := (hb1.block w.heap.size hlp).trans p0; have x0 := cellB p1 0 (.int .i64 (k : Int)) rfl; have x1 := cellB p1 1 (.int .i64 g) rfl; have hl1 : w.heap.size < w1.heap.size := (Array.getElem?_eq_some_iff.1 p1).1; have hB1 := hb0.trans (hb1.mono hb0.size); clear hb1))
            refine (hRow _).mono ?_
            rintro e w2 ⟨rfl, hb2⟩
            have p2 := (hb2.block w.heap.size hl1).trans p1
            have y2 := cellB p2 3 (.int .i64 v) rfl
            have y3 := cellB p2 4 (.int .i64 m) rfl
            have y4 := cellB p2 5 (.string (bs t)) rfl
            have hB2 := hB1.trans (hb2.mono hB1.size)
            clear hb2 x0 x1 p1 hl1 hB1 p0 hlp hb0 hI hRow k0 k1
            have i0 : ∀ W : World, (Instr.index 9 (.string (bs [c0, c1, 46, c3])) (.int .i64 0)).run Tryz.prog W = .ok (.int .u8 c0.toNat) W := fun W => rfl
            have i1 : ∀ W : World, (Instr.index 9 (.string (bs [c0, c1, 46, c3])) (.int .i64 1)).run Tryz.prog W = .ok (.int .u8 c1.toNat) W := fun W => rfl
            have i2 : ∀ W : World, (Instr.index 9 (.string (bs [c0, c1, 46, c3])) (.int .i64 2)).run Tryz.prog W = .ok (.int .u8 46) W := fun W => rfl
            go_wp2_with fail
            go_quiet (first | (go_at_call 58; refine Calls.quiet_of_same (hW _ _ (by assumption) _)))
            go_wp2
            go_ret
            exact ⟨by rw [HE.out]; rfl, below_drewN hB2 _⟩
          · have hte : (bs t).toList.isEmpty = false := by rw [bs_toList]; simpa using c3t
            have htl : 0 < t.length := List.length_pos_iff.2 c3t
            have HE : Hid (R = 4) := by
              show R = _; rw [← HR.out, if_neg HN.out]; exact if_neg (fun c => by have := c.2.2.2.2; omega)
            clear HR
            clear c1v c1m hlen htl c3t
            go_enter Tryz.func40, Tryz.ntmps40
            go_wp2_with (first | (go_at_call 57; refine (hI _).mono ?_; rintro e w1 ⟨rfl, hb1⟩; have p1 := (hb1.block w.heap.size hlp).trans p0; have x0 := cellB p1 0 (.int .i64 (k : Int)) rfl; have x1 := cellB p1 1 (.int .i64 g) rfl; have hl1 : w.heap.size < w1.heap.size := (Array.getElem?_eq_some_iff.1 p1).1; have hB1 := hb0.trans (hb1.mono hb0.size); clear hb1))
            refine (hRow _).mono ?_
            rintro e w2 ⟨rfl, hb2⟩
            have p2 := (hb2.block w.heap.size hl1).trans p1
            have y2 := cellB p2 3 (.int .i64 v) rfl
            have y3 := cellB p2 4 (.int .i64 m) rfl
            have y4 := cellB p2 5 (.string (bs t)) rfl
            have hB2 := hB1.trans (hb2.mono hB1.size)
            clear hb2 x0 x1 p1 hl1 hB1 p0 hlp hb0 hI hRow k0 k1
            have i0 : ∀ W : World, (Instr.index 9 (.string (bs [c0, c1, 46, c3])) (.int .i64 0)).run Tryz.prog W = .ok (.int .u8 c0.toNat) W := fun W => rfl
            have i1 : ∀ W : World, (Instr.index 9 (.string (bs [c0, c1, 46, c3])) (.int .i64 1)).run Tryz.prog W = .ok (.int .u8 c1.toNat) W := fun W => rfl
            have i2 : ∀ W : World, (Instr.index 9 (.string (bs [c0, c1, 46, c3])) (.int .i64 2)).run Tryz.prog W = .ok (.int .u8 46) W := fun W => rfl
            go_wp2_with fail
            go_quiet (first | (go_at_call 58; refine Calls.quiet_of_same (hW _ _ (by assumption) _)))
            go_wp2
            go_ret
            exact ⟨by rw [HE.out]; rfl, below_drewN hB2 _⟩
        · by_cases c3t : (t.length : Int) ≤ 524288
          · have hq : decide ((524288 : Int) < ((bs t).size : Int)) = false := by rw [hlen]; exact decide_eq_false (by omega)
            have HE : Hid (R = 0) := by
              show R = _; rw [← HR.out, if_neg HN.out]; exact if_pos ⟨c1v.1, c1v.2, c1m.1, c1m.2, c3t⟩
            clear HR
            clear c1v c1m hlen c3t
            go_enter Tryz.func40, Tryz.ntmps40
            go_wp2_with (first | (go_at_call 57; refine (hI _).mono ?_; rintro e w1 ⟨rfl, hb1⟩; have p1 := (hb1.block w.heap.size hlp).trans p0; have x0 := cellB p1 0 (.int .i64 (k : Int)) rfl; have x1 := cellB p1 1 (.int .i64 g) rfl; have hl1 : w.heap.size < w1.heap.size := (Array.getElem?_eq_some_iff.1 p1).1; have hB1 := hb0.trans (hb1.mono hb0.size); clear hb1))
            refine (hRow _).mono ?_
            rintro e w2 ⟨rfl, hb2⟩
            have p2 := (hb2.block w.heap.size hl1).trans p1
            have y2 := cellB p2 3 (.int .i64 v) rfl
            have y3 := cellB p2 4 (.int .i64 m) rfl
            have y4 := cellB p2 5 (.string (bs t)) rfl
            have hB2 := hB1.trans (hb2.mono hB1.size)
            clear hb2 x0 x1 p1 hl1 hB1 p0 hlp hb0 hI hRow k0 k1
            have i0 : ∀ W : World, (Instr.index 9 (.string (bs [c0, c1, 116, c3])) (.int .i64 0)).run Tryz.prog W = .ok (.int .u8 c0.toNat) W := fun W => rfl
            have i1 : ∀ W : World, (Instr.index 9 (.string (bs [c0, c1, 116, c3])) (.int .i64 1)).run Tryz.prog W = .ok (.int .u8 c1.toNat) W := fun W => rfl
            have i2 : ∀ W : World, (Instr.index 9 (.string (bs [c0, c1, 116, c3])) (.int .i64 2)).run Tryz.prog W = .ok (.int .u8 116) W := fun W => rfl
            go_wp2_with fail
            go_quiet (first | (go_at_call 58; refine Calls.quiet_of_same (hW _ _ (by assumption) _)))
            go_wp2
            go_ret
            exact ⟨by rw [HE.out]; rfl, below_drewN hB2 _⟩
          · have hq : decide ((524288 : Int) < ((bs t).size : Int)) = true := by rw [hlen]; exact decide_eq_true (by omega)
            have HE : Hid (R = 4) := by
              show R = _; rw [← HR.out, if_neg HN.out]; exact if_neg (fun c => c3t c.2.2.2.2)
            clear HR
            clear c1v c1m hlen c3t
            go_enter Tryz.func40, Tryz.ntmps40
            go_wp2_with (first | (go_at_call 57; refine (hI _).mono ?_; rintro e w1 ⟨rfl, hb1⟩; have p1 := (hb1.block w.heap.size hlp).trans p0; have x0 := cellB p1 0 (.int .i64 (k : Int)) rfl; have x1 := cellB p1 1 (.int .i64 g) rfl; have hl1 : w.heap.size < w1.heap.size := (Array.getElem?_eq_some_iff.1 p1).1; have hB1 := hb0.trans (hb1.mono hb0.size); clear hb1))
            refine (hRow _).mono ?_
            rintro e w2 ⟨rfl, hb2⟩
            have p2 := (hb2.block w.heap.size hl1).trans p1
            have y2 := cellB p2 3 (.int .i64 v) rfl
            have y3 := cellB p2 4 (.int .i64 m) rfl
            have y4 := cellB p2 5 (.string (bs t)) rfl
            have hB2 := hB1.trans (hb2.mono hB1.size)
            clear hb2 x0 x1 p1 hl1 hB1 p0 hlp hb0 hI hRow k0 k1
            have i0 : ∀ W : World, (Instr.index 9 (.string (bs [c0, c1, 116, c3])) (.int .i64 0)).run Tryz.prog W = .ok (.int .u8 c0.toNat) W := fun W => rfl
            have i1 : ∀ W : World, (Instr.index 9 (.string (bs [c0, c1, 116, c3])) (.int .i64 1)).run Tryz.prog W = .ok (.int .u8 c1.toNat) W := fun W => rfl
            have i2 : ∀ W : World, (Instr.index 9 (.string (bs [c0, c1, 116, c3])) (.int .i64 2)).run Tryz.prog W = .ok (.int .u8 116) W := fun W => rfl
            go_wp2_with fail
            go_quiet (first | (go_at_call 58; refine Calls.quiet_of_same (hW _ _ (by assumption) _)))
            go_wp2
            go_ret
            exact ⟨by rw [HE.out]; rfl, below_drewN hB2 _⟩
      · rw [decide_eq_false c1m] at hW1
        have HE : Hid (R = 4) := by
          show R = _; rw [← HR.out, if_neg HN.out]; exact if_neg (fun c => c1m ⟨c.2.2.1, c.2.2.2.1⟩)
        clear HR
        clear c1v c1m hlen hc2
        go_enter Tryz.func40, Tryz.ntmps40
        go_wp2_with (first | (go_at_call 57; refine (hI _).mono ?_; rintro e w1 ⟨rfl, hb1⟩; have p1 := (hb1.block w.heap.size hlp).trans p0; have x0 := cellB p1 0 (.int .i64 (k : Int)) rfl; have x1 := cellB p1 1 (.int .i64 g) rfl; have hl1 : w.heap.size < w1.heap.size := (Array.getElem?_eq_some_iff.1 p1).1; have hB1 := hb0.trans (hb1.mono hb0.size); clear hb1))
        refine (hRow _).mono ?_
        rintro e w2 ⟨rfl, hb2⟩
        have p2 := (hb2.block w.heap.size hl1).trans p1
        have y2 := cellB p2 3 (.int .i64 v) rfl
        have y3 := cellB p2 4 (.int .i64 m) rfl
        have y4 := cellB p2 5 (.string (bs t)) rfl
        have hB2 := hB1.trans (hb2.mono hB1.size)
        clear hb2 x0 x1 p1 hl1 hB1 p0 hlp hb0 hI hRow k0 k1
        have i0 : ∀ W : World, (Instr.index 9 (.string (bs [c0, c1, c2, c3])) (.int .i64 0)).run Tryz.prog W = .ok (.int .u8 c0.toNat) W := fun W => rfl
        have i1 : ∀ W : World, (Instr.index 9 (.string (bs [c0, c1, c2, c3])) (.int .i64 1)).run Tryz.prog W = .ok (.int .u8 c1.toNat) W := fun W => rfl
        have i2 : ∀ W : World, (Instr.index 9 (.string (bs [c0, c1, c2, c3])) (.int .i64 2)).run Tryz.prog W = .ok (.int .u8 c2.toNat) W := fun W => rfl
        go_wp2_with fail
        go_quiet (first | (go_at_call 58; refine Calls.quiet_of_same (hW _ _ (by assumption) _)))
        go_wp2
        go_ret
        exact ⟨by rw [HE.out]; rfl, below_drewN hB2 _⟩
    · rw [decide_eq_false c1v] at hW0
      have HE : Hid (R = 4) := by
        show R = _; rw [← HR.out, if_neg HN.out]; exact if_neg (fun c => c1v ⟨c.1, c.2.1⟩)
      clear HR
      clear c1v hlen hc2
      go_enter Tryz.func40, Tryz.ntmps40
      go_wp2_with (first | (go_at_call 57; refine (hI _).mono ?_; rintro e w1 ⟨rfl, hb1⟩; have p1 := (hb1.block w.heap.size hlp).trans p0; have x0 := cellB p1 0 (.int .i64 (k : Int)) rfl; have x1 := cellB p1 1 (.int .i64 g) rfl; have hl1 : w.heap.size < w1.heap.size := (Array.getElem?_eq_some_iff.1 p1).1; have hB1 := hb0.trans (hb1.mono hb0.size); clear hb1))
      refine (hRow _).mono ?_
      rintro e w2 ⟨rfl, hb2⟩
      have p2 := (hb2.block w.heap.size hl1).trans p1
      have y2 := cellB p2 3 (.int .i64 v) rfl
      have y3 := cellB p2 4 (.int .i64 m) rfl
      have y4 := cellB p2 5 (.string (bs t)) rfl
      have hB2 := hB1.trans (hb2.mono hB1.size)
      clear hb2 x0 x1 p1 hl1 hB1 p0 hlp hb0 hI hRow k0 k1
      have i0 : ∀ W : World, (Instr.index 9 (.string (bs [c0, c1, c2, c3])) (.int .i64 0)).run Tryz.prog W = .ok (.int .u8 c0.toNat) W := fun W => rfl
      have i1 : ∀ W : World, (Instr.index 9 (.string (bs [c0, c1, c2, c3])) (.int .i64 1)).run Tryz.prog W = .ok (.int .u8 c1.toNat) W := fun W => rfl
      have i2 : ∀ W : World, (Instr.index 9 (.string (bs [c0, c1, c2, c3])) (.int .i64 2)).run Tryz.prog W = .ok (.int .u8 c2.toNat) W := fun W => rfl
      go_wp2_with fail
      go_quiet (first | (go_at_call 58; refine Calls.quiet_of_same (hW _ _ (by assumption) _)))
      go_wp2
      go_ret
      exact ⟨by rw [HE.out]; rfl, below_drewN hB2 _⟩
end
section
open Go.RowKit
attribute [local go_sem ↓] Go.wp_at_zero Go.wp_at_succ

set_option maxRecDepth 20000 in
set_option maxHeartbeats 2000000 in
theorem rRight_any (k g n v m : Int) (t tg : List UInt8) (w : World) :
    Calls Tryz.prog 40 #[.agg #[.int .i64 k, .int .i64 g, .int .i64 n, .int .i64 v, .int .i64 m, .string (bs t), .string (bs tg)]] w fun e W' => e = .returned (.int .i64 (fE k g n v m t.length)) ∧ Below w.heap.size w W' := by
  have hb0 : Below w.heap.size w (w.alloc (.cells #[.int .i64 k, .int .i64 g, .int .i64 n, .int .i64 v, .int .i64 m, .string (bs t), .string (bs tg)] 38)) := (Below.refl _ w).alloc (Nat.le_refl _) _
  by_cases h1 : 1 ≤ k
  · by_cases h2 : k ≤ 12
    · by_cases hp : isP g n
      · obtain ⟨j, rfl⟩ : ∃ j : Nat, k = (j : Int) := ⟨k.toNat, by omega⟩
        have h := rRight_k j (by omega) (by omega) g n v m hp t tg w
        rw [fE, if_neg (fun c => c ⟨h1, h2⟩), if_neg (fun c => c hp)]
        exact h
      · rw [fE, if_neg (fun c => c ⟨h1, h2⟩), if_pos hp]
        have hI := fun W => Is_any g n W
        rw [decide_eq_false hp] at hI
        clear hp
        go_enter Tryz.func40, Tryz.ntmps40
        go_wp2_with (first | (go_at_call 57; refine (hI _).mono ?_; rintro e w1 ⟨rfl, hb1⟩))
        go_ret
        exact ⟨rfl, hb0.trans (hb1.mono hb0.size)⟩
    · rw [fE, if_pos (fun c => h2 c.2)]
      go_enter Tryz.func40, Tryz.ntmps40
      go_wp2
      go_ret
      exact ⟨rfl, hb0⟩
  · rw [fE, if_pos (fun c => h1 c.1)]
    go_enter Tryz.func40, Tryz.ntmps40
    go_wp2
    go_ret
    exact ⟨rfl, hb0⟩

set_option maxRecDepth 20000 in
set_option maxHeartbeats 4000000 in
theorem rCheck_any (k g n v m : Int) (t tg : List UInt8) (w : World) :
    Calls Tryz.prog 23 #[.agg #[.int .i64 k, .int .i64 g, .int .i64 n, .int .i64 v, .int .i64 m, .string (bs t), .string (bs tg)]] w fun e W' => e = .returned (.int .i64 (cE k g n v m t.length tg.length)) ∧ Below w.heap.size w W' := by
  have hb0 : Below w.heap.size w (w.alloc (.cells #[.int .i64 k, .int .i64 g, .int .i64 n, .int .i64 v, .int .i64 m, .string (bs t), .string (bs tg)] 38)) := (Below.refl _ w).alloc (Nat.le_refl _) _
  have p0 : (w.alloc (.cells #[.int .i64 k, .int .i64 g, .int .i64 n, .int .i64 v, .int .i64 m, .string (bs t), .string (bs tg)] 38)).heap[w.heap.size]? = some (.cells #[.int .i64 k, .int .i64 g, .int .i64 n, .int .i64 v, .int .i64 m, .string (bs t), .string (bs tg)] 38) := heap_alloc_new _ _
  have hlp : w.heap.size < (w.alloc (.cells #[.int .i64 k, .int .i64 g, .int .i64 n, .int .i64 v, .int .i64 m, .string (bs t), .string (bs tg)] 38)).heap.size := by simp
  have hF := rRight_any k g n v m t tg (w.alloc (.cells #[.int .i64 k, .int .i64 g, .int .i64 n, .int .i64 v, .int .i64 m, .string (bs t), .string (bs tg)] 38))
  by_cases hf : fE k g n v m t.length = 0
  · have hk := (fE_ok hf).1
    have hk0 := hk.1
    have hk1 := hk.2
    rw [cE, if_pos hf]
    rw [hf] at hF
    clear hf hk
    obtain ⟨j, rfl⟩ : ∃ j : Nat, k = (j : Int) := ⟨k.toNat, by omega⟩
    have hRow := fun W => krow_any j (by omega) W
    obtain ⟨c0, c1, c2, c3, hrow, -, -, -, -, -, hc3⟩ := row_is j (by omega) (by omega)
    rw [hrow] at hRow
    rw [Int.toNat_natCast]
    obtain ⟨T, hT⟩ : ∃ T, tgK j = T := ⟨_, rfl⟩
    rw [hT] at hc3 ⊢
    have hlen : (bs tg).size = tg.length := bs_size tg
    clear hT hk0 hk1 hrow
    rcases hc3 with ⟨rfl, rfl⟩ | ⟨rfl, rfl⟩
    · by_cases c : tg.length = 16
      · rw [if_pos (by omega)]
        have hq : (((bs tg).size : Int) != 16) = false := by rw [hlen, c]; rfl
        clear c hlen
        have i3 : ∀ W : World, (Instr.index 9 (.string (bs [c0, c1, c2, 103])) (.int .i64 3)).run Tryz.prog W = .ok (.int .u8 103) W := fun W => rfl
        go_enter Tryz.func23, Tryz.ntmps23
        go_wp2_with fail
        refine hF.mono ?_
        clear hF
        rintro e w1 ⟨rfl, hb1⟩
        have hB1 := hb0.trans (hb1.mono hb0.size)
        have p1 := (hb1.block w.heap.size hlp).trans p0
        have hl1 : w.heap.size < w1.heap.size := (Array.getElem?_eq_some_iff.1 p1).1
        have x0 := cellB p1 0 (.int .i64 (j : Int)) rfl
        have x6 := cellB p1 6 (.string (bs tg)) rfl
        clear hb1 p0 hlp hb0
        go_wp2_with (first | (have hg := hB2; go_at_call 41; refine (hRow _).mono ?_; rintro e w3 ⟨rfl, hb3⟩; have hB3 := hB2.trans (hb3.mono hB2.size); have p3 := (hb3.block w.heap.size hl2).trans p2; have z6 := cellB p3 6 (.string (bs tg)) rfl) | (go_at_call 41; refine (hRow _).mono ?_; rintro e w2 ⟨rfl, hb2⟩; have hB2 := hB1.trans (hb2.mono hB1.size); have p2 := (hb2.block w.heap.size hl1).trans p1; have hl2 : w.heap.size < w2.heap.size := (Array.getElem?_eq_some_iff.1 p2).1; have y0 := cellB p2 0 (.int .i64 (j : Int)) rfl; have y6 := cellB p2 6 (.string (bs tg)) rfl))
        go_ret
        exact ⟨rfl, hB3⟩
      · rw [if_neg (by omega)]
        have hq : (((bs tg).size : Int) != 16) = true := by rw [hlen]; simp; omega
        clear c hlen
        have i3 : ∀ W : World, (Instr.index 9 (.string (bs [c0, c1, c2, 103])) (.int .i64 3)).run Tryz.prog W = .ok (.int .u8 103) W := fun W => rfl
        go_enter Tryz.func23, Tryz.ntmps23
        go_wp2_with fail
        refine hF.mono ?_
        clear hF
        rintro e w1 ⟨rfl, hb1⟩
        have hB1 := hb0.trans (hb1.mono hb0.size)
        have p1 := (hb1.block w.heap.size hlp).trans p0
        have hl1 : w.heap.size < w1.heap.size := (Array.getElem?_eq_some_iff.1 p1).1
        have x0 := cellB p1 0 (.int .i64 (j : Int)) rfl
        have x6 := cellB p1 6 (.string (bs tg)) rfl
        clear hb1 p0 hlp hb0
        go_wp2_with (first | (have hg := hB2; go_at_call 41; refine (hRow _).mono ?_; rintro e w3 ⟨rfl, hb3⟩; have hB3 := hB2.trans (hb3.mono hB2.size); have p3 := (hb3.block w.heap.size hl2).trans p2; have z6 := cellB p3 6 (.string (bs tg)) rfl) | (go_at_call 41; refine (hRow _).mono ?_; rintro e w2 ⟨rfl, hb2⟩; have hB2 := hB1.trans (hb2.mono hB1.size); have p2 := (hb2.block w.heap.size hl1).trans p1; have hl2 : w.heap.size < w2.heap.size := (Array.getElem?_eq_some_iff.1 p2).1; have y0 := cellB p2 0 (.int .i64 (j : Int)) rfl; have y6 := cellB p2 6 (.string (bs tg)) rfl))
        go_ret
        exact ⟨rfl, hB2⟩
    · by_cases c : tg = []
      · rw [if_pos (by rw [c]; rfl)]
        have hte : (bs tg).toList.isEmpty = true := by rw [bs_toList, c]; rfl
        clear c hlen
        have i3 : ∀ W : World, (Instr.index 9 (.string (bs [c0, c1, c2, 46])) (.int .i64 3)).run Tryz.prog W = .ok (.int .u8 46) W := fun W => rfl
        go_enter Tryz.func23, Tryz.ntmps23
        go_wp2_with fail
        refine hF.mono ?_
        clear hF
        rintro e w1 ⟨rfl, hb1⟩
        have hB1 := hb0.trans (hb1.mono hb0.size)
        have p1 := (hb1.block w.heap.size hlp).trans p0
        have hl1 : w.heap.size < w1.heap.size := (Array.getElem?_eq_some_iff.1 p1).1
        have x0 := cellB p1 0 (.int .i64 (j : Int)) rfl
        have x6 := cellB p1 6 (.string (bs tg)) rfl
        clear hb1 p0 hlp hb0
        go_wp2_with (first | (have hg := hB2; go_at_call 41; refine (hRow _).mono ?_; rintro e w3 ⟨rfl, hb3⟩; have hB3 := hB2.trans (hb3.mono hB2.size); have p3 := (hb3.block w.heap.size hl2).trans p2; have z6 := cellB p3 6 (.string (bs tg)) rfl) | (go_at_call 41; refine (hRow _).mono ?_; rintro e w2 ⟨rfl, hb2⟩; have hB2 := hB1.trans (hb2.mono hB1.size); have p2 := (hb2.block w.heap.size hl1).trans p1; have hl2 : w.heap.size < w2.heap.size := (Array.getElem?_eq_some_iff.1 p2).1; have y0 := cellB p2 0 (.int .i64 (j : Int)) rfl; have y6 := cellB p2 6 (.string (bs tg)) rfl))
        go_ret
        exact ⟨rfl, hB3⟩
      · rw [if_neg (by have := List.length_pos_iff.2 c; omega)]
        have hte : (bs tg).toList.isEmpty = false := by rw [bs_toList]; simpa using c
        clear c hlen
        have i3 : ∀ W : World, (Instr.index 9 (.string (bs [c0, c1, c2, 46])) (.int .i64 3)).run Tryz.prog W = .ok (.int .u8 46) W := fun W => rfl
        go_enter Tryz.func23, Tryz.ntmps23
        go_wp2_with fail
        refine hF.mono ?_
        clear hF
        rintro e w1 ⟨rfl, hb1⟩
        have hB1 := hb0.trans (hb1.mono hb0.size)
        have p1 := (hb1.block w.heap.size hlp).trans p0
        have hl1 : w.heap.size < w1.heap.size := (Array.getElem?_eq_some_iff.1 p1).1
        have x0 := cellB p1 0 (.int .i64 (j : Int)) rfl
        have x6 := cellB p1 6 (.string (bs tg)) rfl
        clear hb1 p0 hlp hb0
        go_wp2_with (first | (have hg := hB2; go_at_call 41; refine (hRow _).mono ?_; rintro e w3 ⟨rfl, hb3⟩; have hB3 := hB2.trans (hb3.mono hB2.size); have p3 := (hb3.block w.heap.size hl2).trans p2; have z6 := cellB p3 6 (.string (bs tg)) rfl) | (go_at_call 41; refine (hRow _).mono ?_; rintro e w2 ⟨rfl, hb2⟩; have hB2 := hB1.trans (hb2.mono hB1.size); have p2 := (hb2.block w.heap.size hl1).trans p1; have hl2 : w.heap.size < w2.heap.size := (Array.getElem?_eq_some_iff.1 p2).1; have y0 := cellB p2 0 (.int .i64 (j : Int)) rfl; have y6 := cellB p2 6 (.string (bs tg)) rfl))
        go_ret
        exact ⟨rfl, hB3⟩
  · rw [cE, if_neg hf]
    obtain ⟨F, hF2⟩ : ∃ F, fE k g n v m t.length = F := ⟨_, rfl⟩
    rw [hF2] at hF hf ⊢
    have hq : (F != 0) = true := by simpa using hf
    clear hf hF2
    go_enter Tryz.func23, Tryz.ntmps23
    go_wp2_with fail
    refine hF.mono ?_
    clear hF
    rintro e w1 ⟨rfl, hb1⟩
    go_wp2
    go_ret
    exact ⟨rfl, hb0.trans (hb1.mono hb0.size)⟩
end
end Go.Proofs.YtmkjcfakopbdhaaGreatDoor
