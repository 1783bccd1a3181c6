/- What is wrong with a memo, by the plain text: walked. -/
import Derived.Test.YtielknegifbmpaaDoorMfC
import Derived.Test.YtielknegifbmpaaDoorMeA
import Derived.Deep.QuietTactic
namespace Go.Proofs.YtielknegifbmpaaDoor
open Go.RowKit
attribute [local go_sem ↓] Go.wp_at_zero Go.wp_at_succ

theorem bs_toList (l : List UInt8) : (bs l).toList = l := by simp [bs, ByteArray.toList_eq]
set_option maxRecDepth 20000 in
set_option maxHeartbeats 4000000 in
theorem rRight_k (k : Nat) (hk1 : 1 ≤ k) (hk2 : k ≤ 12) (g n v m : Int) (hp : isP g n) (t tg : List UInt8) (w : World) :
    Calls Tryd.prog 36 #[.agg #[.int .i64 k, .int .i64 g, .int .i64 n, .int .i64 v, .int .i64 m, .string (bs t), .string (bs tg)]] w fun e W' => e = .returned (.int .i64 (if g = -1 ∧ anyK k = false then 1 else if okF k v m t.length then 0 else 4)) ∧ Below w.heap.size w W' := by
  have hb0 : Below w.heap.size w (w.alloc (.cells #[.int .i64 k, .int .i64 g, .int .i64 n, .int .i64 v, .int .i64 m, .string (bs t), .string (bs tg)] 32)) := (Below.refl _ w).alloc (Nat.le_refl _) _
  have p0 : (w.alloc (.cells #[.int .i64 k, .int .i64 g, .int .i64 n, .int .i64 v, .int .i64 m, .string (bs t), .string (bs tg)] 32)).heap[w.heap.size]? = some (.cells #[.int .i64 k, .int .i64 g, .int .i64 n, .int .i64 v, .int .i64 m, .string (bs t), .string (bs tg)] 32) := heap_alloc_new _ _
  have hlp : w.heap.size < (w.alloc (.cells #[.int .i64 k, .int .i64 g, .int .i64 n, .int .i64 v, .int .i64 m, .string (bs t), .string (bs tg)] 32)).heap.size := by simp
  have hI := fun W => Is_any g n W
  rw [decide_eq_true hp] at hI
  have hRow := fun W => row_any k hk2 W
  obtain ⟨c0, c1, c2, c3, hrow, hc0, hc1, hv, hm, hc2, -⟩ := row_is k hk1 hk2
  have hW := fun n c hc W => rwithin_any n c hc W
  have hW0 := hv v
  have hW1 := hm m
  rw [hrow] at hRow
  have hlen : (bs t).size = t.length := bs_size t
  have HA : Hid (anyK k = false ↔ k ≠ 1 ∧ k ≠ 12) := by
    have : k = 1 ∨ k = 2 ∨ k = 3 ∨ k = 4 ∨ k = 5 ∨ k = 6 ∨ k = 7 ∨ k = 8 ∨ k = 9 ∨ k = 10 ∨ k = 11 ∨ k = 12 := by omega
    show _ ↔ _
    rcases this with rfl | rfl | rfl | rfl | rfl | rfl | rfl | rfl | rfl | rfl | rfl | rfl <;> decide
  obtain ⟨an, han⟩ : ∃ an, anyK k = an := ⟨_, rfl⟩
  obtain ⟨vl, hvl⟩ : ∃ x, vlo k = x := ⟨_, rfl⟩
  obtain ⟨vh, hvh⟩ : ∃ x, vhi k = x := ⟨_, rfl⟩
  obtain ⟨nl, hnl⟩ : ∃ x, nlo k = x := ⟨_, rfl⟩
  obtain ⟨nh, hnh⟩ : ∃ x, nhi k = x := ⟨_, rfl⟩
  obtain ⟨tx, htx⟩ : ∃ x, txK k = x := ⟨_, rfl⟩
  unfold okF
  rw [han, hvl, hvh, hnl, hnh, htx]
  rw [han] at HA
  rw [hvl, hvh] at hW0
  rw [hnl, hnh] at hW1
  rw [htx] at hc2
  clear hv hm hrow han hvl hvh hnl hnh htx hp
  obtain ⟨R, hR⟩ : ∃ R : Int, (if g = -1 ∧ an = false then 1 else if vl ≤ v ∧ v ≤ vh ∧ nl ≤ m ∧ m ≤ nh ∧ (t.length : Int) ≤ tx then 0 else 4) = R := ⟨_, rfl⟩
  have HR : Hid ((if g = -1 ∧ an = false then 1 else if vl ≤ v ∧ v ≤ vh ∧ nl ≤ m ∧ m ≤ nh ∧ (t.length : Int) ≤ tx then (0 : Int) else 4) = R) := hR
  rw [hR]
  clear hR
  have k0 : (1 : Int) ≤ (k : Int) := by omega
  have k1 : (k : Int) ≤ 12 := by omega
  by_cases cg : g = -1
  · subst cg
    by_cases ca : an = false
    · obtain ⟨e1, e2⟩ := HA.out.1 ca
      have HE : Hid (R = 1) := by show R = 1; rw [← HR.out, if_pos ⟨rfl, ca⟩]
      clear HR
      have d1 : ((k : Int) != 1) = true := by simp; omega
      have d2 : ((k : Int) != 12) = true := by simp; omega
      clear ca e1 e2 HA
      go_enter Tryd.func36, Tryd.ntmps36
      go_wp2_with (first | (go_at_call 38; refine (hI _).mono ?_; rintro e w1 ⟨rfl, hb1⟩; have p1 := (hb1.block w.heap.size hlp).trans p0; have x0 := cellB p1 0 (.int .i64 (k : Int)) rfl; have x1 := cellB p1 1 (.int .i64 (-1)) rfl; have hl1 : w.heap.size < w1.heap.size := (Array.getElem?_eq_some_iff.1 p1).1; have hB1 := hb0.trans (hb1.mono hb0.size); clear hb1))
      go_ret
      exact ⟨by rw [HE.out]; rfl, hB1⟩
    · have HN : Hid (¬ ((-1 : Int) = -1 ∧ an = false)) := fun c => ca c.2
      by_cases e1 : k = 1
      · have d1 : ((k : Int) != 1) = false := by subst e1; rfl
        clear e1 ca HA
        by_cases c1v : vl ≤ v ∧ v ≤ vh
        · rw [decide_eq_true c1v] at hW0
          by_cases c1m : nl ≤ m ∧ m ≤ nh
          · rw [decide_eq_true c1m] at hW1
            rcases hc2 with ⟨rfl, rfl⟩ | ⟨rfl, rfl⟩
            · by_cases c3t : t = []
              · have hte : (bs t).toList.isEmpty = true := by rw [bs_toList, c3t]; rfl
                have hq : decide ((524288 : Int) < ((bs t).size : Int)) = false := by rw [hlen, c3t]; rfl
                have HE : Hid (R = 0) := by
                  show R = _; rw [← HR.out, if_neg HN.out]; exact if_pos ⟨c1v.1, c1v.2, c1m.1, c1m.2, by rw [c3t]; simp⟩
                clear HR
                clear c1v c1m hlen c3t
                go_enter Tryd.func36, Tryd.ntmps36
                go_wp2_with (first | (go_at_call 38; refine (hI _).mono ?_; rintro e w1 ⟨rfl, hb1⟩; have p1 := (hb1.block w.heap.size hlp).trans p0; have x0 := cellB p1 0 (.int .i64 (k : Int)) rfl; have x1 := cellB p1 1 (.int .i64 (-1)) rfl; have hl1 : w.heap.size < w1.heap.size := (Array.getElem?_eq_some_iff.1 p1).1; have hB1 := hb0.trans (hb1.mono hb0.size); clear hb1))
                refine (hRow _).mono ?_
                rintro e w2 ⟨rfl, hb2⟩
                have p2 := (hb2.block w.heap.size hl1).trans p1
                have y2 := cellB p2 3 (.int .i64 v) rfl
                have y3 := cellB p2 4 (.int .i64 m) rfl
                have y4 := cellB p2 5 (.string (bs t)) rfl
                have hB2 := hB1.trans (hb2.mono hB1.size)
                clear hb2 x0 x1 p1 hl1 hB1 p0 hlp hb0 hI hRow k0 k1
                have i0 : ∀ W : World, (Instr.index 9 (.string (bs [c0, c1, 46, c3])) (.int .i64 0)).run Tryd.prog W = .ok (.int .u8 c0.toNat) W := fun W => rfl
                have i1 : ∀ W : World, (Instr.index 9 (.string (bs [c0, c1, 46, c3])) (.int .i64 1)).run Tryd.prog W = .ok (.int .u8 c1.toNat) W := fun W => rfl
                have i2 : ∀ W : World, (Instr.index 9 (.string (bs [c0, c1, 46, c3])) (.int .i64 2)).run Tryd.prog W = .ok (.int .u8 46) W := fun W => rfl
                go_wp2_with fail
                go_quiet (first | (go_at_call 48; refine Calls.quiet_of_same (hW _ _ (by assumption) _)))
                go_wp2
                go_ret
                exact ⟨by rw [HE.out]; rfl, below_drewN hB2 _⟩
              · have hte : (bs t).toList.isEmpty = false := by rw [bs_toList]; simpa using c3t
                have htl : 0 < t.length := List.length_pos_iff.2 c3t
                have HE : Hid (R = 4) := by
                  show R = _; rw [← HR.out, if_neg HN.out]; exact if_neg (fun c => by have := c.2.2.2.2; omega)
                clear HR
                clear c1v c1m hlen htl c3t
                go_enter Tryd.func36, Tryd.ntmps36
                go_wp2_with (first | (go_at_call 38; refine (hI _).mono ?_; rintro e w1 ⟨rfl, hb1⟩; have p1 := (hb1.block w.heap.size hlp).trans p0; have x0 := cellB p1 0 (.int .i64 (k : Int)) rfl; have x1 := cellB p1 1 (.int .i64 (-1)) rfl; have hl1 : w.heap.size < w1.heap.size := (Array.getElem?_eq_some_iff.1 p1).1; have hB1 := hb0.trans (hb1.mono hb0.size); clear hb1))
                refine (hRow _).mono ?_
                rintro e w2 ⟨rfl, hb2⟩
                have p2 := (hb2.block w.heap.size hl1).trans p1
                have y2 := cellB p2 3 (.int .i64 v) rfl
                have y3 := cellB p2 4 (.int .i64 m) rfl
                have y4 := cellB p2 5 (.string (bs t)) rfl
                have hB2 := hB1.trans (hb2.mono hB1.size)
                clear hb2 x0 x1 p1 hl1 hB1 p0 hlp hb0 hI hRow k0 k1
                have i0 : ∀ W : World, (Instr.index 9 (.string (bs [c0, c1, 46, c3])) (.int .i64 0)).run Tryd.prog W = .ok (.int .u8 c0.toNat) W := fun W => rfl
                have i1 : ∀ W : World, (Instr.index 9 (.string (bs [c0, c1, 46, c3])) (.int .i64 1)).run Tryd.prog W = .ok (.int .u8 c1.toNat) W := fun W => rfl
                have i2 : ∀ W : World, (Instr.index 9 (.string (bs [c0, c1, 46, c3])) (.int .i64 2)).run Tryd.prog W = .ok (.int .u8 46) W := fun W => rfl
                go_wp2_with fail
                go_quiet (first | (go_at_call 48; refine Calls.quiet_of_same (hW _ _ (by assumption) _)))
                go_wp2
                go_ret
                exact ⟨by rw [HE.out]; rfl, below_drewN hB2 _⟩
            · by_cases c3t : (t.length : Int) ≤ 524288
              · have hq : decide ((524288 : Int) < ((bs t).size : Int)) = false := by rw [hlen]; exact decide_eq_false (by omega)
                have HE : Hid (R = 0) := by
                  show R = _; rw [← HR.out, if_neg HN.out]; exact if_pos ⟨c1v.1, c1v.2, c1m.1, c1m.2, c3t⟩
                clear HR
                clear c1v c1m hlen c3t
                go_enter Tryd.func36, Tryd.ntmps36
                go_wp2_with (first | (go_at_call 38; refine (hI _).mono ?_; rintro e w1 ⟨rfl, hb1⟩; have p1 := (hb1.block w.heap.size hlp).trans p0; have x0 := cellB p1 0 (.int .i64 (k : Int)) rfl; have x1 := cellB p1 1 (.int .i64 (-1)) rfl; have hl1 : w.heap.size < w1.heap.size := (Array.getElem?_eq_some_iff.1 p1).1; have hB1 := hb0.trans (hb1.mono hb0.size); clear hb1))
                refine (hRow _).mono ?_
                rintro e w2 ⟨rfl, hb2⟩
                have p2 := (hb2.block w.heap.size hl1).trans p1
                have y2 := cellB p2 3 (.int .i64 v) rfl
                have y3 := cellB p2 4 (.int .i64 m) rfl
                have y4 := cellB p2 5 (.string (bs t)) rfl
                have hB2 := hB1.trans (hb2.mono hB1.size)
                clear hb2 x0 x1 p1 hl1 hB1 p0 hlp hb0 hI hRow k0 k1
                have i0 : ∀ W : World, (Instr.index 9 (.string (bs [c0, c1, 116, c3])) (.int .i64 0)).run Tryd.prog W = .ok (.int .u8 c0.toNat) W := fun W => rfl
                have i1 : ∀ W : World, (Instr.index 9 (.string (bs [c0, c1, 116, c3])) (.int .i64 1)).run Tryd.prog W = .ok (.int .u8 c1.toNat) W := fun W => rfl
                have i2 : ∀ W : World, (Instr.index 9 (.string (bs [c0, c1, 116, c3])) (.int .i64 2)).run Tryd.prog W = .ok (.int .u8 116) W := fun W => rfl
                go_wp2_with fail
                go_quiet (first | (go_at_call 48; refine Calls.quiet_of_same (hW _ _ (by assumption) _)))
                go_wp2
                go_ret
                exact ⟨by rw [HE.out]; rfl, below_drewN hB2 _⟩
              · have hq : decide ((524288 : Int) < ((bs t).size : Int)) = true := by rw [hlen]; exact decide_eq_true (by omega)
                have HE : Hid (R = 4) := by
                  show R = _; rw [← HR.out, if_neg HN.out]; exact if_neg (fun c => c3t c.2.2.2.2)
                clear HR
                clear c1v c1m hlen c3t
                go_enter Tryd.func36, Tryd.ntmps36
                go_wp2_with (first | (go_at_call 38; refine (hI _).mono ?_; rintro e w1 ⟨rfl, hb1⟩; have p1 := (hb1.block w.heap.size hlp).trans p0; have x0 := cellB p1 0 (.int .i64 (k : Int)) rfl; have x1 := cellB p1 1 (.int .i64 (-1)) rfl; have hl1 : w.heap.size < w1.heap.size := (Array.getElem?_eq_some_iff.1 p1).1; have hB1 := hb0.trans (hb1.mono hb0.size); clear hb1))
                refine (hRow _).mono ?_
                rintro e w2 ⟨rfl, hb2⟩
                have p2 := (hb2.block w.heap.size hl1).trans p1
                have y2 := cellB p2 3 (.int .i64 v) rfl
                have y3 := cellB p2 4 (.int .i64 m) rfl
                have y4 := cellB p2 5 (.string (bs t)) rfl
                have hB2 := hB1.trans (hb2.mono hB1.size)
                clear hb2 x0 x1 p1 hl1 hB1 p0 hlp hb0 hI hRow k0 k1
                have i0 : ∀ W : World, (Instr.index 9 (.string (bs [c0, c1, 116, c3])) (.int .i64 0)).run Tryd.prog W = .ok (.int .u8 c0.toNat) W := fun W => rfl
                have i1 : ∀ W : World, (Instr.index 9 (.string (bs [c0, c1, 116, c3])) (.int .i64 1)).run Tryd.prog W = .ok (.int .u8 c1.toNat) W := fun W => rfl
                have i2 : ∀ W : World, (Instr.index 9 (.string (bs [c0, c1, 116, c3])) (.int .i64 2)).run Tryd.prog W = .ok (.int .u8 116) W := fun W => rfl
                go_wp2_with fail
                go_quiet (first | (go_at_call 48; refine Calls.quiet_of_same (hW _ _ (by assumption) _)))
                go_wp2
                go_ret
                exact ⟨by rw [HE.out]; rfl, below_drewN hB2 _⟩
          · rw [decide_eq_false c1m] at hW1
            have HE : Hid (R = 4) := by
              show R = _; rw [← HR.out, if_neg HN.out]; exact if_neg (fun c => c1m ⟨c.2.2.1, c.2.2.2.1⟩)
            clear HR
            clear c1v c1m hlen hc2
            go_enter Tryd.func36, Tryd.ntmps36
            go_wp2_with (first | (go_at_call 38; refine (hI _).mono ?_; rintro e w1 ⟨rfl, hb1⟩; have p1 := (hb1.block w.heap.size hlp).trans p0; have x0 := cellB p1 0 (.int .i64 (k : Int)) rfl; have x1 := cellB p1 1 (.int .i64 (-1)) rfl; have hl1 : w.heap.size < w1.heap.size := (Array.getElem?_eq_some_iff.1 p1).1; have hB1 := hb0.trans (hb1.mono hb0.size); clear hb1))
            refine (hRow _).mono ?_
            rintro e w2 ⟨rfl, hb2⟩
            have p2 := (hb2.block w.heap.size hl1).trans p1
            have y2 := cellB p2 3 (.int .i64 v) rfl
            have y3 := cellB p2 4 (.int .i64 m) rfl
            have y4 := cellB p2 5 (.string (bs t)) rfl
            have hB2 := hB1.trans (hb2.mono hB1.size)
            clear hb2 x0 x1 p1 hl1 hB1 p0 hlp hb0 hI hRow k0 k1
            have i0 : ∀ W : World, (Instr.index 9 (.string (bs [c0, c1, c2, c3])) (.int .i64 0)).run Tryd.prog W = .ok (.int .u8 c0.toNat) W := fun W => rfl
            have i1 : ∀ W : World, (Instr.index 9 (.string (bs [c0, c1, c2, c3])) (.int .i64 1)).run Tryd.prog W = .ok (.int .u8 c1.toNat) W := fun W => rfl
            have i2 : ∀ W : World, (Instr.index 9 (.string (bs [c0, c1, c2, c3])) (.int .i64 2)).run Tryd.prog W = .ok (.int .u8 c2.toNat) W := fun W => rfl
            go_wp2_with fail
            go_quiet (first | (go_at_call 48; refine Calls.quiet_of_same (hW _ _ (by assumption) _)))
            go_wp2
            go_ret
            exact ⟨by rw [HE.out]; rfl, below_drewN hB2 _⟩
        · rw [decide_eq_false c1v] at hW0
          have HE : Hid (R = 4) := by
            show R = _; rw [← HR.out, if_neg HN.out]; exact if_neg (fun c => c1v ⟨c.1, c.2.1⟩)
          clear HR
          clear c1v hlen hc2
          go_enter Tryd.func36, Tryd.ntmps36
          go_wp2_with (first | (go_at_call 38; refine (hI _).mono ?_; rintro e w1 ⟨rfl, hb1⟩; have p1 := (hb1.block w.heap.size hlp).trans p0; have x0 := cellB p1 0 (.int .i64 (k : Int)) rfl; have x1 := cellB p1 1 (.int .i64 (-1)) rfl; have hl1 : w.heap.size < w1.heap.size := (Array.getElem?_eq_some_iff.1 p1).1; have hB1 := hb0.trans (hb1.mono hb0.size); clear hb1))
          refine (hRow _).mono ?_
          rintro e w2 ⟨rfl, hb2⟩
          have p2 := (hb2.block w.heap.size hl1).trans p1
          have y2 := cellB p2 3 (.int .i64 v) rfl
          have y3 := cellB p2 4 (.int .i64 m) rfl
          have y4 := cellB p2 5 (.string (bs t)) rfl
          have hB2 := hB1.trans (hb2.mono hB1.size)
          clear hb2 x0 x1 p1 hl1 hB1 p0 hlp hb0 hI hRow k0 k1
          have i0 : ∀ W : World, (Instr.index 9 (.string (bs [c0, c1, c2, c3])) (.int .i64 0)).run Tryd.prog W = .ok (.int .u8 c0.toNat) W := fun W => rfl
          have i1 : ∀ W : World, (Instr.index 9 (.string (bs [c0, c1, c2, c3])) (.int .i64 1)).run Tryd.prog W = .ok (.int .u8 c1.toNat) W := fun W => rfl
          have i2 : ∀ W : World, (Instr.index 9 (.string (bs [c0, c1, c2, c3])) (.int .i64 2)).run Tryd.prog W = .ok (.int .u8 c2.toNat) W := fun W => rfl
          go_wp2_with fail
          go_quiet (first | (go_at_call 48; refine Calls.quiet_of_same (hW _ _ (by assumption) _)))
          go_wp2
          go_ret
          exact ⟨by rw [HE.out]; rfl, below_drewN hB2 _⟩
      · have e2 : k = 12 := Classical.byContradiction fun e2 => ca (HA.out.2 ⟨e1, e2⟩)
        have d1 : ((k : Int) != 1) = true := by simp; omega
        have d2 : ((k : Int) != 12) = false := by subst e2; rfl
        clear e1 e2 ca HA
        by_cases c1v : vl ≤ v ∧ v ≤ vh
        · rw [decide_eq_true c1v] at hW0
          by_cases c1m : nl ≤ m ∧ m ≤ nh
          · rw [decide_eq_true c1m] at hW1
            rcases hc2 with ⟨rfl, rfl⟩ | ⟨rfl, rfl⟩
            · by_cases c3t : t = []
              · have hte : (bs t).toList.isEmpty = true := by rw [bs_toList, c3t]; rfl
                have hq : decide ((524288 : Int) < ((bs t).size : Int)) = false := by rw [hlen, c3t]; rfl
                have HE : Hid (R = 0) := by
                  show R = _; rw [← HR.out, if_neg HN.out]; exact if_pos ⟨c1v.1, c1v.2, c1m.1, c1m.2, by rw [c3t]; simp⟩
                clear HR
                clear c1v c1m hlen c3t
                go_enter Tryd.func36, Tryd.ntmps36
                go_wp2_with (first | (go_at_call 38; refine (hI _).mono ?_; rintro e w1 ⟨rfl, hb1⟩; have p1 := (hb1.block w.heap.size hlp).trans p0; have x0 := cellB p1 0 (.int .i64 (k : Int)) rfl; have x1 := cellB p1 1 (.int .i64 (-1)) rfl; have hl1 : w.heap.size < w1.heap.size := (Array.getElem?_eq_some_iff.1 p1).1; have hB1 := hb0.trans (hb1.mono hb0.size); clear hb1))
                refine (hRow _).mono ?_
                rintro e w2 ⟨rfl, hb2⟩
                have p2 := (hb2.block w.heap.size hl1).trans p1
                have y2 := cellB p2 3 (.int .i64 v) rfl
                have y3 := cellB p2 4 (.int .i64 m) rfl
                have y4 := cellB p2 5 (.string (bs t)) rfl
                have hB2 := hB1.trans (hb2.mono hB1.size)
                clear hb2 x0 x1 p1 hl1 hB1 p0 hlp hb0 hI hRow k0 k1
                have i0 : ∀ W : World, (Instr.index 9 (.string (bs [c0, c1, 46, c3])) (.int .i64 0)).run Tryd.prog W = .ok (.int .u8 c0.toNat) W := fun W => rfl
                have i1 : ∀ W : World, (Instr.index 9 (.string (bs [c0, c1, 46, c3])) (.int .i64 1)).run Tryd.prog W = .ok (.int .u8 c1.toNat) W := fun W => rfl
                have i2 : ∀ W : World, (Instr.index 9 (.string (bs [c0, c1, 46, c3])) (.int .i64 2)).run Tryd.prog W = .ok (.int .u8 46) W := fun W => rfl
                go_wp2_with fail
                go_quiet (first | (go_at_call 48; refine Calls.quiet_of_same (hW _ _ (by assumption) _)))
                go_wp2
                go_ret
                exact ⟨by rw [HE.out]; rfl, below_drewN hB2 _⟩
              · have hte : (bs t).toList.isEmpty = false := by rw [bs_toList]; simpa using c3t
                have htl : 0 < t.length := List.length_pos_iff.2 c3t
                have HE : Hid (R = 4) := by
                  show R = _; rw [← HR.out, if_neg HN.out]; exact if_neg (fun c => by have := c.2.2.2.2; omega)
                clear HR
                clear c1v c1m hlen htl c3t
                go_enter Tryd.func36, Tryd.ntmps36
                go_wp2_with (first | (go_at_call 38; refine (hI _).mono ?_; rintro e w1 ⟨rfl, hb1⟩; have p1 := (hb1.block w.heap.size hlp).trans p0; have x0 := cellB p1 0 (.int .i64 (k : Int)) rfl; have x1 := cellB p1 1 (.int .i64 (-1)) rfl; have hl1 : w.heap.size < w1.heap.size := (Array.getElem?_eq_some_iff.1 p1).1; have hB1 := hb0.trans (hb1.mono hb0.size); clear hb1))
                refine (hRow _).mono ?_
                rintro e w2 ⟨rfl, hb2⟩
                have p2 := (hb2.block w.heap.size hl1).trans p1
                have y2 := cellB p2 3 (.int .i64 v) rfl
                have y3 := cellB p2 4 (.int .i64 m) rfl
                have y4 := cellB p2 5 (.string (bs t)) rfl
                have hB2 := hB1.trans (hb2.mono hB1.size)
                clear hb2 x0 x1 p1 hl1 hB1 p0 hlp hb0 hI hRow k0 k1
                have i0 : ∀ W : World, (Instr.index 9 (.string (bs [c0, c1, 46, c3])) (.int .i64 0)).run Tryd.prog W = .ok (.int .u8 c0.toNat) W := fun W => rfl
                have i1 : ∀ W : World, (Instr.index 9 (.string (bs [c0, c1, 46, c3])) (.int .i64 1)).run Tryd.prog W = .ok (.int .u8 c1.toNat) W := fun W => rfl
                have i2 : ∀ W : World, (Instr.index 9 (.string (bs [c0, c1, 46, c3])) (.int .i64 2)).run Tryd.prog W = .ok (.int .u8 46) W := fun W => rfl
                go_wp2_with fail
                go_quiet (first | (go_at_call 48; refine Calls.quiet_of_same (hW _ _ (by assumption) _)))
                go_wp2
                go_ret
                exact ⟨by rw [HE.out]; rfl, below_drewN hB2 _⟩
            · by_cases c3t : (t.length : Int) ≤ 524288
              · have hq : decide ((524288 : Int) < ((bs t).size : Int)) = false := by rw [hlen]; exact decide_eq_false (by omega)
                have HE : Hid (R = 0) := by
                  show R = _; rw [← HR.out, if_neg HN.out]; exact if_pos ⟨c1v.1, c1v.2, c1m.1, c1m.2, c3t⟩
                clear HR
                clear c1v c1m hlen c3t
                go_enter Tryd.func36, Tryd.ntmps36
                go_wp2_with (first | (go_at_call 38; refine (hI _).mono ?_; rintro e w1 ⟨rfl, hb1⟩; have p1 := (hb1.block w.heap.size hlp).trans p0; have x0 := cellB p1 0 (.int .i64 (k : Int)) rfl; have x1 := cellB p1 1 (.int .i64 (-1)) rfl; have hl1 : w.heap.size < w1.heap.size := (Array.getElem?_eq_some_iff.1 p1).1; have hB1 := hb0.trans (hb1.mono hb0.size); clear hb1))
                refine (hRow _).mono ?_
                rintro e w2 ⟨rfl, hb2⟩
                have p2 := (hb2.block w.heap.size hl1).trans p1
                have y2 := cellB p2 3 (.int .i64 v) rfl
                have y3 := cellB p2 4 (.int .i64 m) rfl
                have y4 := cellB p2 5 (.string (bs t)) rfl
                have hB2 := hB1.trans (hb2.mono hB1.size)
                clear hb2 x0 x1 p1 hl1 hB1 p0 hlp hb0 hI hRow k0 k1
                have i0 : ∀ W : World, (Instr.index 9 (.string (bs [c0, c1, 116, c3])) (.int .i64 0)).run Tryd.prog W = .ok (.int .u8 c0.toNat) W := fun W => rfl
                have i1 : ∀ W : World, (Instr.index 9 (.string (bs [c0, c1, 116, c3])) (.int .i64 1)).run Tryd.prog W = .ok (.int .u8 c1.toNat) W := fun W => rfl
                have i2 : ∀ W : World, (Instr.index 9 (.string (bs [c0, c1, 116, c3])) (.int .i64 2)).run Tryd.prog W = .ok (.int .u8 116) W := fun W => rfl
                go_wp2_with fail
                go_quiet (first | (go_at_call 48; refine Calls.quiet_of_same (hW _ _ (by assumption) _)))
                go_wp2
                go_ret
                exact ⟨by rw [HE.out]; rfl, below_drewN hB2 _⟩
              · have hq : decide ((524288 : Int) < ((bs t).size : Int)) = true := by rw [hlen]; exact decide_eq_true (by omega)
                have HE : Hid (R = 4) := by
                  show R = _; rw [← HR.out, if_neg HN.out]; exact if_neg (fun c => c3t c.2.2.2.2)
                clear HR
                clear c1v c1m hlen c3t
                go_enter Tryd.func36, Tryd.ntmps36
                go_wp2_with (first | (go_at_call 38; refine (hI _).mono ?_; rintro e w1 ⟨rfl, hb1⟩; have p1 := (hb1.block w.heap.size hlp).trans p0; have x0 := cellB p1 0 (.int .i64 (k : Int)) rfl; have x1 := cellB p1 1 (.int .i64 (-1)) rfl; have hl1 : w.heap.size < w1.heap.size := (Array.getElem?_eq_some_iff.1 p1).1; have hB1 := hb0.trans (hb1.mono hb0.size); clear hb1))
                refine (hRow _).mono ?_
                rintro e w2 ⟨rfl, hb2⟩
                have p2 := (hb2.block w.heap.size hl1).trans p1
                have y2 := cellB p2 3 (.int .i64 v) rfl
                have y3 := cellB p2 4 (.int .i64 m) rfl
                have y4 := cellB p2 5 (.string (bs t)) rfl
                have hB2 := hB1.trans (hb2.mono hB1.size)
                clear hb2 x0 x1 p1 hl1 hB1 p0 hlp hb0 hI hRow k0 k1
                have i0 : ∀ W : World, (Instr.index 9 (.string (bs [c0, c1, 116, c3])) (.int .i64 0)).run Tryd.prog W = .ok (.int .u8 c0.toNat) W := fun W => rfl
                have i1 : ∀ W : World, (Instr.index 9 (.string (bs [c0, c1, 116, c3])) (.int .i64 1)).run Tryd.prog W = .ok (.int .u8 c1.toNat) W := fun W => rfl
                have i2 : ∀ W : World, (Instr.index 9 (.string (bs [c0, c1, 116, c3])) (.int .i64 2)).run Tryd.prog W = .ok (.int .u8 116) W := fun W => rfl
                go_wp2_with fail
                go_quiet (first | (go_at_call 48; refine Calls.quiet_of_same (hW _ _ (by assumption) _)))
                go_wp2
                go_ret
                exact ⟨by rw [HE.out]; rfl, below_drewN hB2 _⟩
          · rw [decide_eq_false c1m] at hW1
            have HE : Hid (R = 4) := by
              show R = _; rw [← HR.out, if_neg HN.out]; exact if_neg (fun c => c1m ⟨c.2.2.1, c.2.2.2.1⟩)
            clear HR
            clear c1v c1m hlen hc2
            go_enter Tryd.func36, Tryd.ntmps36
            go_wp2_with (first | (go_at_call 38; refine (hI _).mono ?_; rintro e w1 ⟨rfl, hb1⟩; have p1 := (hb1.block w.heap.size hlp).trans p0; have x0 := cellB p1 0 (.int .i64 (k : Int)) rfl; have x1 := cellB p1 1 (.int .i64 (-1)) rfl; have hl1 : w.heap.size < w1.heap.size := (Array.getElem?_eq_some_iff.1 p1).1; have hB1 := hb0.trans (hb1.mono hb0.size); clear hb1))
            refine (hRow _).mono ?_
            rintro e w2 ⟨rfl, hb2⟩
            have p2 := (hb2.block w.heap.size hl1).trans p1
            have y2 := cellB p2 3 (.int .i64 v) rfl
            have y3 := cellB p2 4 (.int .i64 m) rfl
            have y4 := cellB p2 5 (.string (bs t)) rfl
            have hB2 := hB1.trans (hb2.mono hB1.size)
            clear hb2 x0 x1 p1 hl1 hB1 p0 hlp hb0 hI hRow k0 k1
            have i0 : ∀ W : World, (Instr.index 9 (.string (bs [c0, c1, c2, c3])) (.int .i64 0)).run Tryd.prog W = .ok (.int .u8 c0.toNat) W := fun W => rfl
            have i1 : ∀ W : World, (Instr.index 9 (.string (bs [c0, c1, c2, c3])) (.int .i64 1)).run Tryd.prog W = .ok (.int .u8 c1.toNat) W := fun W => rfl
            have i2 : ∀ W : World, (Instr.index 9 (.string (bs [c0, c1, c2, c3])) (.int .i64 2)).run Tryd.prog W = .ok (.int .u8 c2.toNat) W := fun W => rfl
            go_wp2_with fail
            go_quiet (first | (go_at_call 48; refine Calls.quiet_of_same (hW _ _ (by assumption) _)))
            go_wp2
            go_ret
            exact ⟨by rw [HE.out]; rfl, below_drewN hB2 _⟩
        · rw [decide_eq_false c1v] at hW0
          have HE : Hid (R = 4) := by
            show R = _; rw [← HR.out, if_neg HN.out]; exact if_neg (fun c => c1v ⟨c.1, c.2.1⟩)
          clear HR
          clear c1v hlen hc2
          go_enter Tryd.func36, Tryd.ntmps36
          go_wp2_with (first | (go_at_call 38; refine (hI _).mono ?_; rintro e w1 ⟨rfl, hb1⟩; have p1 := (hb1.block w.heap.size hlp).trans p0; have x0 := cellB p1 0 (.int .i64 (k : Int)) rfl; have x1 := cellB p1 1 (.int .i64 (-1)) rfl; have hl1 : w.heap.size < w1.heap.size := (Array.getElem?_eq_some_iff.1 p1).1; have hB1 := hb0.trans (hb1.mono hb0.size); clear hb1))
          refine (hRow _).mono ?_
          rintro e w2 ⟨rfl, hb2⟩
          have p2 := (hb2.block w.heap.size hl1).trans p1
          have y2 := cellB p2 3 (.int .i64 v) rfl
          have y3 := cellB p2 4 (.int .i64 m) rfl
          have y4 := cellB p2 5 (.string (bs t)) rfl
          have hB2 := hB1.trans (hb2.mono hB1.size)
          clear hb2 x0 x1 p1 hl1 hB1 p0 hlp hb0 hI hRow k0 k1
          have i0 : ∀ W : World, (Instr.index 9 (.string (bs [c0, c1, c2, c3])) (.int .i64 0)).run Tryd.prog W = .ok (.int .u8 c0.toNat) W := fun W => rfl
          have i1 : ∀ W : World, (Instr.index 9 (.string (bs [c0, c1, c2, c3])) (.int .i64 1)).run Tryd.prog W = .ok (.int .u8 c1.toNat) W := fun W => rfl
          have i2 : ∀ W : World, (Instr.index 9 (.string (bs [c0, c1, c2, c3])) (.int .i64 2)).run Tryd.prog W = .ok (.int .u8 c2.toNat) W := fun W => rfl
          go_wp2_with fail
          go_quiet (first | (go_at_call 48; refine Calls.quiet_of_same (hW _ _ (by assumption) _)))
          go_wp2
          go_ret
          exact ⟨by rw [HE.out]; rfl, below_drewN hB2 _⟩
  · have HN : Hid (¬ (g = -1 ∧ an = false)) := fun c => cg c.1
    have hg : (g == -1) = false := by simpa using cg
    clear cg HA
    by_cases c1v : vl ≤ v ∧ v ≤ vh
    · rw [decide_eq_true c1v] at hW0
      by_cases c1m : nl ≤ m ∧ m ≤ nh
      · rw [decide_eq_true c1m] at hW1
        rcases hc2 with ⟨rfl, rfl⟩ | ⟨rfl, rfl⟩
        · by_cases c3t : t = []
          · have hte : (bs t).toList.isEmpty = true := by rw [bs_toList, c3t]; rfl
            have hq : decide ((524288 : Int) < ((bs t).size : Int)) = false := by rw [hlen, c3t]; rfl
            have HE : Hid (R = 0) := by
              show R = _; rw [← HR.out, if_neg HN.out]; exact if_pos ⟨c1v.1, c1v.2, c1m.1, c1m.2, by rw [c3t]; simp⟩
            clear HR
            clear c1v c1m hlen c3t
            go_enter Tryd.func36, Tryd.ntmps36
            go_wp2_with (first | (go_at_call 38; refine (hI _).mono ?_; rintro e w1 ⟨rfl, hb1⟩; have p1 := (hb1.block w.heap.size hlp).trans p0; have x0 := cellB p1 0 (.int .i64 (k : Int)) rfl; have x1 := cellB p1 1 (.int .i64 g) rfl; have hl1 : w.heap.size < w1.heap.size := (Array.getElem?_eq_some_iff.1 p1).1; have hB1 := hb0.trans (hb1.mono hb0.size); clear hb1))
            refine (hRow _).mono ?_
            rintro e w2 ⟨rfl, hb2⟩
            have p2 := (hb2.block w.heap.size hl1).trans p1
            have y2 := cellB p2 3 (.int .i64 v) rfl
            have y3 := cellB p2 4 (.int .i64 m) rfl
            have y4 := cellB p2 5 (.string (bs t)) rfl
            have hB2 := hB1.trans (hb2.mono hB1.size)
            clear hb2 x0 x1 p1 hl1 hB1 p0 hlp hb0 hI hRow k0 k1
            have i0 : ∀ W : World, (Instr.index 9 (.string (bs [c0, c1, 46, c3])) (.int .i64 0)).run Tryd.prog W = .ok (.int .u8 c0.toNat) W := fun W => rfl
            have i1 : ∀ W : World, (Instr.index 9 (.string (bs [c0, c1, 46, c3])) (.int .i64 1)).run Tryd.prog W = .ok (.int .u8 c1.toNat) W := fun W => rfl
            have i2 : ∀ W : World, (Instr.index 9 (.string (bs [c0, c1, 46, c3])) (.int .i64 2)).run Tryd.prog W = .ok (.int .u8 46) W := fun W => rfl
            go_wp2_with fail
            go_quiet (first | (go_at_call 48; refine Calls.quiet_of_same (hW _ _ (by assumption) _)))
            go_wp2
            go_ret
            exact ⟨by rw [HE.out]; rfl, below_drewN hB2 _⟩
          · have hte : (bs t).toList.isEmpty = false := by rw [bs_toList]; simpa using c3t
            have htl : 0 < t.length := List.length_pos_iff.2 c3t
            have HE : Hid (R = 4) := by
              show R = _; rw [← HR.out, if_neg HN.out]; exact if_neg (fun c => by have := c.2.2.2.2; omega)
            clear HR
            clear c1v c1m hlen htl c3t
            go_enter Tryd.func36, Tryd.ntmps36
            go_wp2_with (first | (go_at_call 38; refine (hI _).mono ?_; rintro e w1 ⟨rfl, hb1⟩; have p1 := (hb1.block w.heap.size hlp).trans p0; have x0 := cellB p1 0 (.int .i64 (k : Int)) rfl; have x1 := cellB p1 1 (.int .i64 g) rfl; have hl1 : w.heap.size < w1.heap.size := (Array.getElem?_eq_some_iff.1 p1).1; have hB1 := hb0.trans (hb1.mono hb0.size); clear hb1))
            refine (hRow _).mono ?_
            rintro e w2 ⟨rfl, hb2⟩
            have p2 := (hb2.block w.heap.size hl1).trans p1
            have y2 := cellB p2 3 (.int .i64 v) rfl
            have y3 := cellB p2 4 (.int .i64 m) rfl
            have y4 := cellB p2 5 (.string (bs t)) rfl
            have hB2 := hB1.trans (hb2.mono hB1.size)
            clear hb2 x0 x1 p1 hl1 hB1 p0 hlp hb0 hI hRow k0 k1
            have i0 : ∀ W : World, (Instr.index 9 (.string (bs [c0, c1, 46, c3])) (.int .i64 0)).run Tryd.prog W = .ok (.int .u8 c0.toNat) W := fun W => rfl
            have i1 : ∀ W : World, (Instr.index 9 (.string (bs [c0, c1, 46, c3])) (.int .i64 1)).run Tryd.prog W = .ok (.int .u8 c1.toNat) W := fun W => rfl
            have i2 : ∀ W : World, (Instr.index 9 (.string (bs [c0, c1, 46, c3])) (.int .i64 2)).run Tryd.prog W = .ok (.int .u8 46) W := fun W => rfl
            go_wp2_with fail
            go_quiet (first | (go_at_call 48; refine Calls.quiet_of_same (hW _ _ (by assumption) _)))
            go_wp2
            go_ret
            exact ⟨by rw [HE.out]; rfl, below_drewN hB2 _⟩
        · by_cases c3t : (t.length : Int) ≤ 524288
          · have hq : decide ((524288 : Int) < ((bs t).size : Int)) = false := by rw [hlen]; exact decide_eq_false (by omega)
            have HE : Hid (R = 0) := by
              show R = _; rw [← HR.out, if_neg HN.out]; exact if_pos ⟨c1v.1, c1v.2, c1m.1, c1m.2, c3t⟩
            clear HR
            clear c1v c1m hlen c3t
            go_enter Tryd.func36, Tryd.ntmps36
            go_wp2_with (first | (go_at_call 38; refine (hI _).mono ?_; rintro e w1 ⟨rfl, hb1⟩; have p1 := (hb1.block w.heap.size hlp).trans p0; have x0 := cellB p1 0 (.int .i64 (k : Int)) rfl; have x1 := cellB p1 1 (.int .i64 g) rfl; have hl1 : w.heap.size < w1.heap.size := (Array.getElem?_eq_some_iff.1 p1).1; have hB1 := hb0.trans (hb1.mono hb0.size); clear hb1))
            refine (hRow _).mono ?_
            rintro e w2 ⟨rfl, hb2⟩
            have p2 := (hb2.block w.heap.size hl1).trans p1
            have y2 := cellB p2 3 (.int .i64 v) rfl
            have y3 := cellB p2 4 (.int .i64 m) rfl
            have y4 := cellB p2 5 (.string (bs t)) rfl
            have hB2 := hB1.trans (hb2.mono hB1.size)
            clear hb2 x0 x1 p1 hl1 hB1 p0 hlp hb0 hI hRow k0 k1
            have i0 : ∀ W : World, (Instr.index 9 (.string (bs [c0, c1, 116, c3])) (.int .i64 0)).run Tryd.prog W = .ok (.int .u8 c0.toNat) W := fun W => rfl
            have i1 : ∀ W : World, (Instr.index 9 (.string (bs [c0, c1, 116, c3])) (.int .i64 1)).run Tryd.prog W = .ok (.int .u8 c1.toNat) W := fun W => rfl
            have i2 : ∀ W : World, (Instr.index 9 (.string (bs [c0, c1, 116, c3])) (.int .i64 2)).run Tryd.prog W = .ok (.int .u8 116) W := fun W => rfl
            go_wp2_with fail
            go_quiet (first | (go_at_call 48; refine Calls.quiet_of_same (hW _ _ (by assumption) _)))
            go_wp2
            go_ret
            exact ⟨by rw [HE.out]; rfl, below_drewN hB2 _⟩
          · have hq : decide ((524288 : Int) < ((bs t).size : Int)) = true := by rw [hlen]; exact decide_eq_true (by omega)
            have HE : Hid (R = 4) := by
              show R = _; rw [← HR.out, if_neg HN.out]; exact if_neg (fun c => c3t c.2.2.2.2)
            clear HR
            clear c1v c1m hlen c3t
            go_enter Tryd.func36, Tryd.ntmps36
            go_wp2_with (first | (go_at_call 38; refine (hI _).mono ?_; rintro e w1 ⟨rfl, hb1⟩; have p1 := (hb1.block w.heap.size hlp).trans p0; have x0 := cellB p1 0 (.int .i64 (k : Int)) rfl; have x1 := cellB p1 1 (.int .i64 g) rfl; have hl1 : w.heap.size < w1.heap.size := (Array.getElem?_eq_some_iff.1 p1).1; have hB1 := hb0.trans (hb1.mono hb0.size); clear hb1))
            refine (hRow _).mono ?_
            rintro e w2 ⟨rfl, hb2⟩
            have p2 := (hb2.block w.heap.size hl1).trans p1
            have y2 := cellB p2 3 (.int .i64 v) rfl
            have y3 := cellB p2 4 (.int .i64 m) rfl
            have y4 := cellB p2 5 (.string (bs t)) rfl
            have hB2 := hB1.trans (hb2.mono hB1.size)
            clear hb2 x0 x1 p1 hl1 hB1 p0 hlp hb0 hI hRow k0 k1
            have i0 : ∀ W : World, (Instr.index 9 (.string (bs [c0, c1, 116, c3])) (.int .i64 0)).run Tryd.prog W = .ok (.int .u8 c0.toNat) W := fun W => rfl
            have i1 : ∀ W : World, (Instr.index 9 (.string (bs [c0, c1, 116, c3])) (.int .i64 1)).run Tryd.prog W = .ok (.int .u8 c1.toNat) W := fun W => rfl
            have i2 : ∀ W : World, (Instr.index 9 (.string (bs [c0, c1, 116, c3])) (.int .i64 2)).run Tryd.prog W = .ok (.int .u8 116) W := fun W => rfl
            go_wp2_with fail
            go_quiet (first | (go_at_call 48; refine Calls.quiet_of_same (hW _ _ (by assumption) _)))
            go_wp2
            go_ret
            exact ⟨by rw [HE.out]; rfl, below_drewN hB2 _⟩
      · rw [decide_eq_false c1m] at hW1
        have HE : Hid (R = 4) := by
          show R = _; rw [← HR.out, if_neg HN.out]; exact if_neg (fun c => c1m ⟨c.2.2.1, c.2.2.2.1⟩)
        clear HR
        clear c1v c1m hlen hc2
        go_enter Tryd.func36, Tryd.ntmps36
        go_wp2_with (first | (go_at_call 38; refine (hI _).mono ?_; rintro e w1 ⟨rfl, hb1⟩; have p1 := (hb1.block w.heap.size hlp).trans p0; have x0 := cellB p1 0 (.int .i64 (k : Int)) rfl; have x1 := cellB p1 1 (.int .i64 g) rfl; have hl1 : w.heap.size < w1.heap.size := (Array.getElem?_eq_some_iff.1 p1).1; have hB1 := hb0.trans (hb1.mono hb0.size); clear hb1))
        refine (hRow _).mono ?_
        rintro e w2 ⟨rfl, hb2⟩
        have p2 := (hb2.block w.heap.size hl1).trans p1
        have y2 := cellB p2 3 (.int .i64 v) rfl
        have y3 := cellB p2 4 (.int .i64 m) rfl
        have y4 := cellB p2 5 (.string (bs t)) rfl
        have hB2 := hB1.trans (hb2.mono hB1.size)
        clear hb2 x0 x1 p1 hl1 hB1 p0 hlp hb0 hI hRow k0 k1
        have i0 : ∀ W : World, (Instr.index 9 (.string (bs [c0, c1, c2, c3])) (.int .i64 0)).run Tryd.prog W = .ok (.int .u8 c0.toNat) W := fun W => rfl
        have i1 : ∀ W : World, (Instr.index 9 (.string (bs [c0, c1, c2, c3])) (.int .i64 1)).run Tryd.prog W = .ok (.int .u8 c1.toNat) W := fun W => rfl
        have i2 : ∀ W : World, (Instr.index 9 (.string (bs [c0, c1, c2, c3])) (.int .i64 2)).run Tryd.prog W = .ok (.int .u8 c2.toNat) W := fun W => rfl
        go_wp2_with fail
        go_quiet (first | (go_at_call 48; refine Calls.quiet_of_same (hW _ _ (by assumption) _)))
        go_wp2
        go_ret
        exact ⟨by rw [HE.out]; rfl, below_drewN hB2 _⟩
    · rw [decide_eq_false c1v] at hW0
      have HE : Hid (R = 4) := by
        show R = _; rw [← HR.out, if_neg HN.out]; exact if_neg (fun c => c1v ⟨c.1, c.2.1⟩)
      clear HR
      clear c1v hlen hc2
      go_enter Tryd.func36, Tryd.ntmps36
      go_wp2_with (first | (go_at_call 38; refine (hI _).mono ?_; rintro e w1 ⟨rfl, hb1⟩; have p1 := (hb1.block w.heap.size hlp).trans p0; have x0 := cellB p1 0 (.int .i64 (k : Int)) rfl; have x1 := cellB p1 1 (.int .i64 g) rfl; have hl1 : w.heap.size < w1.heap.size := (Array.getElem?_eq_some_iff.1 p1).1; have hB1 := hb0.trans (hb1.mono hb0.size); clear hb1))
      refine (hRow _).mono ?_
      rintro e w2 ⟨rfl, hb2⟩
      have p2 := (hb2.block w.heap.size hl1).trans p1
      have y2 := cellB p2 3 (.int .i64 v) rfl
      have y3 := cellB p2 4 (.int .i64 m) rfl
      have y4 := cellB p2 5 (.string (bs t)) rfl
      have hB2 := hB1.trans (hb2.mono hB1.size)
      clear hb2 x0 x1 p1 hl1 hB1 p0 hlp hb0 hI hRow k0 k1
      have i0 : ∀ W : World, (Instr.index 9 (.string (bs [c0, c1, c2, c3])) (.int .i64 0)).run Tryd.prog W = .ok (.int .u8 c0.toNat) W := fun W => rfl
      have i1 : ∀ W : World, (Instr.index 9 (.string (bs [c0, c1, c2, c3])) (.int .i64 1)).run Tryd.prog W = .ok (.int .u8 c1.toNat) W := fun W => rfl
      have i2 : ∀ W : World, (Instr.index 9 (.string (bs [c0, c1, c2, c3])) (.int .i64 2)).run Tryd.prog W = .ok (.int .u8 c2.toNat) W := fun W => rfl
      go_wp2_with fail
      go_quiet (first | (go_at_call 48; refine Calls.quiet_of_same (hW _ _ (by assumption) _)))
      go_wp2
      go_ret
      exact ⟨by rw [HE.out]; rfl, below_drewN hB2 _⟩
end Go.Proofs.YtielknegifbmpaaDoor
