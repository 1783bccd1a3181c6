/- Kinds, spans, what is wrong with a memo: the program's, walked. -/
import Derived.Test.YtmkjcfakopbdhaaGreatDoorMeP
import Derived.Deep.MidRow
import Derived.Deep.CutBlock
namespace Go.Proofs.YtmkjcfakopbdhaaGreatDoor
open Go.RowKit
attribute [local go_sem ↓] Go.wp_at_zero Go.wp_at_succ

/-- The table of the kinds. -/
def EnvS (w : World) : Prop := ∀ k : Nat, k ≤ 12 → w.rangeAt 0 (k * 7) (shc k)
theorem EnvS.next {w w' : World} (h : EnvS w) (h0 : 0 < w.heap.size) (hb : Below w.heap.size w w') : EnvS w' :=
  fun k hk j v hv => (hb.cell (p := ⟨0, k * 7 + j, none⟩) h0).trans (h k hk j v hv)
structure EnvM (w : World) : Prop where
  env : Env w
  shapes : EnvS w
theorem EnvM.next {w w' : World} (h : EnvM w) (hb : Below w.heap.size w w') : EnvM w' := ⟨h.env.next hb, h.shapes.next (by have := h.env.size; omega) hb⟩

theorem isKind_any (k : Int) (w : World) : Calls Tryz.prog 26 #[.int .i64 k] w fun e W' => e = .returned (.bool (decide (isK k))) ∧ W' = w := by
  by_cases h1 : 1 ≤ k
  · by_cases h2 : k ≤ 12
    · rw [decide_eq_true (show isK k from ⟨h1, h2⟩)]
      go_enter Tryz.func26, Tryz.ntmps26
      go_wp2
      go_ret
      exact ⟨rfl, rfl⟩
    · rw [decide_eq_false (show ¬ isK k from fun h => h2 h.2)]
      go_enter Tryz.func26, Tryz.ntmps26
      go_wp2
      go_ret
      exact ⟨rfl, rfl⟩
  · rw [decide_eq_false (show ¬ isK k from fun h => h1 h.1)]
    go_enter Tryz.func26, Tryz.ntmps26
    go_wp2
    go_ret
    exact ⟨rfl, rfl⟩

theorem has_any (a b n : Int) (w : World) : Calls Tryz.prog 47 #[.agg #[.int .i64 a, .int .i64 b], .int .i64 n] w fun e W' => e = .returned (.bool (decide (a ≤ n ∧ n ≤ b))) ∧ Below w.heap.size w W' := by
  have hb0 : Below w.heap.size w (w.alloc (.cells #[.int .i64 a, .int .i64 b] 64)) := (Below.refl _ w).alloc (Nat.le_refl _) _
  by_cases h1 : a ≤ n
  · by_cases h2 : n ≤ b
    · rw [decide_eq_true (show a ≤ n ∧ n ≤ b from ⟨h1, h2⟩)]
      go_enter Tryz.func47, Tryz.ntmps47
      go_wp2
      go_ret
      exact ⟨rfl, hb0⟩
    · rw [decide_eq_false (show ¬ (a ≤ n ∧ n ≤ b) from fun h => h2 h.2)]
      go_enter Tryz.func47, Tryz.ntmps47
      go_wp2
      go_ret
      exact ⟨rfl, hb0⟩
  · rw [decide_eq_false (show ¬ (a ≤ n ∧ n ≤ b) from fun h => h1 h.1)]
    go_enter Tryz.func47, Tryz.ntmps47
    go_wp2
    go_ret
    exact ⟨rfl, hb0⟩

/-- A row of the table as it lies. -/
structure Row7 (w : World) (k : Nat) (an : Bool) (vl vh nl nh tx tk : Int) : Prop where
  c0 : w.cell? ⟨0, k * 7, none⟩ = some (.bool an)
  c1 : w.cell? ⟨0, k * 7 + 1, none⟩ = some (.int .i64 vl)
  c2 : w.cell? ⟨0, k * 7 + 2, none⟩ = some (.int .i64 vh)
  c3 : w.cell? ⟨0, k * 7 + 3, none⟩ = some (.int .i64 nl)
  c4 : w.cell? ⟨0, k * 7 + 4, none⟩ = some (.int .i64 nh)
  c5 : w.cell? ⟨0, k * 7 + 5, none⟩ = some (.int .i64 tx)
  c6 : w.cell? ⟨0, k * 7 + 6, none⟩ = some (.int .i64 tk)
theorem EnvS.row {w : World} (h : EnvS w) (k : Nat) (hk : k ≤ 12) : Row7 w k (anyK k) (vlo k) (vhi k) (nlo k) (nhi k) (txK k) (tgK k) :=
  ⟨h k hk 0 _ rfl, h k hk 1 _ rfl, h k hk 2 _ rfl, h k hk 3 _ rfl, h k hk 4 _ rfl, h k hk 5 _ rfl, h k hk 6 _ rfl⟩
theorem Row7.next {w w' : World} {k : Nat} {an : Bool} {vl vh nl nh tx tk : Int} (h : Row7 w k an vl vh nl nh tx tk) (h0 : 0 < w.heap.size) (hb : Below w.heap.size w w') : Row7 w' k an vl vh nl nh tx tk :=
  ⟨(hb.cell h0).trans h.c0, (hb.cell h0).trans h.c1, (hb.cell h0).trans h.c2, (hb.cell h0).trans h.c3, (hb.cell h0).trans h.c4, (hb.cell h0).trans h.c5, (hb.cell h0).trans h.c6⟩

set_option maxRecDepth 20000 in
set_option maxHeartbeats 2000000 in
theorem fault_gen (k : Nat) (hk1 : 1 ≤ k) (hk2 : k ≤ 12) (g n v m : Int) (hp : isP g n) (t tg : List UInt8) (w : World) (he : EnvP w) (an : Bool) (vl vh nl nh tx tk : Int) (hr : Row7 w k an vl vh nl nh tx tk) :
    Calls Tryz.prog 27 #[.agg #[.int .i64 k, .int .i64 g, .int .i64 n, .int .i64 v, .int .i64 m, .string (bs t), .string (bs tg)]] w fun e W' => e = .returned (.int .i64 (if g = -1 ∧ an = false then 1 else if vl ≤ v ∧ v ≤ vh ∧ nl ≤ m ∧ m ≤ nh ∧ (t.length : Int) ≤ tx then 0 else 4)) ∧ Below w.heap.size w W' := by
  have hb0 : Below w.heap.size w (w.alloc (.cells #[.int .i64 k, .int .i64 g, .int .i64 n, .int .i64 v, .int .i64 m, .string (bs t), .string (bs tg)] 25)) := (Below.refl _ w).alloc (Nat.le_refl _) _
  have p0 : (w.alloc (.cells #[.int .i64 k, .int .i64 g, .int .i64 n, .int .i64 v, .int .i64 m, .string (bs t), .string (bs tg)] 25)).heap[w.heap.size]? = some (.cells #[.int .i64 k, .int .i64 g, .int .i64 n, .int .i64 v, .int .i64 m, .string (bs t), .string (bs tg)] 25) := heap_alloc_new _ _
  have hlp : w.heap.size < (w.alloc (.cells #[.int .i64 k, .int .i64 g, .int .i64 n, .int .i64 v, .int .i64 m, .string (bs t), .string (bs tg)] 25)).heap.size := by simp
  have hK := isKind_any k
  rw [decide_eq_true (show isK (k : Int) from ⟨by omega, by omega⟩)] at hK
  have hN := fun W (h : EnvP W) => Name_any g n W h
  rw [show nameE g n = 0 from if_pos hp] at hN
  have hV := has_any vl vh v
  have hM := has_any nl nh m
  have hlen : (bs t).size = t.length := bs_size t
  obtain ⟨R, hR⟩ : ∃ R : Int, (if g = -1 ∧ an = false then 1 else if vl ≤ v ∧ v ≤ vh ∧ nl ≤ m ∧ m ≤ nh ∧ (t.length : Int) ≤ tx then 0 else 4) = R := ⟨_, rfl⟩
  have HR : Hid ((if g = -1 ∧ an = false then 1 else if vl ≤ v ∧ v ≤ vh ∧ nl ≤ m ∧ m ≤ nh ∧ (t.length : Int) ≤ tx then (0 : Int) else 4) = R) := hR
  rw [hR]
  clear hR
  have k0 : (0 : Int) ≤ (k : Int) := by omega
  have k1 : (k : Int) < 13 := by omega
  by_cases cg : g = -1
  · subst cg
    cases an
    · have HE : Hid (R = 1) := by show R = 1; rw [← HR.out, if_pos ⟨rfl, rfl⟩]
      clear HR
      go_enter Tryz.func27, Tryz.ntmps27
      go_wp2_with (first | (go_at_call 26; refine (hK _).mono ?_; rintro e w1 ⟨rfl, rfl⟩))
      have he0 := he.next hb0
      refine (hN _ he0).mono ?_
      rintro e w1 ⟨rfl, hb1⟩
      have p1 := (hb1.block w.heap.size hlp).trans p0
      have x0 := cellB p1 0 _ rfl
      have x1 := cellB p1 1 _ rfl
      have x2 := cellB p1 2 _ rfl
      have x3 := cellB p1 3 _ rfl
      have x4 := cellB p1 4 _ rfl
      have hB1 := hb0.trans (hb1.mono hb0.size)
      obtain ⟨s0, s1, s2, s3, s4, s5, s6⟩ := hr.next (by have := he.size; omega) hB1
      have hl1 : w.heap.size < w1.heap.size := (Array.getElem?_eq_some_iff.1 p1).1
      have hba := (Below.refl w1.heap.size w1).alloc (Nat.le_refl _) (.cells #[.bool false, .int .i64 vl, .int .i64 vh, .int .i64 nl, .int .i64 nh, .int .i64 tx, .int .i64 tk] 66)
      have HQ : Hid ((w1.alloc (.cells #[.bool false, .int .i64 vl, .int .i64 vh, .int .i64 nl, .int .i64 nh, .int .i64 tx, .int .i64 tk] 66)).heap[w1.heap.size]? = some (.cells #[.bool false, .int .i64 vl, .int .i64 vh, .int .i64 nl, .int .i64 nh, .int .i64 tx, .int .i64 tk] 66)) := heap_alloc_new _ _
      have hla : w1.heap.size < (w1.alloc (.cells #[.bool false, .int .i64 vl, .int .i64 vh, .int .i64 nl, .int .i64 nh, .int .i64 tx, .int .i64 tk] 66)).heap.size := by simp
      have hBa := hB1.trans (hba.mono hB1.size)
      clear hb1 hb0 p0 he0 hK hN
      go_wp2
      go_ret
      exact ⟨by rw [HE.out]; rfl, hBa⟩
    · by_cases c1 : vl ≤ v ∧ v ≤ vh
      · rw [decide_eq_true c1] at hV
        by_cases c2 : nl ≤ m ∧ m ≤ nh
        · rw [decide_eq_true c2] at hM
          by_cases c3 : (t.length : Int) ≤ tx
          · have HE : Hid (R = 0) := by
              show R = _; rw [← HR.out, if_neg (fun c => by cases c.2)]; exact if_pos ⟨c1.1, c1.2, c2.1, c2.2, c3⟩
            clear HR
            have hq : decide (tx < ((bs t).size : Int)) = false := by rw [hlen]; exact decide_eq_false (by omega)
            clear c1 c2 c3 hlen
            go_enter Tryz.func27, Tryz.ntmps27
            go_wp2_with (first | (go_at_call 26; refine (hK _).mono ?_; rintro e w1 ⟨rfl, rfl⟩))
            have he0 := he.next hb0
            refine (hN _ he0).mono ?_
            rintro e w1 ⟨rfl, hb1⟩
            have p1 := (hb1.block w.heap.size hlp).trans p0
            have x0 := cellB p1 0 _ rfl
            have x1 := cellB p1 1 _ rfl
            have x2 := cellB p1 2 _ rfl
            have x3 := cellB p1 3 _ rfl
            have x4 := cellB p1 4 _ rfl
            have hB1 := hb0.trans (hb1.mono hb0.size)
            obtain ⟨s0, s1, s2, s3, s4, s5, s6⟩ := hr.next (by have := he.size; omega) hB1
            have hl1 : w.heap.size < w1.heap.size := (Array.getElem?_eq_some_iff.1 p1).1
            have hba := (Below.refl w1.heap.size w1).alloc (Nat.le_refl _) (.cells #[.bool true, .int .i64 vl, .int .i64 vh, .int .i64 nl, .int .i64 nh, .int .i64 tx, .int .i64 tk] 66)
            have HQ : Hid ((w1.alloc (.cells #[.bool true, .int .i64 vl, .int .i64 vh, .int .i64 nl, .int .i64 nh, .int .i64 tx, .int .i64 tk] 66)).heap[w1.heap.size]? = some (.cells #[.bool true, .int .i64 vl, .int .i64 vh, .int .i64 nl, .int .i64 nh, .int .i64 tx, .int .i64 tk] 66)) := heap_alloc_new _ _
            have hla : w1.heap.size < (w1.alloc (.cells #[.bool true, .int .i64 vl, .int .i64 vh, .int .i64 nl, .int .i64 nh, .int .i64 tx, .int .i64 tk] 66)).heap.size := by simp
            have hBa := hB1.trans (hba.mono hB1.size)
            clear hb1 hb0 p0 he0 hK hN
            go_wp2_with fail
            refine (hV _).mono ?_
            rintro e w2 ⟨rfl, hb2⟩
            have p2 := (hb2.block w.heap.size (Nat.lt_trans hl1 hla)).trans ((hba.block w.heap.size hl1).trans p1)
            have q2 := (hb2.block w1.heap.size hla).trans HQ.out
            have z3 := cellB p2 3 _ rfl
            have z4 := cellB p2 4 _ rfl
            have z5 := cellB p2 5 _ rfl
            have r3 := cellB q2 3 _ rfl
            have r4 := cellB q2 4 _ rfl
            have r5 := cellB q2 5 _ rfl
            have hl2 : w.heap.size < w2.heap.size := (Array.getElem?_eq_some_iff.1 p2).1
            have hl3 : w1.heap.size < w2.heap.size := (Array.getElem?_eq_some_iff.1 q2).1
            have hB2 := hBa.trans (hb2.mono hBa.size)
            clear hV hb2 hba HQ hla x0 x1 x2 x3 x4 s0 s1 s2 s3 s4 s5 s6 p1 hl1 hBa hB1
            go_wp2_with fail
            refine (hM _).mono ?_
            rintro e w3 ⟨rfl, hb3⟩
            have p3 := (hb3.block w.heap.size hl2).trans p2
            have q3 := (hb3.block w1.heap.size hl3).trans q2
            have y5 := cellB p3 5 _ rfl
            have u5 := cellB q3 5 _ rfl
            have hB3 := hB2.trans (hb3.mono hB2.size)
            clear hM hb3 p2 q2 z3 z4 z5 r3 r4 r5 hl2 hl3 hB2
            go_wp2
            go_ret
            exact ⟨by rw [HE.out]; rfl, hB3⟩
          · have HE : Hid (R = 4) := by
              show R = _; rw [← HR.out, if_neg (fun c => by cases c.2)]; exact if_neg (fun c => c3 c.2.2.2.2)
            clear HR
            have hq : decide (tx < ((bs t).size : Int)) = true := by rw [hlen]; exact decide_eq_true (by omega)
            clear c1 c2 c3 hlen
            go_enter Tryz.func27, Tryz.ntmps27
            go_wp2_with (first | (go_at_call 26; refine (hK _).mono ?_; rintro e w1 ⟨rfl, rfl⟩))
            have he0 := he.next hb0
            refine (hN _ he0).mono ?_
            rintro e w1 ⟨rfl, hb1⟩
            have p1 := (hb1.block w.heap.size hlp).trans p0
            have x0 := cellB p1 0 _ rfl
            have x1 := cellB p1 1 _ rfl
            have x2 := cellB p1 2 _ rfl
            have x3 := cellB p1 3 _ rfl
            have x4 := cellB p1 4 _ rfl
            have hB1 := hb0.trans (hb1.mono hb0.size)
            obtain ⟨s0, s1, s2, s3, s4, s5, s6⟩ := hr.next (by have := he.size; omega) hB1
            have hl1 : w.heap.size < w1.heap.size := (Array.getElem?_eq_some_iff.1 p1).1
            have hba := (Below.refl w1.heap.size w1).alloc (Nat.le_refl _) (.cells #[.bool true, .int .i64 vl, .int .i64 vh, .int .i64 nl, .int .i64 nh, .int .i64 tx, .int .i64 tk] 66)
            have HQ : Hid ((w1.alloc (.cells #[.bool true, .int .i64 vl, .int .i64 vh, .int .i64 nl, .int .i64 nh, .int .i64 tx, .int .i64 tk] 66)).heap[w1.heap.size]? = some (.cells #[.bool true, .int .i64 vl, .int .i64 vh, .int .i64 nl, .int .i64 nh, .int .i64 tx, .int .i64 tk] 66)) := heap_alloc_new _ _
            have hla : w1.heap.size < (w1.alloc (.cells #[.bool true, .int .i64 vl, .int .i64 vh, .int .i64 nl, .int .i64 nh, .int .i64 tx, .int .i64 tk] 66)).heap.size := by simp
            have hBa := hB1.trans (hba.mono hB1.size)
            clear hb1 hb0 p0 he0 hK hN
            go_wp2_with fail
            refine (hV _).mono ?_
            rintro e w2 ⟨rfl, hb2⟩
            have p2 := (hb2.block w.heap.size (Nat.lt_trans hl1 hla)).trans ((hba.block w.heap.size hl1).trans p1)
            have q2 := (hb2.block w1.heap.size hla).trans HQ.out
            have z3 := cellB p2 3 _ rfl
            have z4 := cellB p2 4 _ rfl
            have z5 := cellB p2 5 _ rfl
            have r3 := cellB q2 3 _ rfl
            have r4 := cellB q2 4 _ rfl
            have r5 := cellB q2 5 _ rfl
            have hl2 : w.heap.size < w2.heap.size := (Array.getElem?_eq_some_iff.1 p2).1
            have hl3 : w1.heap.size < w2.heap.size := (Array.getElem?_eq_some_iff.1 q2).1
            have hB2 := hBa.trans (hb2.mono hBa.size)
            clear hV hb2 hba HQ hla x0 x1 x2 x3 x4 s0 s1 s2 s3 s4 s5 s6 p1 hl1 hBa hB1
            go_wp2_with fail
            refine (hM _).mono ?_
            rintro e w3 ⟨rfl, hb3⟩
            have p3 := (hb3.block w.heap.size hl2).trans p2
            have q3 := (hb3.block w1.heap.size hl3).trans q2
            have y5 := cellB p3 5 _ rfl
            have u5 := cellB q3 5 _ rfl
            have hB3 := hB2.trans (hb3.mono hB2.size)
            clear hM hb3 p2 q2 z3 z4 z5 r3 r4 r5 hl2 hl3 hB2
            go_wp2
            go_ret
            exact ⟨by rw [HE.out]; rfl, hB3⟩
        · rw [decide_eq_false c2] at hM
          have HE : Hid (R = 4) := by
            show R = _; rw [← HR.out, if_neg (fun c => by cases c.2)]; exact if_neg (fun c => c2 ⟨c.2.2.1, c.2.2.2.1⟩)
          clear HR
          clear c1 c2 hlen
          go_enter Tryz.func27, Tryz.ntmps27
          go_wp2_with (first | (go_at_call 26; refine (hK _).mono ?_; rintro e w1 ⟨rfl, rfl⟩))
          have he0 := he.next hb0
          refine (hN _ he0).mono ?_
          rintro e w1 ⟨rfl, hb1⟩
          have p1 := (hb1.block w.heap.size hlp).trans p0
          have x0 := cellB p1 0 _ rfl
          have x1 := cellB p1 1 _ rfl
          have x2 := cellB p1 2 _ rfl
          have x3 := cellB p1 3 _ rfl
          have x4 := cellB p1 4 _ rfl
          have hB1 := hb0.trans (hb1.mono hb0.size)
          obtain ⟨s0, s1, s2, s3, s4, s5, s6⟩ := hr.next (by have := he.size; omega) hB1
          have hl1 : w.heap.size < w1.heap.size := (Array.getElem?_eq_some_iff.1 p1).1
          have hba := (Below.refl w1.heap.size w1).alloc (Nat.le_refl _) (.cells #[.bool true, .int .i64 vl, .int .i64 vh, .int .i64 nl, .int .i64 nh, .int .i64 tx, .int .i64 tk] 66)
          have HQ : Hid ((w1.alloc (.cells #[.bool true, .int .i64 vl, .int .i64 vh, .int .i64 nl, .int .i64 nh, .int .i64 tx, .int .i64 tk] 66)).heap[w1.heap.size]? = some (.cells #[.bool true, .int .i64 vl, .int .i64 vh, .int .i64 nl, .int .i64 nh, .int .i64 tx, .int .i64 tk] 66)) := heap_alloc_new _ _
          have hla : w1.heap.size < (w1.alloc (.cells #[.bool true, .int .i64 vl, .int .i64 vh, .int .i64 nl, .int .i64 nh, .int .i64 tx, .int .i64 tk] 66)).heap.size := by simp
          have hBa := hB1.trans (hba.mono hB1.size)
          clear hb1 hb0 p0 he0 hK hN
          go_wp2_with fail
          refine (hV _).mono ?_
          rintro e w2 ⟨rfl, hb2⟩
          have p2 := (hb2.block w.heap.size (Nat.lt_trans hl1 hla)).trans ((hba.block w.heap.size hl1).trans p1)
          have q2 := (hb2.block w1.heap.size hla).trans HQ.out
          have z3 := cellB p2 3 _ rfl
          have z4 := cellB p2 4 _ rfl
          have z5 := cellB p2 5 _ rfl
          have r3 := cellB q2 3 _ rfl
          have r4 := cellB q2 4 _ rfl
          have r5 := cellB q2 5 _ rfl
          have hl2 : w.heap.size < w2.heap.size := (Array.getElem?_eq_some_iff.1 p2).1
          have hl3 : w1.heap.size < w2.heap.size := (Array.getElem?_eq_some_iff.1 q2).1
          have hB2 := hBa.trans (hb2.mono hBa.size)
          clear hV hb2 hba HQ hla x0 x1 x2 x3 x4 s0 s1 s2 s3 s4 s5 s6 p1 hl1 hBa hB1
          go_wp2_with fail
          refine (hM _).mono ?_
          rintro e w3 ⟨rfl, hb3⟩
          have p3 := (hb3.block w.heap.size hl2).trans p2
          have q3 := (hb3.block w1.heap.size hl3).trans q2
          have y5 := cellB p3 5 _ rfl
          have u5 := cellB q3 5 _ rfl
          have hB3 := hB2.trans (hb3.mono hB2.size)
          clear hM hb3 p2 q2 z3 z4 z5 r3 r4 r5 hl2 hl3 hB2
          go_wp2
          go_ret
          exact ⟨by rw [HE.out]; rfl, hB3⟩
      · rw [decide_eq_false c1] at hV
        have HE : Hid (R = 4) := by
          show R = _; rw [← HR.out, if_neg (fun c => by cases c.2)]; exact if_neg (fun c => c1 ⟨c.1, c.2.1⟩)
        clear HR
        clear c1 hlen
        go_enter Tryz.func27, Tryz.ntmps27
        go_wp2_with (first | (go_at_call 26; refine (hK _).mono ?_; rintro e w1 ⟨rfl, rfl⟩))
        have he0 := he.next hb0
        refine (hN _ he0).mono ?_
        rintro e w1 ⟨rfl, hb1⟩
        have p1 := (hb1.block w.heap.size hlp).trans p0
        have x0 := cellB p1 0 _ rfl
        have x1 := cellB p1 1 _ rfl
        have x2 := cellB p1 2 _ rfl
        have x3 := cellB p1 3 _ rfl
        have x4 := cellB p1 4 _ rfl
        have hB1 := hb0.trans (hb1.mono hb0.size)
        obtain ⟨s0, s1, s2, s3, s4, s5, s6⟩ := hr.next (by have := he.size; omega) hB1
        have hl1 : w.heap.size < w1.heap.size := (Array.getElem?_eq_some_iff.1 p1).1
        have hba := (Below.refl w1.heap.size w1).alloc (Nat.le_refl _) (.cells #[.bool true, .int .i64 vl, .int .i64 vh, .int .i64 nl, .int .i64 nh, .int .i64 tx, .int .i64 tk] 66)
        have HQ : Hid ((w1.alloc (.cells #[.bool true, .int .i64 vl, .int .i64 vh, .int .i64 nl, .int .i64 nh, .int .i64 tx, .int .i64 tk] 66)).heap[w1.heap.size]? = some (.cells #[.bool true, .int .i64 vl, .int .i64 vh, .int .i64 nl, .int .i64 nh, .int .i64 tx, .int .i64 tk] 66)) := heap_alloc_new _ _
        have hla : w1.heap.size < (w1.alloc (.cells #[.bool true, .int .i64 vl, .int .i64 vh, .int .i64 nl, .int .i64 nh, .int .i64 tx, .int .i64 tk] 66)).heap.size := by simp
        have hBa := hB1.trans (hba.mono hB1.size)
        clear hb1 hb0 p0 he0 hK hN
        go_wp2_with fail
        refine (hV _).mono ?_
        rintro e w2 ⟨rfl, hb2⟩
        have p2 := (hb2.block w.heap.size (Nat.lt_trans hl1 hla)).trans ((hba.block w.heap.size hl1).trans p1)
        have q2 := (hb2.block w1.heap.size hla).trans HQ.out
        have z3 := cellB p2 3 _ rfl
        have z4 := cellB p2 4 _ rfl
        have z5 := cellB p2 5 _ rfl
        have r3 := cellB q2 3 _ rfl
        have r4 := cellB q2 4 _ rfl
        have r5 := cellB q2 5 _ rfl
        have hl2 : w.heap.size < w2.heap.size := (Array.getElem?_eq_some_iff.1 p2).1
        have hl3 : w1.heap.size < w2.heap.size := (Array.getElem?_eq_some_iff.1 q2).1
        have hB2 := hBa.trans (hb2.mono hBa.size)
        clear hV hb2 hba HQ hla x0 x1 x2 x3 x4 s0 s1 s2 s3 s4 s5 s6 p1 hl1 hBa hB1
        go_wp2
        go_ret
        exact ⟨by rw [HE.out]; rfl, hB2⟩
  · have hg : (g == -1) = false := by simpa using cg
    by_cases c1 : vl ≤ v ∧ v ≤ vh
    · rw [decide_eq_true c1] at hV
      by_cases c2 : nl ≤ m ∧ m ≤ nh
      · rw [decide_eq_true c2] at hM
        by_cases c3 : (t.length : Int) ≤ tx
        · have HE : Hid (R = 0) := by
            show R = _; rw [← HR.out, if_neg (fun c => cg c.1)]; exact if_pos ⟨c1.1, c1.2, c2.1, c2.2, c3⟩
          clear HR
          have hq : decide (tx < ((bs t).size : Int)) = false := by rw [hlen]; exact decide_eq_false (by omega)
          clear c1 c2 c3 hlen
          go_enter Tryz.func27, Tryz.ntmps27
          go_wp2_with (first | (go_at_call 26; refine (hK _).mono ?_; rintro e w1 ⟨rfl, rfl⟩))
          have he0 := he.next hb0
          refine (hN _ he0).mono ?_
          rintro e w1 ⟨rfl, hb1⟩
          have p1 := (hb1.block w.heap.size hlp).trans p0
          have x0 := cellB p1 0 _ rfl
          have x1 := cellB p1 1 _ rfl
          have x2 := cellB p1 2 _ rfl
          have x3 := cellB p1 3 _ rfl
          have x4 := cellB p1 4 _ rfl
          have hB1 := hb0.trans (hb1.mono hb0.size)
          obtain ⟨s0, s1, s2, s3, s4, s5, s6⟩ := hr.next (by have := he.size; omega) hB1
          have hl1 : w.heap.size < w1.heap.size := (Array.getElem?_eq_some_iff.1 p1).1
          have hba := (Below.refl w1.heap.size w1).alloc (Nat.le_refl _) (.cells #[.bool an, .int .i64 vl, .int .i64 vh, .int .i64 nl, .int .i64 nh, .int .i64 tx, .int .i64 tk] 66)
          have HQ : Hid ((w1.alloc (.cells #[.bool an, .int .i64 vl, .int .i64 vh, .int .i64 nl, .int .i64 nh, .int .i64 tx, .int .i64 tk] 66)).heap[w1.heap.size]? = some (.cells #[.bool an, .int .i64 vl, .int .i64 vh, .int .i64 nl, .int .i64 nh, .int .i64 tx, .int .i64 tk] 66)) := heap_alloc_new _ _
          have hla : w1.heap.size < (w1.alloc (.cells #[.bool an, .int .i64 vl, .int .i64 vh, .int .i64 nl, .int .i64 nh, .int .i64 tx, .int .i64 tk] 66)).heap.size := by simp
          have hBa := hB1.trans (hba.mono hB1.size)
          clear hb1 hb0 p0 he0 hK hN
          go_wp2_with fail
          refine (hV _).mono ?_
          rintro e w2 ⟨rfl, hb2⟩
          have p2 := (hb2.block w.heap.size (Nat.lt_trans hl1 hla)).trans ((hba.block w.heap.size hl1).trans p1)
          have q2 := (hb2.block w1.heap.size hla).trans HQ.out
          have z3 := cellB p2 3 _ rfl
          have z4 := cellB p2 4 _ rfl
          have z5 := cellB p2 5 _ rfl
          have r3 := cellB q2 3 _ rfl
          have r4 := cellB q2 4 _ rfl
          have r5 := cellB q2 5 _ rfl
          have hl2 : w.heap.size < w2.heap.size := (Array.getElem?_eq_some_iff.1 p2).1
          have hl3 : w1.heap.size < w2.heap.size := (Array.getElem?_eq_some_iff.1 q2).1
          have hB2 := hBa.trans (hb2.mono hBa.size)
          clear hV hb2 hba HQ hla x0 x1 x2 x3 x4 s0 s1 s2 s3 s4 s5 s6 p1 hl1 hBa hB1
          go_wp2_with fail
          refine (hM _).mono ?_
          rintro e w3 ⟨rfl, hb3⟩
          have p3 := (hb3.block w.heap.size hl2).trans p2
          have q3 := (hb3.block w1.heap.size hl3).trans q2
          have y5 := cellB p3 5 _ rfl
          have u5 := cellB q3 5 _ rfl
          have hB3 := hB2.trans (hb3.mono hB2.size)
          clear hM hb3 p2 q2 z3 z4 z5 r3 r4 r5 hl2 hl3 hB2
          go_wp2
          go_ret
          exact ⟨by rw [HE.out]; rfl, hB3⟩
        · have HE : Hid (R = 4) := by
            show R = _; rw [← HR.out, if_neg (fun c => cg c.1)]; exact if_neg (fun c => c3 c.2.2.2.2)
          clear HR
          have hq : decide (tx < ((bs t).size : Int)) = true := by rw [hlen]; exact decide_eq_true (by omega)
          clear c1 c2 c3 hlen
          go_enter Tryz.func27, Tryz.ntmps27
          go_wp2_with (first | (go_at_call 26; refine (hK _).mono ?_; rintro e w1 ⟨rfl, rfl⟩))
          have he0 := he.next hb0
          refine (hN _ he0).mono ?_
          rintro e w1 ⟨rfl, hb1⟩
          have p1 := (hb1.block w.heap.size hlp).trans p0
          have x0 := cellB p1 0 _ rfl
          have x1 := cellB p1 1 _ rfl
          have x2 := cellB p1 2 _ rfl
          have x3 := cellB p1 3 _ rfl
          have x4 := cellB p1 4 _ rfl
          have hB1 := hb0.trans (hb1.mono hb0.size)
          obtain ⟨s0, s1, s2, s3, s4, s5, s6⟩ := hr.next (by have := he.size; omega) hB1
          have hl1 : w.heap.size < w1.heap.size := (Array.getElem?_eq_some_iff.1 p1).1
          have hba := (Below.refl w1.heap.size w1).alloc (Nat.le_refl _) (.cells #[.bool an, .int .i64 vl, .int .i64 vh, .int .i64 nl, .int .i64 nh, .int .i64 tx, .int .i64 tk] 66)
          have HQ : Hid ((w1.alloc (.cells #[.bool an, .int .i64 vl, .int .i64 vh, .int .i64 nl, .int .i64 nh, .int .i64 tx, .int .i64 tk] 66)).heap[w1.heap.size]? = some (.cells #[.bool an, .int .i64 vl, .int .i64 vh, .int .i64 nl, .int .i64 nh, .int .i64 tx, .int .i64 tk] 66)) := heap_alloc_new _ _
          have hla : w1.heap.size < (w1.alloc (.cells #[.bool an, .int .i64 vl, .int .i64 vh, .int .i64 nl, .int .i64 nh, .int .i64 tx, .int .i64 tk] 66)).heap.size := by simp
          have hBa := hB1.trans (hba.mono hB1.size)
          clear hb1 hb0 p0 he0 hK hN
          go_wp2_with fail
          refine (hV _).mono ?_
          rintro e w2 ⟨rfl, hb2⟩
          have p2 := (hb2.block w.heap.size (Nat.lt_trans hl1 hla)).trans ((hba.block w.heap.size hl1).trans p1)
          have q2 := (hb2.block w1.heap.size hla).trans HQ.out
          have z3 := cellB p2 3 _ rfl
          have z4 := cellB p2 4 _ rfl
          have z5 := cellB p2 5 _ rfl
          have r3 := cellB q2 3 _ rfl
          have r4 := cellB q2 4 _ rfl
          have r5 := cellB q2 5 _ rfl
          have hl2 : w.heap.size < w2.heap.size := (Array.getElem?_eq_some_iff.1 p2).1
          have hl3 : w1.heap.size < w2.heap.size := (Array.getElem?_eq_some_iff.1 q2).1
          have hB2 := hBa.trans (hb2.mono hBa.size)
          clear hV hb2 hba HQ hla x0 x1 x2 x3 x4 s0 s1 s2 s3 s4 s5 s6 p1 hl1 hBa hB1
          go_wp2_with fail
          refine (hM _).mono ?_
          rintro e w3 ⟨rfl, hb3⟩
          have p3 := (hb3.block w.heap.size hl2).trans p2
          have q3 := (hb3.block w1.heap.size hl3).trans q2
          have y5 := cellB p3 5 _ rfl
          have u5 := cellB q3 5 _ rfl
          have hB3 := hB2.trans (hb3.mono hB2.size)
          clear hM hb3 p2 q2 z3 z4 z5 r3 r4 r5 hl2 hl3 hB2
          go_wp2
          go_ret
          exact ⟨by rw [HE.out]; rfl, hB3⟩
      · rw [decide_eq_false c2] at hM
        have HE : Hid (R = 4) := by
          show R = _; rw [← HR.out, if_neg (fun c => cg c.1)]; exact if_neg (fun c => c2 ⟨c.2.2.1, c.2.2.2.1⟩)
        clear HR
        clear c1 c2 hlen
        go_enter Tryz.func27, Tryz.ntmps27
        go_wp2_with (first | (go_at_call 26; refine (hK _).mono ?_; rintro e w1 ⟨rfl, rfl⟩))
        have he0 := he.next hb0
        refine (hN _ he0).mono ?_
        rintro e w1 ⟨rfl, hb1⟩
        have p1 := (hb1.block w.heap.size hlp).trans p0
        have x0 := cellB p1 0 _ rfl
        have x1 := cellB p1 1 _ rfl
        have x2 := cellB p1 2 _ rfl
        have x3 := cellB p1 3 _ rfl
        have x4 := cellB p1 4 _ rfl
        have hB1 := hb0.trans (hb1.mono hb0.size)
        obtain ⟨s0, s1, s2, s3, s4, s5, s6⟩ := hr.next (by have := he.size; omega) hB1
        have hl1 : w.heap.size < w1.heap.size := (Array.getElem?_eq_some_iff.1 p1).1
        have hba := (Below.refl w1.heap.size w1).alloc (Nat.le_refl _) (.cells #[.bool an, .int .i64 vl, .int .i64 vh, .int .i64 nl, .int .i64 nh, .int .i64 tx, .int .i64 tk] 66)
        have HQ : Hid ((w1.alloc (.cells #[.bool an, .int .i64 vl, .int .i64 vh, .int .i64 nl, .int .i64 nh, .int .i64 tx, .int .i64 tk] 66)).heap[w1.heap.size]? = some (.cells #[.bool an, .int .i64 vl, .int .i64 vh, .int .i64 nl, .int .i64 nh, .int .i64 tx, .int .i64 tk] 66)) := heap_alloc_new _ _
        have hla : w1.heap.size < (w1.alloc (.cells #[.bool an, .int .i64 vl, .int .i64 vh, .int .i64 nl, .int .i64 nh, .int .i64 tx, .int .i64 tk] 66)).heap.size := by simp
        have hBa := hB1.trans (hba.mono hB1.size)
        clear hb1 hb0 p0 he0 hK hN
        go_wp2_with fail
        refine (hV _).mono ?_
        rintro e w2 ⟨rfl, hb2⟩
        have p2 := (hb2.block w.heap.size (Nat.lt_trans hl1 hla)).trans ((hba.block w.heap.size hl1).trans p1)
        have q2 := (hb2.block w1.heap.size hla).trans HQ.out
        have z3 := cellB p2 3 _ rfl
        have z4 := cellB p2 4 _ rfl
        have z5 := cellB p2 5 _ rfl
        have r3 := cellB q2 3 _ rfl
        have r4 := cellB q2 4 _ rfl
        have r5 := cellB q2 5 _ rfl
        have hl2 : w.heap.size < w2.heap.size := (Array.getElem?_eq_some_iff.1 p2).1
        have hl3 : w1.heap.size < w2.heap.size := (Array.getElem?_eq_some_iff.1 q2).1
        have hB2 := hBa.trans (hb2.mono hBa.size)
        clear hV hb2 hba HQ hla x0 x1 x2 x3 x4 s0 s1 s2 s3 s4 s5 s6 p1 hl1 hBa hB1
        go_wp2_with fail
        refine (hM _).mono ?_
        rintro e w3 ⟨rfl, hb3⟩
        have p3 := (hb3.block w.heap.size hl2).trans p2
        have q3 := (hb3.block w1.heap.size hl3).trans q2
        have y5 := cellB p3 5 _ rfl
        have u5 := cellB q3 5 _ rfl
        have hB3 := hB2.trans (hb3.mono hB2.size)
        clear hM hb3 p2 q2 z3 z4 z5 r3 r4 r5 hl2 hl3 hB2
        go_wp2
        go_ret
        exact ⟨by rw [HE.out]; rfl, hB3⟩
    · rw [decide_eq_false c1] at hV
      have HE : Hid (R = 4) := by
        show R = _; rw [← HR.out, if_neg (fun c => cg c.1)]; exact if_neg (fun c => c1 ⟨c.1, c.2.1⟩)
      clear HR
      clear c1 hlen
      go_enter Tryz.func27, Tryz.ntmps27
      go_wp2_with (first | (go_at_call 26; refine (hK _).mono ?_; rintro e w1 ⟨rfl, rfl⟩))
      have he0 := he.next hb0
      refine (hN _ he0).mono ?_
      rintro e w1 ⟨rfl, hb1⟩
      have p1 := (hb1.block w.heap.size hlp).trans p0
      have x0 := cellB p1 0 _ rfl
      have x1 := cellB p1 1 _ rfl
      have x2 := cellB p1 2 _ rfl
      have x3 := cellB p1 3 _ rfl
      have x4 := cellB p1 4 _ rfl
      have hB1 := hb0.trans (hb1.mono hb0.size)
      obtain ⟨s0, s1, s2, s3, s4, s5, s6⟩ := hr.next (by have := he.size; omega) hB1
      have hl1 : w.heap.size < w1.heap.size := (Array.getElem?_eq_some_iff.1 p1).1
      have hba := (Below.refl w1.heap.size w1).alloc (Nat.le_refl _) (.cells #[.bool an, .int .i64 vl, .int .i64 vh, .int .i64 nl, .int .i64 nh, .int .i64 tx, .int .i64 tk] 66)
      have HQ : Hid ((w1.alloc (.cells #[.bool an, .int .i64 vl, .int .i64 vh, .int .i64 nl, .int .i64 nh, .int .i64 tx, .int .i64 tk] 66)).heap[w1.heap.size]? = some (.cells #[.bool an, .int .i64 vl, .int .i64 vh, .int .i64 nl, .int .i64 nh, .int .i64 tx, .int .i64 tk] 66)) := heap_alloc_new _ _
      have hla : w1.heap.size < (w1.alloc (.cells #[.bool an, .int .i64 vl, .int .i64 vh, .int .i64 nl, .int .i64 nh, .int .i64 tx, .int .i64 tk] 66)).heap.size := by simp
      have hBa := hB1.trans (hba.mono hB1.size)
      clear hb1 hb0 p0 he0 hK hN
      go_wp2_with fail
      refine (hV _).mono ?_
      rintro e w2 ⟨rfl, hb2⟩
      have p2 := (hb2.block w.heap.size (Nat.lt_trans hl1 hla)).trans ((hba.block w.heap.size hl1).trans p1)
      have q2 := (hb2.block w1.heap.size hla).trans HQ.out
      have z3 := cellB p2 3 _ rfl
      have z4 := cellB p2 4 _ rfl
      have z5 := cellB p2 5 _ rfl
      have r3 := cellB q2 3 _ rfl
      have r4 := cellB q2 4 _ rfl
      have r5 := cellB q2 5 _ rfl
      have hl2 : w.heap.size < w2.heap.size := (Array.getElem?_eq_some_iff.1 p2).1
      have hl3 : w1.heap.size < w2.heap.size := (Array.getElem?_eq_some_iff.1 q2).1
      have hB2 := hBa.trans (hb2.mono hBa.size)
      clear hV hb2 hba HQ hla x0 x1 x2 x3 x4 s0 s1 s2 s3 s4 s5 s6 p1 hl1 hBa hB1
      go_wp2
      go_ret
      exact ⟨by rw [HE.out]; rfl, hB2⟩
end Go.Proofs.YtmkjcfakopbdhaaGreatDoor
