/- The law BatchBounds, walked. -/
import Derived.Test.YtbibfhhnnjojnaaBtL
import Derived.Test.YtbibfhhnnjojnaaBtU
namespace Go.Proofs.Ytbibfhhnnjojnaa
open Go.RowKit
attribute [local go_sem ↓] Go.wp_at_zero Go.wp_at_succ

/-- A pool that is what a pool always is, above all that was there. -/
structure Kp (w : World) (B : Nat) (v : Value) (l : List Rq) (D : Nat → Int) (wr : World) : Prop where
  pool : PoolAt w.heap.size wr B v l D
  inv : Inv l D
  bel : Below w.heap.size w wr
theorem Kp.next {w wr wr' : World} {B : Nat} {v : Value} {l : List Rq} {D : Nat → Int} (h : Kp w B v l D wr) (hb : Below wr.heap.size wr wr') : Kp w B v l D wr' := ⟨h.pool.next hb, h.inv, h.bel.trans (hb.mono h.bel.size)⟩
theorem Kp.moved {w wr wr' : World} {B : Nat} {v v' : Value} {l l' : List Rq} {D D' : Nat → Int} (h : Kp w B v l D wr) (hm : Moved B v v' wr wr') (hp : PoolAt w.heap.size wr' B v' l' D') (hi : Inv l' D') : Kp w B v' l' D' wr' := ⟨hp, hi, h.bel.trans (h.pool.bel hm (Nat.le_refl _))⟩
theorem Kp.len {w wr : World} {B : Nat} {v : Value} {l : List Rq} {D : Nat → Int} (h : Kp w B v l D wr) : l.length ≤ 1000 := Nat.le_trans h.inv.len (by decide)
theorem sumT_append (a b : List Rq) : sumT (a ++ b) = sumT a + sumT b := by simp [sumT]
set_option maxRecDepth 20000 in
set_option maxHeartbeats 8000000 in
theorem bounds_any (l0 : List Rq) (v0 : Value) (w : World) (hl0 : Rql w v0 l0) : Calls Try.prog 6 #[v0] w fun e W' => e = .returned (.bool true) ∧ Below w.heap.size w W' := by
  obtain ⟨a0, c0, rfl⟩ := hl0.slice
  have hN := New_any w w.heap.size (Nat.le_refl _)
  by_cases hbig : 200 < l0.length
  · have hb2 : (200 : Int) < (l0.length : Int) := by omega
    go_enter Try.func6, Try.ntmps6
    go_wp2_with (first
      | (go_at_call 7; refine hN.mono ?_; rintro e w1 ⟨rfl, h0, hB0⟩)
      | (go_at_call 8; refine (one_any _).mono ?_; rintro e w2 ⟨rfl, hb2⟩))
    go_ret
    exact ⟨rfl, hB0.trans (hb2.mono hB0.size)⟩
  · have hb2 : (l0.length : Int) ≤ 200 := by omega
    go_enter Try.func6, Try.ntmps6
    go_upto_region 4 with (first
      | (go_at_call 7; refine hN.mono ?_; rintro e w1 ⟨rfl, h0, hB0⟩))
    have hK0 : Kp w w.heap.size (.slice none 0 0) [] (fun _ => 0) w1 := ⟨h0, Inv.new, hB0⟩
    obtain ⟨B, hB⟩ : ∃ B, w.heap.size = B := ⟨_, rfl⟩
    rw [hB] at hK0
    rw [show (⟨w.heap.size, 0, none⟩ : Addr) = ⟨B, 0, none⟩ by rw [hB]]
    clear hN h0 hB0 hB
    go_wp2_with fail
    go_loopg [25] l0.length (fun gk i wr => ∃ (k : Nat) (v : Value) (l : List Rq), k + gk = l0.length ∧ i = .int .i64 k ∧ Kp w B v l (fun _ => 0) wr)
    case atStart => exact ⟨0, _, _, by omega, rfl, hK0⟩
    case round =>
      clear hK0
      obtain ⟨k, v, l, hk, rfl, hK⟩ := hrel
      by_cases hlt : k < l0.length
      · obtain ⟨⟨c, n, t⟩, ha⟩ : ∃ a, l0[k]? = some a := ⟨_, List.getElem?_eq_getElem hlt⟩
        obtain ⟨ab, ao, rfl, hab, x0, x1, x2⟩ := (hl0.below hK.bel (Nat.le_refl _)).at ha
        simp only at x0 x1 x2
        have m0 : (0 : Int) ≤ (k : Int) := by omega
        have m1 : (k : Int) < (l0.length : Int) := by omega
        have hba : Below wr.heap.size wr (wr.alloc (.cells #[.int .i64 c, .int .i64 n, .string (bs t)] 31)) := (Below.refl _ _).alloc (Nat.le_refl _) _
        have rN := heap_alloc_new wr (.cells #[.int .i64 c, .int .i64 n, .string (bs t)] 31)
        have hK1 := hK.next hba
        have HX : Hid (_ ∧ _) := ⟨rN, hK1⟩
        clear ha rN hK1 hba
        go_upto_region 7 with fail
        obtain ⟨rN, hK1⟩ := HX.out
        clear HX hK
        obtain ⟨W1, hW1⟩ : ∃ W, wr.alloc (.cells #[.int .i64 c, .int .i64 n, .string (bs t)] 31) = W := ⟨_, rfl⟩
        rw [hW1] at rN hK1 ⊢
        have z0 := cellB rN 0 (.int .i64 c) rfl
        have z1 := cellB rN 1 (.int .i64 n) rfl
        have z2 := cellB rN 2 (.string (bs t)) rfl
        obtain ⟨⟨b1, e1, l1⟩, hR⟩ : ∃ r, addR c n t l (fun _ => 0) = r := ⟨_, rfl⟩
        have hA := Add_any hK1.pool hK1.len c n t b1 e1 l1 hR
        have HI : Hid (Inv l1 (fun _ => 0)) := hK1.inv.add hR
        have HK1 : Hid (_) := hK1
        clear hW1 rN x0 x1 x2 hR hK1
        go_upto_region 8 with (first
          | (go_at_call 9; refine hA.mono ?_; rintro e w2 ⟨rfl, v2, h2, hm2⟩))
        have hK2 := HK1.out.moved hm2 h2 HI.out
        have hT := Take_any hK2.pool hK2.len hK2.inv.txt
        have ht1 := take_len 4 0 l1
        have ht2 := take_sum 4 0 l1 (by omega)
        have ht3 := take_none hK2.inv.txt
        obtain ⟨T, hTe⟩ : ∃ T, takeGo 4 0 l1 = T := ⟨_, rfl⟩
        rw [hTe] at hT ht1 ht2 ht3
        rw [Nat.zero_add] at ht2
        have hl1 := hK2.inv.len
        have HZ : Hid ((T.length = 0) ↔ (l1.length = 0)) := ht3
        clear hA HK1 HI h2 hm2 z0 z1 z2 hTe ht3
        go_upto_region 9 with (first
          | (go_at_call 18; refine hT.mono ?_; rintro e w3 ⟨⟨u, rfl, ho⟩, hb3⟩))
        obtain ⟨ua, uc, rfl⟩ := owns_slice ho
        have hK3 := hK2.next hb3
        clear hT hK2 hb3
        go_wp2_with fail
        go_loopg [7, 36] T.length (fun gj s j wq => ∃ q : Nat, q + gj = T.length ∧ j = .int .i64 q ∧ s = .int .i64 (sumT (T.take q)) ∧ Below w3.heap.size w3 wq)
        case atStart => exact ⟨0, by omega, rfl, rfl, Below.refl _ _⟩
        case round =>
          obtain ⟨q, hq, rfl, rfl, hBq⟩ := hrel
          by_cases hqt : q < T.length
          · obtain ⟨⟨c5, n5, t5⟩, hx⟩ : ∃ a, T[q]? = some a := ⟨_, List.getElem?_eq_getElem hqt⟩
            obtain ⟨gb, gc, hgv, hg1, hg2, y0, y1, y2⟩ := row_at (owns_next ho hBq) hx
            injection hgv with f1 _ f2
            subst f1 f2
            simp only at y0 y1 y2
            have q0 : (0 : Int) ≤ (q : Int) := by omega
            have q1 : (q : Int) < (T.length : Int) := by omega
            have hsz : (bs t5).size = t5.length := bs_size t5
            have HS : Hid (sumT (T.take (q + 1)) = sumT (T.take q) + t5.length) := by show _ = _; rw [take_snoc hx, sumT_snoc]
            have hle : sumT (T.take q) + t5.length ≤ 9000 := by
              rw [← HS.out]
              have : sumT (T.take (q + 1)) ≤ sumT T := by
                have e := sumT_append (T.take (q + 1)) (T.drop (q + 1))
                rw [List.take_append_drop] at e
                omega
              omega
            obtain ⟨S, hS⟩ : ∃ S, sumT (T.take q) = S := ⟨_, rfl⟩
            rw [hS] at HS hle ⊢
            have hle2 : (S : Int) + (t5.length : Int) ≤ 9000 := by omega
            have hBa := hBq.alloc hBq.size (.cells #[.int .i64 c5, .int .i64 n5, .string (bs t5)] 31)
            have HBa : Hid (_) := hBa
            clear hx hS hg1 hBa
            go_wp2
            go_roundg (T.length - (q + 1))
            case measure => omega
            case rel => exact ⟨q + 1, by omega, by go_num, by rw [HS.out]; go_num, HBa.out⟩
          · have hqT : q = T.length := by omega
            subst hqT
            rw [List.take_length]
            have hK4 := hK3.next hBq
            have hLn := Len_any hK4.pool
            have s9 : (sumT T : Int) ≤ 9000 := by omega
            have t4 : (T.length : Int) ≤ 4 := by omega
            have l24 : (l1.length : Int) ≤ 24 := by omega
            obtain ⟨S, hS⟩ : ∃ S, sumT T = S := ⟨_, rfl⟩
            rw [hS] at s9 ⊢
            have HK4 : Hid (_) := hK4
            clear hS hK4 hK3 hqt ho
            have hcs : (T.length = 0 ∧ l1.length = 0) ∨ ((((T.length : Nat) : Int) == 0) = false ∧ (((l1.length : Nat) : Int) == 0) = false) := by
              have hz := HZ.out
              by_cases e : T.length = 0
              · left; exact ⟨e, hz.1 e⟩
              · right
                have e2 : l1.length ≠ 0 := fun h => e (hz.2 h)
                constructor
                · simpa using e
                · simpa using e2
            rcases hcs with ⟨e1, e2⟩ | ⟨e1, e2⟩
            all_goals
              first
              | (rw [e2] at hLn l24; rw [e1] at t4 ⊢)
              | skip
              go_wp2_with (first
                | (go_at_call 16; refine hLn.mono ?_; rintro e w5 ⟨rfl, h9⟩; subst h9))
              go_roundg (l0.length - (k + 1))
              case measure => omega
              case rel => exact ⟨k + 1, v2, l1, by omega, by go_num, HK4.out⟩
      · have hkl : k = l0.length := by omega
        subst hkl
        go_wp2_with (first
          | (go_at_call 8; refine (one_any _).mono ?_; rintro e w2 ⟨rfl, hb2⟩))
        go_ret
        exact ⟨rfl, hK.bel.trans (hb2.mono hK.bel.size)⟩
end Go.Proofs.Ytbibfhhnnjojnaa
