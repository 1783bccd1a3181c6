/- The law BatchOnce, walked. -/
import Derived.Test.YtbibfhhnnjojnaaBtN
namespace Go.Proofs.Ytbibfhhnnjojnaa
open Go.RowKit
attribute [local go_sem ↓] Go.wp_at_zero Go.wp_at_succ

theorem take_memR {l : List Rq} {k : Nat} {n : Rq} (h : l[k]? = some n) (e : Rq) : decide (e ∈ l.take (k + 1)) = (decide (e ∈ l.take k) || decide (n = e)) := by
  rw [take_snoc h]
  by_cases h1 : e ∈ l.take k <;> by_cases h2 : n = e <;> simp [h1, h2, List.mem_append]
  intro h3; exact h2 h3.symm
set_option maxRecDepth 20000 in
set_option maxHeartbeats 8000000 in
theorem once_any (l0 : List Stp) (v0 : Value) (w : World) (hl0 : Stl w v0 l0) : Calls Try.prog 4 #[v0] w fun e W' => e = .returned (.bool true) ∧ Below w.heap.size w W' := by
  obtain ⟨a0, c0, rfl⟩ := hl0.slice
  have hN := New_any w w.heap.size (Nat.le_refl _)
  by_cases hbig : 200 < l0.length
  · have hb2 : (200 : Int) < (l0.length : Int) := by omega
    go_enter Try.func4, Try.ntmps4
    go_wp2_with (first
      | (go_at_call 7; refine hN.mono ?_; rintro e w1 ⟨rfl, h0, hB0⟩)
      | (go_at_call 8; refine (one_any _).mono ?_; rintro e w2 ⟨rfl, hb2⟩))
    go_ret
    exact ⟨rfl, hB0.trans (hb2.mono hB0.size)⟩
  · have hb2 : (l0.length : Int) ≤ 200 := by omega
    obtain ⟨i9, hi9, hz0, hz1, hz2⟩ := info_parts Try.info31
    go_enter Try.func4, Try.ntmps4
    go_upto_region 4 with (first
      | (go_at_call 7; refine hN.mono ?_; rintro e w1 ⟨rfl, h0, hB0⟩))
    have hK0 : Kp w w.heap.size (.slice none 0 0) [] (fun _ => 0) w1 := ⟨h0, Inv.new, hB0⟩
    obtain ⟨B, hB⟩ : ∃ B, w.heap.size = B := ⟨_, rfl⟩
    rw [hB] at hK0
    rw [show (⟨w.heap.size, 0, none⟩ : Addr) = ⟨B, 0, none⟩ by rw [hB]]
    have hO0 : Oc w B (.slice none 0 0) [] (fun _ => 0) (.slice none 0 0) [] (.slice none 0 0) [] w1 := ⟨hK0, Side.nil, Side.nil, fun k h => (by cases h)⟩
    clear hN h0 hB0 hB hK0
    go_wp2_with fail
    go_loopg [4, 5, 37] l0.length (fun gk va vd i wr => ∃ (k : Nat) (v : Value) (l : List Rq) (D : Nat → Int) (A F : List Rq), k + gk = l0.length ∧ i = .int .i64 k ∧ Oc w B v l D va A vd F wr ∧ Hid (Pl l D A F ∧ A.length ≤ k ∧ F.length ≤ k))
    case atStart => exact ⟨0, _, _, _, [], [], by omega, rfl, hO0, ⟨Pl.new, by decide, by decide⟩⟩
    case round =>
      clear hO0
      obtain ⟨k, v, l, D, A, F, hk, rfl, hO, HP⟩ := hrel
      by_cases hlt : k < l0.length
      · obtain ⟨⟨wh, c, n, t⟩, ha⟩ : ∃ a, l0[k]? = some a := ⟨_, List.getElem?_eq_getElem hlt⟩
        obtain ⟨ab, ao, rfl, hab, x0, x1, x2, x3⟩ := (hl0.below hO.kp.bel (Nat.le_refl _)).at ha
        simp only at x0 x1 x2 x3
        have m0 : (0 : Int) ≤ (k : Int) := by omega
        have m1 : (k : Int) < (l0.length : Int) := by omega
        have hba : Below wr.heap.size wr (wr.alloc (.cells #[.int .i64 wh, .int .i64 c, .int .i64 n, .string (bs t)] 33)) := (Below.refl _ _).alloc (Nat.le_refl _) _
        have rN := heap_alloc_new wr (.cells #[.int .i64 wh, .int .i64 c, .int .i64 n, .string (bs t)] 33)
        have hO1 := hO.next hba
        have hXB : wr.heap.size ≠ B := fun e => by have := hO.kp.pool.lt; omega
        have hXv : v.ownBlock ≠ some wr.heap.size := fun e => by have := (hO.kp.pool.own.lt _ e).2; omega
        have hXa : u4.ownBlock ≠ some wr.heap.size := fun e => by have := (hO.ad.own.lt _ e).2; omega
        have hXd : u5.ownBlock ≠ some wr.heap.size := fun e => by have := (hO.dn.own.lt _ e).2; omega
        obtain ⟨aa, ac, rfl⟩ := owns_slice hO.ad.own
        obtain ⟨da, dc, rfl⟩ := owns_slice hO.dn.own
        have HX : Hid (_ ∧ _ ∧ _ ∧ _ ∧ _ ∧ _) := ⟨rN, hO1, hXB, hXv, hXa, hXd⟩
        clear ha rN hO1 hba hXB hXv hXa hXd
        go_upto_region 9 with fail
        obtain ⟨rN, hO1, hXB, hXv, hXa, hXd⟩ := HX.out
        clear HX hO
        obtain ⟨W1, hW1⟩ : ∃ W, wr.alloc (.cells #[.int .i64 wh, .int .i64 c, .int .i64 n, .string (bs t)] 33) = W := ⟨_, rfl⟩
        obtain ⟨X, hX⟩ : ∃ X, wr.heap.size = X := ⟨_, rfl⟩
        rw [hW1] at rN hO1 ⊢
        rw [hX] at rN hXB hXv hXa hXd ⊢
        have z0 := cellB rN 0 (.int .i64 wh) rfl
        have z1 := cellB rN 1 (.int .i64 c) rfl
        have z2 := cellB rN 2 (.int .i64 n) rfl
        have z3 := cellB rN 3 (.string (bs t)) rfl
        have hXl : X < W1.heap.size := (Array.getElem?_eq_some_iff.1 rN).1
        clear hW1 hX x0 x1 x2 x3
        go_upto_if 43 with fail
        go_cut [4, 5] (fun va vd wx => ∃ (v2 : Value) (l2 : List Rq) (D2 : Nat → Int) (A2 F2 : List Rq), Oc w B v2 l2 D2 va A2 vd F2 wx ∧ Hid (Pl l2 D2 A2 F2 ∧ A2.length ≤ k + 1 ∧ F2.length ≤ k + 1))
        case first =>
          by_cases hw2 : wh = 2
          · subst hw2
            obtain ⟨⟨b1, e1, l1, D1⟩, hR⟩ : ∃ r, doneR c n l D = r := ⟨_, rfl⟩
            have hA := Done_all hO1.kp.pool hO1.kp.len c n b1 e1 l1 D1 hR
            have HI : Hid (Inv l1 D1) := hO1.kp.inv.done hR
            have HO1 : Hid (_) := hO1
            have hcs := done_cases hR
            clear hR hO1
            rcases hcs with ⟨rfl, hok, hl1, hD1⟩ | ⟨rfl, hl1, hD1⟩
            · have HP2 : Hid (Pl l1 D1 A (F ++ [(c, n, t)])) := by show Pl _ _ _ _; rw [hl1, hD1]; exact HP.out.1.done hok t
              clear hok hl1 hD1
              have hFl := HP.out.2.2
              have hml : F.length + 1 ≤ maxLen := by unfold maxLen; omega
              have hkb : (F.length + 1) * 32 ≤ 140737488355328 := by omega
              go_upto_region 12 with (first
                | (go_at_call 12; refine hA.mono ?_; rintro e w2 ⟨rfl, v2, h2, hm2⟩))
              have hO2 := HO1.out.moved hm2 h2 HI.out
              have r2 := hm2.far hXl hXB hXv rN
              have y1 := cellB r2 1 (.int .i64 c) rfl
              have y2 := cellB r2 2 (.int .i64 n) rfl
              have y3 := cellB r2 3 (.string (bs t)) rfl
              have hba2 : Below w2.heap.size w2 (w2.alloc (.cells #[.int .i64 c, .int .i64 n, .string (bs t)] 31)) := (Below.refl _ _).alloc (Nat.le_refl _) _
              have hO3 := hO2.next hba2
              have hwl : w.heap.size ≤ (w2.alloc (.cells #[.int .i64 c, .int .i64 n, .string (bs t)] 31)).heap.size := hO3.kp.bel.size
              have HO3 : Hid (_) := hO3
              have hown := hO3.dn.own
              obtain ⟨R, hRr⟩ : ∃ R, rcs F = R := ⟨_, rfl⟩
              have HRr : Hid (rcs F = R) := hRr
              rw [hRr] at hown
              clear hRr hA HO1 HI h2 hm2 r2 hO2 hO3 z0 z1 z2 z3 rN hba2
              go_wp2_with (first
                | (at_builtin; refine wpList_append_lies _ rfl _ _ 45 rfl w.heap.size 31 i9 (.agg #[.int .i64 0, .int .i64 0, .string ⟨#[]⟩]) 3 32 Try.underlying45 hi9 hz0 hz1 hz2 rfl (by decide) (.slice da F.length dc) F.length R rfl hown ⟨w2.heap.size, 0, none⟩ 1 1 [.int .i64 c, .int .i64 n, .string (bs t)] rfl rfl (World.news_of_block (heap_alloc_new _ _)) (by simp [Value.oneCell']) (by decide) hml hkb hwl _ rfl ?_; intro ga ca w6 hown7 hgrow hat hlt6))
              go_meet
              case rel => exact ⟨_, _, _, _, _, HO3.out.done (a := (c, n, t)) hgrow (by rw [HRr.out]; exact hown7) hat, ⟨HP2.out, by have := HP.out.2.1; omega, by rw [List.length_append]; have := HP.out.2.2; simp; omega⟩⟩
            · subst hl1 hD1
              go_wp2_with (first
                | (go_at_call 12; refine hA.mono ?_; rintro e w2 ⟨rfl, v2, h2, hm2⟩))
              go_meet
              case rel => exact ⟨_, _, _, _, _, HO1.out.moved hm2 h2 HI.out, ⟨HP.out.1, by have := HP.out.2.1; omega, by have := HP.out.2.2; omega⟩⟩
          · have hw3 : (wh == 2) = false := by simp [hw2]
            obtain ⟨⟨b1, e1, l1⟩, hR⟩ : ∃ r, addR c n t l D = r := ⟨_, rfl⟩
            have hA := Add_any hO1.kp.pool hO1.kp.len c n t b1 e1 l1 hR
            have HI : Hid (Inv l1 D) := hO1.kp.inv.add hR
            have HO1 : Hid (_) := hO1
            have hcs := add_cases hR
            clear hR hO1 hw2
            rcases hcs with ⟨rfl, rfl, hl1⟩ | ⟨rfl, hl1⟩
            · have HP2 : Hid (Pl l1 D (A ++ [(c, n, t)]) F) := by show Pl _ _ _ _; rw [hl1]; exact HP.out.1.add c n t
              clear hl1
              have hAl := HP.out.2.1
              have hml : A.length + 1 ≤ maxLen := by unfold maxLen; omega
              have hkb : (A.length + 1) * 32 ≤ 140737488355328 := by omega
              go_upto_region 15 with (first
                | (go_at_call 9; refine hA.mono ?_; rintro e w2 ⟨rfl, v2, h2, hm2⟩))
              have hO2 := HO1.out.moved hm2 h2 HI.out
              have r2 := hm2.far hXl hXB hXv rN
              have y1 := cellB r2 1 (.int .i64 c) rfl
              have y2 := cellB r2 2 (.int .i64 n) rfl
              have y3 := cellB r2 3 (.string (bs t)) rfl
              have hba2 : Below w2.heap.size w2 (w2.alloc (.cells #[.int .i64 c, .int .i64 n, .string (bs t)] 31)) := (Below.refl _ _).alloc (Nat.le_refl _) _
              have hO3 := hO2.next hba2
              have hwl : w.heap.size ≤ (w2.alloc (.cells #[.int .i64 c, .int .i64 n, .string (bs t)] 31)).heap.size := hO3.kp.bel.size
              have HO3 : Hid (_) := hO3
              have hown := hO3.ad.own
              obtain ⟨R, hRr⟩ : ∃ R, rcs A = R := ⟨_, rfl⟩
              have HRr : Hid (rcs A = R) := hRr
              rw [hRr] at hown
              clear hRr hA HO1 HI h2 hm2 r2 hO2 hO3 z0 z1 z2 z3 rN hba2
              go_wp2_with (first
                | (at_builtin; refine wpList_append_lies _ rfl _ _ 45 rfl w.heap.size 31 i9 (.agg #[.int .i64 0, .int .i64 0, .string ⟨#[]⟩]) 3 32 Try.underlying45 hi9 hz0 hz1 hz2 rfl (by decide) (.slice aa A.length ac) A.length R rfl hown ⟨w2.heap.size, 0, none⟩ 1 1 [.int .i64 c, .int .i64 n, .string (bs t)] rfl rfl (World.news_of_block (heap_alloc_new _ _)) (by simp [Value.oneCell']) (by decide) hml hkb hwl _ rfl ?_; intro ga ca w6 hown7 hgrow hat hlt6))
              go_meet
              case rel => exact ⟨_, _, _, _, _, HO3.out.added (a := (c, n, t)) hgrow (by rw [HRr.out]; exact hown7) hat, ⟨HP2.out, by rw [List.length_append]; have := HP.out.2.1; simp; omega, by have := HP.out.2.2; omega⟩⟩
            · subst hl1
              by_cases he1 : e1 = 0
              · subst he1
                go_wp2_with (first
                  | (go_at_call 9; refine hA.mono ?_; rintro e w2 ⟨rfl, v2, h2, hm2⟩))
                go_meet
                case rel => exact ⟨_, _, _, _, _, HO1.out.moved hm2 h2 HI.out, ⟨HP.out.1, by have := HP.out.2.1; omega, by have := HP.out.2.2; omega⟩⟩
              · have hq1 : (e1 == 0) = false := by simp [he1]
                clear he1
                go_wp2_with (first
                  | (go_at_call 9; refine hA.mono ?_; rintro e w2 ⟨rfl, v2, h2, hm2⟩))
                go_meet
                case rel => exact ⟨_, _, _, _, _, HO1.out.moved hm2 h2 HI.out, ⟨HP.out.1, by have := HP.out.2.1; omega, by have := HP.out.2.2; omega⟩⟩
        case rest =>
          rename World => W9
          clear hO1 rN z0 z1 z2 z3 HP hXB hXv hXa hXd hXl
          obtain ⟨v2, l2, D2, A2, F2, hO2, HP2⟩ := hcut
          obtain ⟨aa2, ac2, rfl⟩ := owns_slice hO2.ad.own
          obtain ⟨da2, dc2, rfl⟩ := owns_slice hO2.dn.own
          have hT := Take_any hO2.kp.pool hO2.kp.len hO2.kp.inv.txt
          have ht1 := take_len 4 0 l2
          have ht3 := take_none hO2.kp.inv.txt
          have htp := take_pre 4 0 l2
          obtain ⟨T, hTe⟩ : ∃ T, takeGo 4 0 l2 = T := ⟨_, rfl⟩
          rw [hTe] at hT ht1 ht3 htp
          have hl24 := hO2.kp.inv.len
          have HT : Hid (((T.length = 0) ↔ (l2.length = 0)) ∧ T <+: l2) := ⟨ht3, htp⟩
          have hA9 := HP2.out.2.1
          have hF9 := HP2.out.2.2
          clear hTe ht3 htp
          go_upto_region 17 with (first
            | (go_at_call 18; refine hT.mono ?_; rintro e w3 ⟨⟨u, rfl, ho⟩, hb3⟩))
          obtain ⟨ua, uc, rfl⟩ := owns_slice ho
          have hO3 := hO2.next hb3
          have hLn := Len_any hO3.kp.pool
          have t4 : (T.length : Int) ≤ 4 := by omega
          have l24 : (l2.length : Int) ≤ 24 := by omega
          have hcs : (T.length = 0 ∧ l2.length = 0) ∨ ((((T.length : Nat) : Int) == 0) = false) := by
            have hz := HT.out.1
            by_cases e : T.length = 0
            · left; exact ⟨e, hz.1 e⟩
            · right; simpa using e
          clear hT hO2 hb3
          rcases hcs with ⟨e1, e2⟩ | e1
          · rw [e2] at hLn l24
            rw [e1] at t4 ⊢
            go_wp2_with (first
              | (go_at_call 16; refine hLn.mono ?_; rintro e w5 ⟨rfl, h9⟩; replace h9 := h9.symm; subst h9))
            go_loopg [101] 0 (fun gj j wq => j = .int .i64 0 ∧ wq = w3)
            case atStart => exact ⟨rfl, rfl⟩
            case round =>
              obtain ⟨rfl, rfl⟩ := hrel
              go_wp2
              go_roundg (l0.length - (k + 1))
              case measure => omega
              case rel => exact ⟨k + 1, v2, l2, D2, A2, F2, by omega, by go_num, hO3, HP2⟩
          · go_wp2_with (first
              | (go_at_call 16; refine hLn.mono ?_; rintro e w5 ⟨rfl, h9⟩; replace h9 := h9.symm; subst h9))
            go_loopg [101] T.length (fun gj j wq => ∃ q : Nat, q + gj = T.length ∧ j = .int .i64 q ∧ Below w3.heap.size w3 wq)
            case atStart => exact ⟨0, by omega, rfl, Below.refl _ _⟩
            case round =>
              rename World => wq
              obtain ⟨q, hq, rfl, hBq⟩ := hrel
              by_cases hqt : q < T.length
              · obtain ⟨⟨c5, n5, t5⟩, hx⟩ : ∃ a, T[q]? = some a := ⟨_, List.getElem?_eq_getElem hqt⟩
                obtain ⟨gb, gc, hgv, hg1, hg2, y0, y1, y2⟩ := row_at (owns_next ho hBq) hx
                injection hgv with f1 _ f2
                subst f1 f2
                simp only at y0 y1 y2
                have q0 : (0 : Int) ≤ (q : Int) := by omega
                have q1 : (q : Int) < (T.length : Int) := by omega
                have q4 : (q : Int) ≤ 4 := by omega
                have HIn : Hid (((c5, n5, t5) : Rq) ∈ A2) := taken_in HP2.out.1 HT.out.2 (List.mem_of_getElem? hx)
                have HNew : Hid (∀ d ∈ F2, (d.1 == c5) = false ∨ ((d.1 == c5) = true ∧ d.2.1 < n5)) := fun d hd => taken_new hO3.kp.inv HP2.out.1 HT.out.2 (List.mem_of_getElem? hx) hd
                have HOne : Hid (∀ (j : Nat) (x : Rq), T[j]? = some x → j < q → (x.1 == c5) = false) := fun j x hxj hji => taken_one hO3.kp.inv HT.out.2 hx hxj hji
                have hBa := hBq.alloc hBq.size (.cells #[.int .i64 c5, .int .i64 n5, .string (bs t5)] 31)
                have rR := heap_alloc_new wq (.cells #[.int .i64 c5, .int .i64 n5, .string (bs t5)] 31)
                have HBa : Hid (_ ∧ _) := ⟨hBa, rR⟩
                clear hx hg1 hBa rR
                go_upto_region 22 with fail
                obtain ⟨hBa, rR⟩ := HBa.out
                obtain ⟨WR, hWR⟩ : ∃ W, wq.alloc (.cells #[.int .i64 c5, .int .i64 n5, .string (bs t5)] 31) = W := ⟨_, rfl⟩
                obtain ⟨XR, hXR⟩ : ∃ X, wq.heap.size = X := ⟨_, rfl⟩
                rw [hWR] at hBa rR ⊢
                rw [hXR] at rR ⊢
                clear hWR hXR HBa y0 y1 y2
                go_wp2_with fail
                -- what was added
                go_loopg [15, 108] A2.length (fun gj b j wj => ∃ p : Nat, p + gj = A2.length ∧ j = .int .i64 p ∧ b = .bool (decide (((c5, n5, t5) : Rq) ∈ A2.take p)) ∧ Below WR.heap.size WR wj)
                case atStart => exact ⟨0, by omega, rfl, by simp, Below.refl _ _⟩
                case round =>
                  rename World => wj
                  obtain ⟨p, hp, rfl, rfl, hBp⟩ := hrel
                  have hBW := hBa.trans (hBp.mono hBa.size)
                  have rR1 := (hBp.block XR (Array.getElem?_eq_some_iff.1 rR).1).trans rR
                  by_cases hpt : p < A2.length
                  · obtain ⟨⟨c6, n6, t6⟩, hx6⟩ : ∃ a, A2[p]? = some a := ⟨_, List.getElem?_eq_getElem hpt⟩
                    obtain ⟨gb6, gc6, hgv6, hg16, hg26, y0, y1, y2⟩ := row_at (owns_next hO3.ad.own hBW) hx6
                    injection hgv6 with f1 _ f2
                    subst f1 f2
                    simp only at y0 y1 y2
                    have p0 : (0 : Int) ≤ (p : Int) := by omega
                    have p1 : (p : Int) < (A2.length : Int) := by omega
                    have p2 : (p : Int) ≤ 1000 := by omega
                    have HM : Hid (decide (((c5, n5, t5) : Rq) ∈ A2.take (p + 1)) = (decide (((c5, n5, t5) : Rq) ∈ A2.take p) || decide (((c6, n6, t6) : Rq) = (c5, n5, t5)))) := take_memR hx6 _
                    obtain ⟨I, hI⟩ : ∃ I, decide (((c5, n5, t5) : Rq) ∈ A2.take p) = I := ⟨_, rfl⟩
                    rw [hI] at HM ⊢
                    have hBp2 := hBp.alloc hBp.size (.cells #[.int .i64 c6, .int .i64 n6, .string (bs t6)] 31)
                    have rA := heap_alloc_new wj (.cells #[.int .i64 c6, .int .i64 n6, .string (bs t6)] 31)
                    have rR2 := (Below.heap_alloc wj (.cells #[.int .i64 c6, .int .i64 n6, .string (bs t6)] 31) XR (Array.getElem?_eq_some_iff.1 rR1).1).trans rR1
                    have HB6 : Hid (_ ∧ _ ∧ _) := ⟨hBp2, rA, rR2⟩
                    clear hx6 hI hg16 hBp2 rA rR2
                    go_upto_region 26 with fail
                    obtain ⟨hBp2, rA, rR2⟩ := HB6.out
                    obtain ⟨WA, hWA⟩ : ∃ W, wj.alloc (.cells #[.int .i64 c6, .int .i64 n6, .string (bs t6)] 31) = W := ⟨_, rfl⟩
                    obtain ⟨XA, hXA⟩ : ∃ X, wj.heap.size = X := ⟨_, rfl⟩
                    rw [hWA] at hBp2 rA rR2 ⊢
                    rw [hXA] at rA ⊢
                    have a0 := cellB rA 0 (.int .i64 c6) rfl
                    have a1 := cellB rA 1 (.int .i64 n6) rfl
                    have a2 := cellB rA 2 (.string (bs t6)) rfl
                    have r0 := cellB rR2 0 (.int .i64 c5) rfl
                    have r1 := cellB rR2 1 (.int .i64 n5) rfl
                    have r2 := cellB rR2 2 (.string (bs t5)) rfl
                    have HBp2 : Hid (_) := hBp2
                    clear hWA hXA HB6 y0 y1 y2 rA rR2 hBp2 hBW rR1
                    cases I
                    · by_cases g1 : c6 = c5
                      · by_cases g2 : n6 = n5
                        · by_cases g3 : t6 = t5
                          · subst g1 g2 g3
                            have HM2 : Hid (decide (((c6, n6, t6) : Rq) ∈ A2.take (p + 1)) = true) := by show _ = _; rw [HM.out]; simp
                            go_wp2
                            go_roundg (A2.length - (p + 1))
                            case measure => omega
                            case rel => exact ⟨p + 1, by omega, by go_num, by rw [HM2.out], HBp2.out⟩
                          · have HM2 : Hid (decide (((c5, n5, t5) : Rq) ∈ A2.take (p + 1)) = false) := by show _ = _; rw [HM.out]; simp [g3]
                            have hs3 : ((bs t6).toList == (bs t5).toList) = false := str_ne (fun e => g3 (bs_inj e))
                            subst g1 g2
                            clear g3
                            go_wp2
                            go_roundg (A2.length - (p + 1))
                            case measure => omega
                            case rel => exact ⟨p + 1, by omega, by go_num, by rw [HM2.out], HBp2.out⟩
                        · have HM2 : Hid (decide (((c5, n5, t5) : Rq) ∈ A2.take (p + 1)) = false) := by show _ = _; rw [HM.out]; simp [g2]
                          have hs2 : (n6 == n5) = false := by simp [g2]
                          subst g1
                          clear g2
                          go_wp2
                          go_roundg (A2.length - (p + 1))
                          case measure => omega
                          case rel => exact ⟨p + 1, by omega, by go_num, by rw [HM2.out], HBp2.out⟩
                      · have HM2 : Hid (decide (((c5, n5, t5) : Rq) ∈ A2.take (p + 1)) = false) := by show _ = _; rw [HM.out]; simp [g1]
                        have hs1 : (c6 == c5) = false := by simp [g1]
                        clear g1
                        go_wp2
                        go_roundg (A2.length - (p + 1))
                        case measure => omega
                        case rel => exact ⟨p + 1, by omega, by go_num, by rw [HM2.out], HBp2.out⟩
                    · have HM2 : Hid (decide (((c5, n5, t5) : Rq) ∈ A2.take (p + 1)) = true) := by show _ = _; rw [HM.out]; simp
                      go_wp2
                      go_roundg (A2.length - (p + 1))
                      case measure => omega
                      case rel => exact ⟨p + 1, by omega, by go_num, by rw [HM2.out], HBp2.out⟩
                  · have hpA : p = A2.length := by omega
                    subst hpA
                    rw [show decide (((c5, n5, t5) : Rq) ∈ A2.take A2.length) = true by rw [List.take_length]; simpa using HIn.out]
                    have rR3 := rR1
                    clear hpt rR1 rR
                    go_wp2_with fail
                    -- what is done
                    go_loopg [121] F2.length (fun gj j wj2 => ∃ p : Nat, p + gj = F2.length ∧ j = .int .i64 p ∧ Below wj.heap.size wj wj2)
                    case atStart => exact ⟨0, by omega, rfl, Below.refl _ _⟩
                    case round =>
                      rename World => wj2
                      obtain ⟨p, hp, rfl, hBp3⟩ := hrel
                      have hBW3 := hBW.trans (hBp3.mono hBW.size)
                      have rR1 := (hBp3.block XR (Array.getElem?_eq_some_iff.1 rR3).1).trans rR3
                      by_cases hpt : p < F2.length
                      · obtain ⟨⟨c6, n6, t6⟩, hx6⟩ : ∃ a, F2[p]? = some a := ⟨_, List.getElem?_eq_getElem hpt⟩
                        obtain ⟨gb6, gc6, hgv6, hg16, hg26, y0, y1, y2⟩ := row_at (owns_next hO3.dn.own hBW3) hx6
                        injection hgv6 with f1 _ f2
                        subst f1 f2
                        simp only at y0 y1 y2
                        have p0 : (0 : Int) ≤ (p : Int) := by omega
                        have p1 : (p : Int) < (F2.length : Int) := by omega
                        have p2 : (p : Int) ≤ 1000 := by omega
                        have hnew := HNew.out _ (List.mem_of_getElem? hx6)
                        simp only at hnew
                        have hBp2 := hBp3.alloc hBp3.size (.cells #[.int .i64 c6, .int .i64 n6, .string (bs t6)] 31)
                        have rA := heap_alloc_new wj2 (.cells #[.int .i64 c6, .int .i64 n6, .string (bs t6)] 31)
                        have rR2 := (Below.heap_alloc wj2 (.cells #[.int .i64 c6, .int .i64 n6, .string (bs t6)] 31) XR (Array.getElem?_eq_some_iff.1 rR1).1).trans rR1
                        have HB6 : Hid (_ ∧ _ ∧ _) := ⟨hBp2, rA, rR2⟩
                        clear hx6 hg16 hBp2 rA rR2
                        go_upto_region 31 with fail
                        obtain ⟨hBp2, rA, rR2⟩ := HB6.out
                        obtain ⟨WA, hWA⟩ : ∃ W, wj2.alloc (.cells #[.int .i64 c6, .int .i64 n6, .string (bs t6)] 31) = W := ⟨_, rfl⟩
                        obtain ⟨XA, hXA⟩ : ∃ X, wj2.heap.size = X := ⟨_, rfl⟩
                        rw [hWA] at hBp2 rA rR2 ⊢
                        rw [hXA] at rA ⊢
                        have a0 := cellB rA 0 (.int .i64 c6) rfl
                        have a1 := cellB rA 1 (.int .i64 n6) rfl
                        have r0 := cellB rR2 0 (.int .i64 c5) rfl
                        have r1 := cellB rR2 1 (.int .i64 n5) rfl
                        have HBp2 : Hid (_) := hBp2
                        clear hWA hXA HB6 y0 y1 y2 rA rR2 hBp2 hBW3 rR1
                        rcases hnew with g1 | ⟨g1, g2⟩
                        all_goals
                          go_wp2
                          go_roundg (F2.length - (p + 1))
                          case measure => omega
                          case rel => exact ⟨p + 1, by omega, by go_num, HBp2.out⟩
                      · have hpF : p = F2.length := by omega
                        subst hpF
                        clear hpt rR3
                        have qc : (q : Int) ≤ (uc : Int) := by
                          obtain ⟨cur, _, _, h3, _⟩ := owns_parts ho
                          omega
                        go_wp2_with fail
                        -- those ahead of it
                        go_loopg [142] q (fun gj j wj3 => ∃ p : Nat, p + gj = q ∧ j = .int .i64 p ∧ Below wj2.heap.size wj2 wj3)
                        case atStart => exact ⟨0, by omega, rfl, Below.refl _ _⟩
                        case round =>
                          rename World => wj3
                          obtain ⟨p, hp, rfl, hBp4⟩ := hrel
                          have hBW4 := hBW3.trans (hBp4.mono hBW3.size)
                          have rR2 := (hBp4.block XR (Array.getElem?_eq_some_iff.1 rR1).1).trans rR1
                          by_cases hpt : p < q
                          · obtain ⟨⟨c6, n6, t6⟩, hx6⟩ : ∃ a, T[p]? = some a := ⟨_, List.getElem?_eq_getElem (by omega)⟩
                            obtain ⟨gb6, gc6, hgv6, hg16, hg26, y0, y1, y2⟩ := row_at (owns_next ho hBW4) hx6
                            injection hgv6 with f1 _ f2
                            injection f1 with f1
                            injection f1 with f1 _ _
                            subst f1 f2
                            simp only at y0 y1 y2
                            have p0 : (0 : Int) ≤ (p : Int) := by omega
                            have p1 : (p : Int) < (q : Int) := by omega
                            have g1 := HOne.out p _ hx6 hpt
                            simp only at g1
                            have hBp2 := hBp4.alloc hBp4.size (.cells #[.int .i64 c6, .int .i64 n6, .string (bs t6)] 31)
                            have rA := heap_alloc_new wj3 (.cells #[.int .i64 c6, .int .i64 n6, .string (bs t6)] 31)
                            have rR5 := (Below.heap_alloc wj3 (.cells #[.int .i64 c6, .int .i64 n6, .string (bs t6)] 31) XR (Array.getElem?_eq_some_iff.1 rR2).1).trans rR2
                            have HB6 : Hid (_ ∧ _ ∧ _) := ⟨hBp2, rA, rR5⟩
                            clear hx6 hg16 hBp2 rA rR5
                            go_upto_region 37 with fail
                            obtain ⟨hBp2, rA, rR5⟩ := HB6.out
                            obtain ⟨WA, hWA⟩ : ∃ W, wj3.alloc (.cells #[.int .i64 c6, .int .i64 n6, .string (bs t6)] 31) = W := ⟨_, rfl⟩
                            obtain ⟨XA, hXA⟩ : ∃ X, wj3.heap.size = X := ⟨_, rfl⟩
                            rw [hWA] at hBp2 rA rR5 ⊢
                            rw [hXA] at rA ⊢
                            have a0 := cellB rA 0 (.int .i64 c6) rfl
                            have r0 := cellB rR5 0 (.int .i64 c5) rfl
                            have HBp2 : Hid (_) := hBp2
                            clear hWA hXA HB6 y0 y1 y2 rA rR5 hBp2 hBW4 rR2
                            go_wp2
                            go_roundg (q - (p + 1))
                            case measure => omega
                            case rel => exact ⟨p + 1, by omega, by go_num, HBp2.out⟩
                          · have hpq : p = q := by omega
                            subst hpq
                            go_wp2_with fail
                            go_roundg (T.length - (p + 1))
                            case measure => omega
                            case rel => exact ⟨p + 1, by omega, by go_num, hBW4⟩
              · have hqT : q = T.length := by omega
                subst hqT
                have hO4 := hO3.next hBq
                clear hqt
                go_wp2_with fail
                go_roundg (l0.length - (k + 1))
                case measure => omega
                case rel => exact ⟨k + 1, v2, l2, D2, A2, F2, by omega, by go_num, hO4, HP2⟩
      · have hkl : k = l0.length := by omega
        subst hkl
        go_wp2_with (first
          | (go_at_call 8; refine (one_any _).mono ?_; rintro e w2 ⟨rfl, hb2⟩))
        go_ret
        exact ⟨rfl, hO.kp.bel.trans (hb2.mono hO.kp.bel.size)⟩
end Go.Proofs.Ytbibfhhnnjojnaa
