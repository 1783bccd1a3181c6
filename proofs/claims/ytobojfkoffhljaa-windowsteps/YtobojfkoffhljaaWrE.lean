/- The document's own window: Note, walked. -/
import Derived.Test.YtobojfkoffhljaaWrC
namespace Go.Proofs.Ytobojfkoffhljaa
open Go.RowKit
attribute [local go_sem ↓] Go.wp_at_zero Go.wp_at_succ

theorem rNote_bad {base : Nat} {w : World} {R : Nat} {low : Int} {vl vd : Value} {l F : List Rq} (h : RefAt base w R low vl vd l F) (h0 : 0 ≤ low) (h1 : low ≤ 1099511627768) {view n : Int} (hE : askE low view n ≠ 0) (s : List UInt8) : Calls Try.prog 27 #[.pointer (some ⟨R, 0, none⟩), .int .i64 view, .int .i64 n, .string (bs s)] w fun e W' => e = .returned (.tuple #[.bool false, .int .i64 (askE low view n)]) ∧ W' = w := by
  have hA := rAsk_any h h0 h1 view n
  obtain ⟨e0, he0⟩ : ∃ e0 : Int, askE low view n = e0 := ⟨_, rfl⟩
  rw [he0] at hA hE ⊢
  have hz1 : (e0 == 0) = false := by simp [hE]
  clear he0 h
  go_enter Try.func27, Try.ntmps27
  go_wp2_with (first | (go_at_call 40; refine hA.mono ?_; rintro e w1 ⟨rfl, h9⟩; replace h9 := h9.symm; subst h9))
  exact bodyPost_ret (v := .tuple #[.bool false, .int .i64 e0]) (by simp [results, Try.f27, go_sem]) rfl ⟨rfl, rfl⟩
theorem rNote_no {base : Nat} {w : World} {R : Nat} {low : Int} {vl vd : Value} {l F : List Rq} (h : RefAt base w R low vl vd l F) (hF : F.length ≤ 1000) (h0 : 0 ≤ low) (h1 : low ≤ 1099511627768) {view n : Int} (hE : askE low view n = 0) (hok : (rbF F n).2.2.2 = true) (hv : view ≤ (rbF F n).1) (s : List UInt8) : Calls Try.prog 27 #[.pointer (some ⟨R, 0, none⟩), .int .i64 view, .int .i64 n, .string (bs s)] w fun e W' => e = .returned (.tuple #[.bool false, .int .i64 0]) ∧ Below w.heap.size w W' := by
  have hA := rAsk_any h h0 h1 view n
  rw [hE] at hA
  have hB := rBest_any h hF n
  obtain ⟨⟨v, tt, nn, ok⟩, hb⟩ : ∃ b, rbF F n = b := ⟨_, rfl⟩
  rw [hb] at hB hok hv
  simp only at hB hok hv
  subst hok
  clear h hE hb
  go_enter Try.func27, Try.ntmps27
  go_wp2_with (first
    | (go_at_call 40; refine hA.mono ?_; rintro e w1 ⟨rfl, h9⟩; replace h9 := h9.symm; subst h9)
    | (go_at_call 13; refine hB.mono ?_; rintro e w2 ⟨rfl, hb2⟩))
  exact bodyPost_ret (v := .tuple #[.bool false, .int .i64 0]) (by simp [results, Try.f27, go_sem]) rfl ⟨rfl, hb2.alloc hb2.size _⟩
/-- Those of other numbers. -/
def otP (n : Int) (a : Rq) : Bool := !(a.2.1 == n)
theorem otL_snoc (n : Int) (l : List Rq) (a : Rq) : (l ++ [a]).filter (otP n) = l.filter (otP n) ++ if otP n a = true then [a] else [] := by
  rw [List.filter_append]
  by_cases h : otP n a = true <;> simp [h]
set_option maxRecDepth 20000 in
set_option maxHeartbeats 4000000 in
theorem rNote_ok {base : Nat} {w : World} {R : Nat} {low : Int} {vl vd : Value} {l F : List Rq} (h : RefAt base w R low vl vd l F) (hF : F.length ≤ 1000) (h0 : 0 ≤ low) (h1 : low ≤ 1099511627768) {view n : Int} (hE : askE low view n = 0) (hok : (rbF F n).2.2.2 = false ∨ ((rbF F n).2.2.2 = true ∧ (rbF F n).1 < view)) (s : List UInt8) : Calls Try.prog 27 #[.pointer (some ⟨R, 0, none⟩), .int .i64 view, .int .i64 n, .string (bs s)] w fun e W' => e = .returned (.tuple #[.bool true, .int .i64 0]) ∧ ∃ vd', RefAt base W' R low vl vd' l (F.filter (otP n) ++ [(view, n, s)]) ∧ Mvd (fpR R vl vd) (fpR R vl vd') w W' := by
  have hA := rAsk_any h h0 h1 view n
  rw [hE] at hA
  have hBs := rBest_any h hF n
  obtain ⟨⟨v, tt, nn, ok⟩, hb⟩ : ∃ b, rbF F n = b := ⟨_, rfl⟩
  rw [hb] at hBs hok
  simp only at hBs hok
  obtain ⟨da, dc, rfl⟩ := owns_slice h.dn
  obtain ⟨i9, hi9, hz0, hz1, hz2⟩ := info_parts Try.info42
  have HH : Hid (_) := h
  clear h hE hb h0 h1
  rcases hok with rfl | ⟨rfl, hlt⟩
  all_goals
    go_enter Try.func27, Try.ntmps27
    go_upto_region 7 with (first
      | (go_at_call 40; refine hA.mono ?_; rintro e w1 ⟨rfl, h9⟩; replace h9 := h9.symm; subst h9)
      | (go_at_call 13; refine hBs.mono ?_; rintro e w2 ⟨rfl, hb2⟩))
    have hB0 := hb2.alloc hb2.size (.cells #[.int .i64 v, .int .i64 nn, .string (bs tt)] 42)
    obtain ⟨W1, hW1⟩ : ∃ W, w2.alloc (.cells #[.int .i64 v, .int .i64 nn, .string (bs tt)] 42) = W := ⟨_, rfl⟩
    rw [hW1] at hB0 ⊢
    have c2 := cellB (HH.out.next hB0).blk 2 (.slice da F.length dc) rfl
    clear hA hBs hb2 hW1
    go_wp2_with fail
    go_loopg [13, 41] F.length (fun gk p i wr => ∃ k : Nat, k + gk = F.length ∧ i = .int .i64 k ∧ wr.ownsRow w.heap.size 42 3 p ((F.take k).filter (otP n)).length (rcs ((F.take k).filter (otP n))) ∧ Below w.heap.size w wr)
    case atStart => exact ⟨0, by omega, rfl, World.ownsRow_nil _ _ _ _, hB0⟩
    case round =>
      obtain ⟨k, hk, rfl, hown, hB⟩ := hrel
      clear hB0
      by_cases hlt9 : k < F.length
      · obtain ⟨⟨c5, n5, t5⟩, hx⟩ : ∃ a, F[k]? = some a := ⟨_, List.getElem?_eq_getElem hlt9⟩
        obtain ⟨gb, gc, hgv, hg1, hg2, y0, y1, y2⟩ := row_at (owns_next HH.out.dn hB) hx
        injection hgv with f1 _ f2
        subst f1 f2
        simp only at y0 y1 y2
        have q0 : (0 : Int) ≤ (k : Int) := by omega
        have q1 : (k : Int) < (F.length : Int) := by omega
        have HS : Hid ((F.take (k + 1)).filter (otP n) = (F.take k).filter (otP n) ++ if otP n (c5, n5, t5) = true then [(c5, n5, t5)] else []) := by show _ = _; rw [take_snoc hx, otL_snoc]
        have hle : ((F.take k).filter (otP n)).length ≤ (F.take k).length := List.length_filter_le _ _
        rw [List.length_take] at hle
        obtain ⟨P, hP⟩ : ∃ P, (F.take k).filter (otP n) = P := ⟨_, rfl⟩
        rw [hP] at HS hown hle
        obtain ⟨pa, pc, rfl⟩ := owns_slice hown
        have hba : Below wr.heap.size wr (wr.alloc (.cells #[.int .i64 c5, .int .i64 n5, .string (bs t5)] 42)) := (Below.refl _ _).alloc (Nat.le_refl _) _
        have rN := heap_alloc_new wr (.cells #[.int .i64 c5, .int .i64 n5, .string (bs t5)] 42)
        have hown1 := owns_next hown hba
        have hB1 := hB.trans (hba.mono hB.size)
        have HBN : Hid (_ ∧ _ ∧ _) := ⟨rN, hown1, hB1⟩
        clear hx hP hg1 rN hown1 hB1 hba hown
        go_upto_region 11 with fail
        obtain ⟨rN, hown, hB1⟩ := HBN.out
        clear HBN
        obtain ⟨W3, hW3⟩ : ∃ W, wr.alloc (.cells #[.int .i64 c5, .int .i64 n5, .string (bs t5)] 42) = W := ⟨_, rfl⟩
        rw [hW3] at rN hown hB1 ⊢
        have z0 := cellB rN 0 (.int .i64 c5) rfl
        have z1 := cellB rN 1 (.int .i64 n5) rfl
        have z2 := cellB rN 2 (.string (bs t5)) rfl
        clear hW3 rN y0 y1 y2 hB
        by_cases e1 : n5 = n
        · have HS2 : Hid ((F.take (k + 1)).filter (otP n) = P) := by show _ = _; rw [HS.out, if_neg (by simp [otP, e1]), List.append_nil]
          subst e1
          clear HS
          go_wp2
          go_roundg (F.length - (k + 1))
          case measure => omega
          case rel => exact ⟨k + 1, by omega, by go_num, by rw [HS2.out]; exact hown, hB1⟩
        · have HS2 : Hid ((F.take (k + 1)).filter (otP n) = P ++ [(c5, n5, t5)]) := by show _ = _; rw [HS.out, if_pos (by simp [otP, e1])]
          have s1 : (n5 == n) = false := by simp [e1]
          have hml : P.length + 1 ≤ maxLen := by unfold maxLen; omega
          have hkb : (P.length + 1) * 32 ≤ 140737488355328 := by omega
          clear HS
          go_wp2_with (first
            | (at_builtin; refine wpList_append_own _ rfl _ _ 30 rfl w.heap.size 42 i9 (.agg #[.int .i64 0, .int .i64 0, .string ⟨#[]⟩]) 3 32 Try.underlying30 hi9 hz0 hz1 hz2 rfl (by decide) (.slice pa P.length pc) P.length (rcs P) rfl (hown.alloc _) _ 1 1 [.int .i64 c5, .int .i64 n5, .string (bs t5)] rfl rfl (World.news_of_block (heap_alloc_new _ _)) (by simp [Value.oneCell']) hml hkb (by have := hB1.size; simp; omega) ?_; intro v' w' h1 h2 _))
          go_roundg (F.length - (k + 1))
          case measure => omega
          case rel => exact ⟨k + 1, by omega, by go_num, by rw [HS2.out, rcs_append, List.length_append]; exact h1, (hB1.alloc hB1.size _).grown h2 (by have := hB1.size; simp; omega) (fun q hq => (hown.lt q hq).1)⟩
      · have hkl : k = F.length := by omega
        clear hk
        subst hkl
        rw [List.take_length] at hown
        have hle : (F.filter (otP n)).length ≤ F.length := List.length_filter_le _ _
        obtain ⟨P, hP⟩ : ∃ P, F.filter (otP n) = P := ⟨_, rfl⟩
        have HP : Hid (F.filter (otP n) = P) := hP
        rw [hP] at hown hle
        obtain ⟨pa, pc, rfl⟩ := owns_slice hown
        have hml : P.length + 1 ≤ maxLen := by unfold maxLen; omega
        have hkb : (P.length + 1) * 32 ≤ 140737488355328 := by omega
        clear hP hlt9 c2
        go_wp2_with (first
          | (at_builtin; refine wpList_append_own _ rfl _ _ 30 rfl w.heap.size 42 i9 (.agg #[.int .i64 0, .int .i64 0, .string ⟨#[]⟩]) 3 32 Try.underlying30 hi9 hz0 hz1 hz2 rfl (by decide) (.slice pa P.length pc) P.length (rcs P) rfl (hown.alloc _) _ 1 1 [.int .i64 view, .int .i64 n, .string (bs s)] rfl rfl (World.news_of_block (heap_alloc_new _ _)) (by simp [Value.oneCell']) hml hkb (by have := hB.size; simp; omega) ?_; intro v' w' h1 h2 _; obtain ⟨va, vc, rfl⟩ := owns_slice h1; have hB9 : Below w.heap.size w w' := (hB.alloc hB.size _).grown h2 (by have := hB.size; simp; omega) (fun q hq => (hown.lt q hq).1); have ho9 : w'.ownsRow w.heap.size 42 3 (.slice va (P.length + 1) vc) (F.filter (otP n) ++ [(view, n, s)]).length (rcs (F.filter (otP n) ++ [(view, n, s)])) := (by rw [HP.out, rcs_append, List.length_append]; exact h1); have b9 := (hB9.block R HH.out.lt).trans HH.out.blk; have u2 := cellB b9 2 _ rfl; have g2 := frozenB b9 2; have HZ : Hid (_ ∧ _) := HH.out.setD hB9 ho9; clear ho9 hB9 b9 h1 h2))
        exact bodyPost_ret (v := .tuple #[.bool true, .int .i64 0]) (by simp [results, Try.f27, go_sem]) rfl ⟨rfl, _, HZ.out.1, HZ.out.2⟩
end Go.Proofs.Ytobojfkoffhljaa
