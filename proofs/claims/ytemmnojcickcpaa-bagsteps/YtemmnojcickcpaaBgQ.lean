/- The document's bag, walked: Pick. -/
import Derived.Test.YtemmnojcickcpaaBgP
import Derived.Test.YtemmnojcickcpaaBgM
namespace Go.Proofs.Ytemmnojcickcpaa
open Go.RowKit
attribute [local go_sem ↓] Go.wp_at_zero Go.wp_at_succ

theorem fin4r {w W : World} {R : Nat} (h1 : W.heap[R]? = some (.cells #[.int .i64 0, .int .i64 0, .int .i64 0, .string ⟨#[]⟩] 38)) (h2 : Below w.heap.size w W) (hR : w.heap.size ≤ R) (p q r s : Value) :
    ((((W.setCell ⟨R, 0, none⟩ p).setCell ⟨R, 1, none⟩ q).setCell ⟨R, 2, none⟩ r).setCell ⟨R, 3, none⟩ s).cell? ⟨R, 0, none⟩ = some p ∧ ((((W.setCell ⟨R, 0, none⟩ p).setCell ⟨R, 1, none⟩ q).setCell ⟨R, 2, none⟩ r).setCell ⟨R, 3, none⟩ s).cell? ⟨R, 1, none⟩ = some q ∧
    ((((W.setCell ⟨R, 0, none⟩ p).setCell ⟨R, 1, none⟩ q).setCell ⟨R, 2, none⟩ r).setCell ⟨R, 3, none⟩ s).cell? ⟨R, 2, none⟩ = some r ∧ ((((W.setCell ⟨R, 0, none⟩ p).setCell ⟨R, 1, none⟩ q).setCell ⟨R, 2, none⟩ r).setCell ⟨R, 3, none⟩ s).cell? ⟨R, 3, none⟩ = some s ∧
    Below w.heap.size w ((((W.setCell ⟨R, 0, none⟩ p).setCell ⟨R, 1, none⟩ q).setCell ⟨R, 2, none⟩ r).setCell ⟨R, 3, none⟩ s) := by
  have hr := set4 h1 p q r s
  exact ⟨cellB hr 0 _ rfl, cellB hr 1 _ rfl, cellB hr 2 _ rfl, cellB hr 3 _ rfl, below_set4 h2 hR _ _ _ _⟩
set_option maxRecDepth 20000 in
set_option maxHeartbeats 2000000 in
theorem rPick_no {base : Nat} {w : World} {B : Nat} {v : Value} {l : List It} {d : Int} (h : BagAt 29 38 base w B v l d) (i : Int) (hi : i < 0 ∨ (l.length : Int) ≤ i) :
    Calls Try.prog 31 #[.pointer (some ⟨B, 0, none⟩), .int .i64 i] w fun e W' => e = .returned (.tuple #[.agg #[.int .i64 0, .int .i64 0, .int .i64 0, .string (bs [])], .int .i64 6]) ∧ Below w.heap.size w W' := by
  have hb0 : Below w.heap.size w (w.alloc (.cells #[.int .i64 0, .int .i64 0, .int .i64 0, .string ⟨#[]⟩] 38)) := (Below.refl _ w).alloc (Nat.le_refl _) _
  have HR : Hid (_) := heap_alloc_new w (.cells #[.int .i64 0, .int .i64 0, .int .i64 0, .string ⟨#[]⟩] 38)
  have hS := rSee_no (h.next hb0) i hi
  clear hi h
  go_enter Try.func31, Try.ntmps31
  go_wp2_with fail
  refine hS.mono ?_
  rintro e w1 ⟨rfl, hb1⟩
  have r1 := (hb1.block w.heap.size (by simp)).trans HR.out
  have hB1 := hb0.trans (hb1.mono hb0.size)
  have hlt : w.heap.size < w1.heap.size := (Array.getElem?_eq_some_iff.1 r1).1
  clear hS HR hb1 hb0
  go_upto_region 3 with fail
  have r2 := (Below.heap_alloc w1 (.cells #[.int .i64 0, .int .i64 0, .int .i64 0, .string (bs [])] 38) w.heap.size hlt).trans r1
  have hB2 := hB1.alloc hB1.size (.cells #[.int .i64 0, .int .i64 0, .int .i64 0, .string (bs [])] 38)
  have rx := heap_alloc_new w1 (.cells #[.int .i64 0, .int .i64 0, .int .i64 0, .string (bs [])] 38)
  obtain ⟨W2, hW2⟩ : ∃ W, w1.alloc (.cells #[.int .i64 0, .int .i64 0, .int .i64 0, .string (bs [])] 38) = W := ⟨_, rfl⟩
  rw [hW2] at r2 hB2 rx ⊢
  have f0 := frozenB r2 0
  have f1 := frozenB r2 1
  have f2 := frozenB r2 2
  have f3 := frozenB r2 3
  have x0 := cellB r2 0 _ rfl
  have x1 := cellB r2 1 _ rfl
  have x2 := cellB r2 2 _ rfl
  have x3 := cellB r2 3 _ rfl
  have p0 := cellB rx 0 _ rfl
  have p1 := cellB rx 1 _ rfl
  have p2 := cellB rx 2 _ rfl
  have p3 := cellB rx 3 _ rfl
  obtain ⟨y0, y1, y2, y3, hB3⟩ := fin4r r2 hB2 (Nat.le_refl _) (.int .i64 0) (.int .i64 0) (.int .i64 0) (.string (bs []))
  clear hW2 r2 r1 hB1 rx
  go_wp2
  exact bodyPost_ret (v := .tuple #[.agg #[.int .i64 0, .int .i64 0, .int .i64 0, .string (bs [])], .int .i64 6]) (by simp [results, Try.f31, go_sem, y0, y1, y2, y3]) rfl ⟨rfl, hB3⟩
set_option maxRecDepth 20000 in
set_option maxHeartbeats 4000000 in
theorem rPick_ok {base : Nat} {w : World} {B : Nat} {v : Value} {l : List It} {d : Int} (h : BagAt 29 38 base w B v l d) (hl : l.length ≤ 4096) (k : Nat) (a0 a1 a2 : Int) (a3 : List UInt8) (hk : l[k]? = some (a0, a1, a2, a3)) :
    Calls Try.prog 31 #[.pointer (some ⟨B, 0, none⟩), .int .i64 k] w fun e W' => e = .returned (.tuple #[.agg #[.int .i64 a0, .int .i64 a1, .int .i64 a2, .string (bs a3)], .int .i64 0]) ∧ ∃ v', BagAt 29 38 base W' B v' (l.eraseIdx k) d ∧ Moved B v v' w W' := by
  have hkl : k < l.length := (List.getElem?_eq_some_iff.1 hk).1
  have hb0 : Below w.heap.size w (w.alloc (.cells #[.int .i64 0, .int .i64 0, .int .i64 0, .string ⟨#[]⟩] 38)) := (Below.refl _ w).alloc (Nat.le_refl _) _
  have HR : Hid (_) := heap_alloc_new w (.cells #[.int .i64 0, .int .i64 0, .int .i64 0, .string ⟨#[]⟩] 38)
  have hS := rSee_ok (h.next hb0) k a0 a1 a2 a3 hk
  obtain ⟨i0, hi0, hz0, hz1, hz2⟩ := info_parts Try.info38
  go_enter Try.func31, Try.ntmps31
  go_wp2_with fail
  refine hS.mono ?_
  rintro e w1 ⟨rfl, hb1⟩
  have r1 := (hb1.block w.heap.size (by simp)).trans HR.out
  have hB1 := hb0.trans (hb1.mono hb0.size)
  have hlt : w.heap.size < w1.heap.size := (Array.getElem?_eq_some_iff.1 r1).1
  clear hS HR hb1 hb0
  go_upto_region 4 with fail
  have r2 := (Below.heap_alloc w1 (.cells #[.int .i64 a0, .int .i64 a1, .int .i64 a2, .string (bs a3)] 38) w.heap.size hlt).trans r1
  have hB2 := hB1.alloc hB1.size (.cells #[.int .i64 a0, .int .i64 a1, .int .i64 a2, .string (bs a3)] 38)
  have rx := heap_alloc_new w1 (.cells #[.int .i64 a0, .int .i64 a1, .int .i64 a2, .string (bs a3)] 38)
  obtain ⟨W2, hW2⟩ : ∃ W, w1.alloc (.cells #[.int .i64 a0, .int .i64 a1, .int .i64 a2, .string (bs a3)] 38) = W := ⟨_, rfl⟩
  rw [hW2] at r2 hB2 rx ⊢
  obtain ⟨X, hX⟩ : ∃ x, w1.heap.size = x := ⟨_, rfl⟩
  rw [hX] at rx hlt ⊢
  have h2 := h.next hB2
  have hBw := h.lt
  have hbase := h.base
  have hvw : ∀ q, v.ownBlock = some q → q < w.heap.size := fun q hq => (h.own.lt q hq).2
  obtain ⟨R, hR⟩ : ∃ x, w.heap.size = x := ⟨_, rfl⟩
  have hRw : w.heap.size ≤ R := by omega
  have hRB : B < R := by omega
  rw [hR] at r2 hlt ⊢
  have hWX : X < W2.heap.size := (Array.getElem?_eq_some_iff.1 rx).1
  clear hW2 hX hR r1 hB1 h
  obtain ⟨g, cap, rfl, hg1, hg2, hg3, hcap, hcs⟩ := h2.at (by omega)
  have c0 := cellB h2.blk 0 _ rfl
  have hl4 : (l.length : Int) ≤ 4096 := by omega
  go_wp2_with fail
  go_loopg [8, 26] l.length (fun gq q i wr => ∃ m : Nat, m + gq = l.length ∧ i = .int .i64 m ∧ wr.ownsRow W2.heap.size 38 4 q ((l.take m).eraseIdx k).length (ics ((l.take m).eraseIdx k)) ∧ Below W2.heap.size W2 wr)
  case atStart => exact ⟨0, by omega, rfl, World.ownsRow_nil _ _ _ _, Below.refl _ _⟩
  case round =>
    obtain ⟨m, hm, rfl, hown, hbw⟩ := hrel
    by_cases hml : m < l.length
    · obtain ⟨⟨t0, t1, t2, t3⟩, ht⟩ : ∃ t, l[m]? = some t := ⟨_, List.getElem?_eq_getElem hml⟩
      obtain ⟨x0, x1, x2, x3⟩ := hcs m _ ht
      have y0 := (hbw.cell (p := ⟨g, m * 4, none⟩) hg2).trans x0
      have y1 := (hbw.cell (p := ⟨g, m * 4 + 1, none⟩) hg2).trans x1
      have y2 := (hbw.cell (p := ⟨g, m * 4 + 2, none⟩) hg2).trans x2
      have y3 := (hbw.cell (p := ⟨g, m * 4 + 3, none⟩) hg2).trans x3
      have HT : Hid ((l.take (m + 1)).eraseIdx k = (l.take m).eraseIdx k ++ if m = k then [] else [(t0, t1, t2, t3)]) := take_erase ht
      have m0 : (0 : Int) ≤ (m : Int) := by omega
      have m1 : (m : Int) < (l.length : Int) := by omega
      have hle : ((l.take m).eraseIdx k).length ≤ m := by
        have h1 := List.length_eraseIdx_le (l.take m) k
        rw [List.length_take] at h1
        omega
      obtain ⟨P, hP⟩ : ∃ P, (l.take m).eraseIdx k = P := ⟨_, rfl⟩
      rw [hP] at HT hown hle
      simp only at y0 y1 y2 y3
      clear hP ht x0 x1 x2 x3 c0
      by_cases hmj : m = k
      · subst hmj
        have HT2 : Hid ((l.take (m + 1)).eraseIdx m = P) := by show _ = _; rw [HT.out, if_pos rfl, List.append_nil]
        clear HT
        go_wp2
        go_roundg (l.length - (m + 1))
        case measure => omega
        case rel => exact ⟨m + 1, by omega, by go_num, by rw [HT2.out]; exact hown.alloc _, hbw.alloc hbw.size _⟩
      · have HT2 : Hid ((l.take (m + 1)).eraseIdx k = P ++ [(t0, t1, t2, t3)]) := by show _ = _; rw [HT.out, if_neg hmj]
        have hq : ((m : Int) == (k : Int)) = false := by simp; omega
        have hmx : P.length + 1 ≤ maxLen := by unfold maxLen; omega
        have hkb : (P.length + 1) * 40 ≤ 140737488355328 := by omega
        have HNW : Hid (∀ j u, [Value.int .i64 t0, .int .i64 t1, .int .i64 t2, .string (bs t3)][j]? = some u → ((wr.alloc (.cells #[.int .i64 t0, .int .i64 t1, .int .i64 t2, .string (bs t3)] 38)).alloc (.cells #[.int .i64 t0, .int .i64 t1, .int .i64 t2, .string (bs t3)] 38)).cell? ((⟨wr.heap.size + 1, 0, none⟩ : Addr).add j) = some u) := by
          have h := heap_alloc_new (wr.alloc (.cells #[.int .i64 t0, .int .i64 t1, .int .i64 t2, .string (bs t3)] 38)) (.cells #[.int .i64 t0, .int .i64 t1, .int .i64 t2, .string (bs t3)] 38)
          rw [World.size_alloc] at h
          exact World.news_of_block h
        clear HT hmj
        go_wp2_with (at_builtin; refine wpList_append_own _ rfl _ _ 27 rfl W2.heap.size 38 i0 (.agg #[.int .i64 0, .int .i64 0, .int .i64 0, .string ⟨#[]⟩]) 4 40 Try.underlying27 hi0 hz0 hz1 hz2 rfl (by decide) u8 P.length (ics P) rfl ((hown.alloc _).alloc _) ⟨wr.heap.size + 1, 0, none⟩ 1 1 [.int .i64 t0, .int .i64 t1, .int .i64 t2, .string (bs t3)] rfl rfl HNW.out (by simp [Value.oneCell']) hmx hkb (by have := hbw.size; simp; omega) ?_; intro v' w' h1 h3 _)
        go_roundg (l.length - (m + 1))
        case measure => omega
        case rel => exact ⟨m + 1, by omega, by go_num, by rw [HT2.out, ics_append, List.length_append]; exact h1, ((hbw.alloc hbw.size _).alloc (by have := hbw.size; simp; omega) _).grown h3 (by have := hbw.size; simp; omega) (fun q hq => (hown.lt q hq).1)⟩
    · have hml2 : m = l.length := by omega
      subst hml2
      rw [List.take_length] at hown
      have b4 := (hbw.block B h2.lt).trans h2.blk
      have x4 := (hbw.block X hWX).trans rx
      have r4 := (hbw.block R (by omega)).trans r2
      have fB := frozenB b4 0
      have cB := cellB b4 0 _ rfl
      have hB4 := hB2.trans (hbw.mono hB2.size)
      have hBX : B ≠ X := by omega
      have hBR : B ≠ R := by omega
      have hvo := hown.lt
      have hWw := hB2.size
      obtain ⟨ua, uc, rfl⟩ := owns_slice hown
      clear c0 hcs
      go_upto_region 12 with fail
      have b8 := setB b4 0 (.slice ua (l.eraseIdx k).length uc)
      have x8 := (set_far (w := wr) hBX.symm 0 (.slice ua (l.eraseIdx k).length uc)).trans x4
      have r8 := (set_far (w := wr) hBR.symm 0 (.slice ua (l.eraseIdx k).length uc)).trans r4
      have ho8 := owns_kept hown (w' := wr.setCell ⟨B, 0, none⟩ (.slice ua (l.eraseIdx k).length uc)) (fun q hq => set_far (by have := (hvo q hq).1; omega) _ _)
      have hs8 : wr.heap.size = (wr.setCell ⟨B, 0, none⟩ (.slice ua (l.eraseIdx k).length uc)).heap.size := by simp [World.setCell]
      have hk8 : ∀ q, q ≠ B → (wr.setCell ⟨B, 0, none⟩ (.slice ua (l.eraseIdx k).length uc)).heap[q]? = wr.heap[q]? := fun q hq => set_far hq _ _
      have ho9 : (wr.setCell ⟨B, 0, none⟩ (.slice ua (l.eraseIdx k).length uc)).os = w.os ∧ (wr.setCell ⟨B, 0, none⟩ (.slice ua (l.eraseIdx k).length uc)).tape = w.tape ∧ (wr.setCell ⟨B, 0, none⟩ (.slice ua (l.eraseIdx k).length uc)).output = w.output := ⟨hB4.os, hB4.tape, hB4.output⟩
      obtain ⟨W8, hW8⟩ : ∃ W, wr.setCell ⟨B, 0, none⟩ (.slice ua (l.eraseIdx k).length uc) = W := ⟨_, rfl⟩
      rw [hW8] at b8 x8 r8 ho8 hs8 hk8 ho9 ⊢
      have p0 := cellB x8 0 _ rfl
      have p1 := cellB x8 1 _ rfl
      have p2 := cellB x8 2 _ rfl
      have p3 := cellB x8 3 _ rfl
      have q0 := cellB r8 0 _ rfl
      have q1 := cellB r8 1 _ rfl
      have q2 := cellB r8 2 _ rfl
      have q3 := cellB r8 3 _ rfl
      have f0 := frozenB r8 0
      have f1 := frozenB r8 1
      have f2 := frozenB r8 2
      have f3 := frozenB r8 3
      have hr := set4 r8 (.int .i64 a0) (.int .i64 a1) (.int .i64 a2) (.string (bs a3))
      have HZ : Hid (∃ v', BagAt 29 38 base ((((W8.setCell ⟨R, 0, none⟩ (.int .i64 a0)).setCell ⟨R, 1, none⟩ (.int .i64 a1)).setCell ⟨R, 2, none⟩ (.int .i64 a2)).setCell ⟨R, 3, none⟩ (.string (bs a3))) B v' (l.eraseIdx k) d ∧ Moved B (.slice (some ⟨g, 0, none⟩) l.length cap) v' w ((((W8.setCell ⟨R, 0, none⟩ (.int .i64 a0)).setCell ⟨R, 1, none⟩ (.int .i64 a1)).setCell ⟨R, 2, none⟩ (.int .i64 a2)).setCell ⟨R, 3, none⟩ (.string (bs a3)))) := by
        refine ⟨.slice ua (l.eraseIdx k).length uc, ⟨(far4 hBR _ _ _ _ _ _ _ _).trans b8, owns_kept (owns_base ho8 (by omega)) (fun q hq => far4 (by have := (hvo q hq).1; omega) _ _ _ _ _ _ _ _), fun e => (by have := (hvo B e).1; omega), hbase⟩, ⟨ho9.1, ho9.2.1, ho9.2.2, ?_, fun q h1 h2 _ => ?_, fun q hq => .inr (by have := (hvo q hq).1; omega)⟩⟩
        · rw [size4, ← hs8]; exact hB4.size
        · rw [far4 (by omega), hk8 q h2]
          exact hB4.block q h1
      have z0 := cellB hr 0 _ rfl
      have z1 := cellB hr 1 _ rfl
      have z2 := cellB hr 2 _ rfl
      have z3 := cellB hr 3 _ rfl
      clear hW8 hr b4 x4 r4 b8 x8 r8 ho8 hs8 hk8 ho9 cB fB hown hvo
      go_wp2
      exact bodyPost_ret (v := .tuple #[.agg #[.int .i64 a0, .int .i64 a1, .int .i64 a2, .string (bs a3)], .int .i64 0]) (by simp [results, Try.f31, go_sem, z0, z1, z2, z3]) rfl ⟨rfl, HZ.out⟩
end Go.Proofs.Ytemmnojcickcpaa
