/- The bag's Pick, walked, where there is such an item. -/
import Derived.Test.YtemmnojcickcpaaBgH
namespace Go.Proofs.Ytemmnojcickcpaa
open Go.RowKit
attribute [local go_sem ↓] Go.wp_at_zero Go.wp_at_succ

theorem owns_take {w : World} {base g n cap m : Nat} {E : TypeId} {s : Nat} {xs : List Value} (h : w.ownsRow base E s (.slice (some ⟨g, 0, none⟩) n cap) n xs) (hm : m ≤ n) : w.ownsRow base E s (.slice (some ⟨g, 0, none⟩) m cap) m (xs.take (m * s)) := by
  obtain ⟨cur, h1, h2, h3, h4, h5, h6, h7⟩ := owns_parts h
  have hms : m * s ≤ n * s := Nat.mul_le_mul_right s hm
  refine ⟨by rw [List.length_take, h7]; omega, .inr ⟨g, cap, cur, rfl, h1, h2, by omega, h4, h5, ?_⟩⟩
  rw [← h6, List.take_take, Nat.min_eq_left hms]
/-- The last place is cleared, and no longer there. -/
theorem owns_cleared {w : World} {base g n cap m : Nat} {r : List It} {z : It} (h : w.ownsRow base 31 4 (.slice (some ⟨g, 0, none⟩) n cap) n (ics (r ++ [z]))) (hn : n = m + 1) (hr : r.length = m) (a b c d : Value) :
    ((((w.setCell ⟨g, m * 4, none⟩ a).setCell ⟨g, m * 4 + 1, none⟩ b).setCell ⟨g, m * 4 + 2, none⟩ c).setCell ⟨g, m * 4 + 3, none⟩ d).ownsRow base 31 4 (.slice (some ⟨g, 0, none⟩) m cap) r.length (ics r) := by
  have h1 := (h.stored (m * 4) a).1
  have h2 := (h1.stored (m * 4 + 1) b).1
  have h3 := (h2.stored (m * 4 + 2) c).1
  have h4 := (h3.stored (m * 4 + 3) d).1
  have h5 := owns_take h4 (m := m) (by omega)
  rw [List.take_set_of_le (by omega), List.take_set_of_le (by omega), List.take_set_of_le (by omega), List.take_set_of_le (by omega), ics_append, List.take_append_of_le_length (by rw [ics_len]; omega), List.take_of_length_le (by rw [ics_len]; omega)] at h5
  rw [hr]
  exact h5
theorem far4 {w : World} {g k : Nat} (h : k ≠ g) (i0 i1 i2 i3 : Nat) (a b c d : Value) : ((((w.setCell ⟨g, i0, none⟩ a).setCell ⟨g, i1, none⟩ b).setCell ⟨g, i2, none⟩ c).setCell ⟨g, i3, none⟩ d).heap[k]? = w.heap[k]? := by
  rw [set_far h, set_far h, set_far h, set_far h]
theorem size4 (w : World) (p q r s : Addr) (a b c d : Value) : ((((w.setCell p a).setCell q b).setCell r c).setCell s d).heap.size = w.heap.size := by simp [World.setCell]

set_option maxRecDepth 20000 in
set_option maxHeartbeats 4000000 in
theorem Pick_ok {base : Nat} {w : World} {B : Nat} {v : Value} {l : List It} {d : Int} (h : BagAt 70 31 base w B v l d) (hl : l.length ≤ 4096) (k : Nat) (a0 a1 a2 : Int) (a3 : List UInt8) (hk : l[k]? = some (a0, a1, a2, a3)) :
    Calls Try.prog 20 #[.pointer (some ⟨B, 0, none⟩), .int .i64 k] w fun e W' => e = .returned (.tuple #[.agg #[.int .i64 a0, .int .i64 a1, .int .i64 a2, .string (bs a3)], .int .i64 0]) ∧ ∃ v', BagAt 70 31 base W' B v' (l.eraseIdx k) d ∧ Moved B v v' w W' := by
  have hkl : k < l.length := (List.getElem?_eq_some_iff.1 hk).1
  obtain ⟨m, hm⟩ : ∃ m, l.length = m + 1 := ⟨l.length - 1, by omega⟩
  obtain ⟨z, hz⟩ : ∃ z, l.getLast? = some z := by
    cases hq : l.getLast? with
    | none => rw [List.getLast?_eq_none_iff] at hq; subst hq; simp at hkl
    | some z => exact ⟨z, rfl⟩
  have hb0 : Below w.heap.size w (w.alloc (.cells #[.int .i64 0, .int .i64 0, .int .i64 0, .string ⟨#[]⟩] 31)) := (Below.refl _ w).alloc (Nat.le_refl _) _
  have HR : Hid (_) := heap_alloc_new w (.cells #[.int .i64 0, .int .i64 0, .int .i64 0, .string ⟨#[]⟩] 31)
  have hS := See_ok (h.next hb0) k a0 a1 a2 a3 hk
  go_enter Try.func20, Try.ntmps20
  go_wp2_with fail
  refine hS.mono ?_
  rintro e w1 ⟨rfl, hb1⟩
  have r1 := (hb1.block w.heap.size (by simp)).trans HR.out
  have hB1 := hb0.trans (hb1.mono hb0.size)
  have hlt : w.heap.size < w1.heap.size := (Array.getElem?_eq_some_iff.1 r1).1
  clear hS HR hb1 hb0
  go_upto_region 4 with fail
  have r2 := (Below.heap_alloc w1 (.cells #[.int .i64 a0, .int .i64 a1, .int .i64 a2, .string (bs a3)] 31) w.heap.size hlt).trans r1
  have hB2 := hB1.alloc hB1.size (.cells #[.int .i64 a0, .int .i64 a1, .int .i64 a2, .string (bs a3)] 31)
  have rx := heap_alloc_new w1 (.cells #[.int .i64 a0, .int .i64 a1, .int .i64 a2, .string (bs a3)] 31)
  obtain ⟨W2, hW2⟩ : ∃ W, w1.alloc (.cells #[.int .i64 a0, .int .i64 a1, .int .i64 a2, .string (bs a3)] 31) = W := ⟨_, rfl⟩
  rw [hW2] at r2 hB2 rx ⊢
  obtain ⟨X, hX⟩ : ∃ x, w1.heap.size = x := ⟨_, rfl⟩
  rw [hX] at rx hlt ⊢
  obtain ⟨R, hR⟩ : ∃ x, w.heap.size = x := ⟨_, rfl⟩
  have h2 := h.next hB2
  have hBR := h.lt
  rw [hR] at r2 hlt hBR ⊢
  have hRX : R ≠ X := by omega
  have hBX : B ≠ X := by omega
  have hBR' : B ≠ R := by omega
  have hWX : X < W2.heap.size := (Array.getElem?_eq_some_iff.1 rx).1
  clear hW2 hX r1 hB1
  obtain ⟨g, cap, rfl, hg1, hg2, hg3, hcap, hcs⟩ := h2.at (by omega)
  have hgw : g < w.heap.size := (h.own.lt g rfl).2
  have hRw : w.heap.size ≤ R := by omega
  have hbase := h.base
  rw [hR] at hgw
  clear hR
  have hgX : g ≠ X := by omega
  have hgR : g ≠ R := by omega
  have c0 := cellB h2.blk 0 (.slice (some ⟨g, 0, none⟩) l.length cap) rfl
  have k0 : (0 : Int) ≤ (k : Int) := by omega
  have k1 : (k : Int) ≤ (m : Int) + 1 := by omega
  have hck : ¬ cap = k := by omega
  have hm4 : (m : Int) ≤ 4096 := by omega
  have hown := h2.own
  have hbk := h2.blk
  obtain ⟨q, hq⟩ : ∃ q, k + 1 = q := ⟨_, rfl⟩
  have hwr : IntKind.i64.wrap ((k : Int) + 1) = (q : Int) := by rw [wrap_id8 _ (by omega) (by omega), ← hq]; rfl
  have q0 : (0 : Int) ≤ (q : Int) := by omega
  have q1 : (q : Int) ≤ (m : Int) + 1 := by omega
  have HQ : Hid (k + 1 = q) := hq
  have HM : Hid (l.length = m + 1) := hm
  have HK : Hid (k < l.length) := hkl
  have hcap2 : m + 1 ≤ cap := by omega
  rw [hm] at c0
  clear hq hm hkl h2 hcs hk hl h hcap
  go_upto_region 5 with fail
  have HD : Hid (m + 1 - k = l.length - k) := by show m + 1 - k = l.length - k; rw [HM.out]
  have HE : Hid (m + 1 - q = l.length - q) := by show m + 1 - q = l.length - q; rw [HM.out]
  have HT : Hid (cap = q → 0 = l.length - q) := by intro h1; have h3 := HM.out; have h4 := hcap2; have h5 := q1; omega
  have hBl : B < W2.drew.heap.size := by show B < W2.heap.size; omega
  have hRl : R < W2.drew.heap.size := by show R < W2.heap.size; omega
  have hXl : X < W2.drew.heap.size := hWX
  have hcs : (Hid (0 = l.length - q) ∧ cap = q) ∨ ¬ cap = q := by
    by_cases h : cap = q
    · exact .inl ⟨HT.out h, h⟩
    · exact .inr h
  clear HT
  rcases hcs with ⟨HT, rfl⟩ | hcq
  all_goals first
    | (have hg := HT; go_region_law (first | (refine step_copy_items (by rfl) _ _ (by rfl) base g cap k cap l z _ _ _ _ _ (by rfl) (by rfl) HD.out HT.out (fun h => (h rfl).elim) HQ.out HK.out hz hown ?_; intro w6 hown6 hgrow6)))
    | (go_region_law (first | (refine step_copy_items (by rfl) _ _ (by rfl) base g cap k q l z _ _ _ _ _ (by rfl) (by rfl) HD.out HE.out (fun _ => rfl) HQ.out HK.out hz hown ?_; intro w6 hown6 hgrow6)))
  all_goals
    have b6 := (hgrow6.block B hBl (fun e => hg3 (Option.some.inj e).symm)).trans hbk
    have x6 := (hgrow6.block X hXl (fun e => hgX (Option.some.inj e).symm)).trans rx
    have r6 := (hgrow6.block R hRl (fun e => hgR (Option.some.inj e).symm)).trans r2
    have hrl : (l.eraseIdx k).length = m := by have := erase_len HK.out; have := HM.out; omega
    have hz6 : (l.eraseIdx k ++ [z])[m]? = some z := by rw [List.getElem?_append_right (by omega), hrl]; simp
    obtain ⟨e0, e1, e2, e3⟩ := ics_at _ _ _ hz6
    have g0 := (hown6.cellAt (m * 4) (by have := HM.out; omega)).trans e0
    have g1 := (hown6.cellAt (m * 4 + 1) (by have := HM.out; omega)).trans e1
    have g2 := (hown6.cellAt (m * 4 + 2) (by have := HM.out; omega)).trans e2
    have g3 := (hown6.cellAt (m * 4 + 3) (by have := HM.out; omega)).trans e3
    have f0 := hown6.frozenAt (m * 4)
    have f1 := hown6.frozenAt (m * 4 + 1)
    have f2 := hown6.frozenAt (m * 4 + 2)
    have f3 := hown6.frozenAt (m * 4 + 3)
    have y0 := cellB b6 0 (.slice (some ⟨g, 0, none⟩) l.length cap) rfl
    have hcl := owns_cleared hown6 HM.out hrl (.int .i64 0) (.int .i64 0) (.int .i64 0) (.string ⟨#[]⟩)
    rw [HM.out] at y0
    clear e0 e1 e2 e3 hz6 hbk rx r2 c0
    go_upto_region 7 with fail
  all_goals
    have b7 := (far4 hg3.symm (m * 4) (m * 4 + 1) (m * 4 + 2) (m * 4 + 3) (.int .i64 0) (.int .i64 0) (.int .i64 0) (.string ⟨#[]⟩)).trans b6
    have x7 := (far4 hgX.symm (m * 4) (m * 4 + 1) (m * 4 + 2) (m * 4 + 3) (.int .i64 0) (.int .i64 0) (.int .i64 0) (.string ⟨#[]⟩)).trans x6
    have r7 := (far4 hgR.symm (m * 4) (m * 4 + 1) (m * 4 + 2) (m * 4 + 3) (.int .i64 0) (.int .i64 0) (.int .i64 0) (.string ⟨#[]⟩)).trans r6
    have hW7g : w6.grownBy ((((w6.setCell ⟨g, m * 4, none⟩ (.int .i64 0)).setCell ⟨g, m * 4 + 1, none⟩ (.int .i64 0)).setCell ⟨g, m * 4 + 2, none⟩ (.int .i64 0)).setCell ⟨g, m * 4 + 3, none⟩ (.string ⟨#[]⟩)) (some g) :=
      ⟨rfl, rfl, rfl, by rw [size4]; exact Nat.le_refl _, fun q _ hq => far4 (fun e => hq (by rw [e])) _ _ _ _ _ _ _ _⟩
    obtain ⟨W7, hW7⟩ : ∃ W, ((((w6.setCell ⟨g, m * 4, none⟩ (.int .i64 0)).setCell ⟨g, m * 4 + 1, none⟩ (.int .i64 0)).setCell ⟨g, m * 4 + 2, none⟩ (.int .i64 0)).setCell ⟨g, m * 4 + 3, none⟩ (.string ⟨#[]⟩)) = W := ⟨_, rfl⟩
    rw [hW7] at b7 x7 r7 hW7g hcl ⊢
    have y7 := cellB b7 0 (.slice (some ⟨g, 0, none⟩) l.length cap) rfl
    rw [HM.out] at y7
    have fB := frozenB b7 0
    have m0 : (0 : Int) ≤ (m : Int) := by omega
    have m1 : (m : Int) ≤ (cap : Int) := by omega
    have m2 : m ≤ cap := by omega
    have hs7 : W2.heap.size ≤ W7.heap.size := Nat.le_trans hgrow6.size hW7g.size
    have hk7 : ∀ q, q < W2.heap.size → q ≠ g → W7.heap[q]? = W2.heap[q]? := fun q h1 h2 => (hW7g.block q (Nat.lt_of_lt_of_le h1 hgrow6.size) (fun e => h2 (Option.some.inj e))).trans (hgrow6.block q h1 (fun e => h2 (Option.some.inj e)))
    have ho7 : W7.os = w.os ∧ W7.tape = w.tape ∧ W7.output = w.output := ⟨hW7g.os.trans (hgrow6.os.trans hB2.os), hW7g.tape.trans (hgrow6.tape.trans hB2.tape), hW7g.output.trans (hgrow6.output.trans hB2.output)⟩
    clear hW7 b6 x6 r6 hown6 hgrow6 hW7g g0 g1 g2 g3 f0 f1 f2 f3 y0 hown hwr q0 q1 hck k1 HD HE hBl hRl hXl
    go_upto_region 8 with fail
  all_goals
    have b8 := setB b7 0 (.slice (some ⟨g, 0, none⟩) m cap)
    have x8 := (set_far (w := W7) hBX.symm 0 (.slice (some ⟨g, 0, none⟩) m cap)).trans x7
    have r8 := (set_far (w := W7) hBR'.symm 0 (.slice (some ⟨g, 0, none⟩) m cap)).trans r7
    have ho8 := owns_kept hcl (w' := W7.setCell ⟨B, 0, none⟩ (.slice (some ⟨g, 0, none⟩) m cap)) (fun q hq => set_far (by rw [← Option.some.inj hq]; exact hg3) _ _)
    have hs8 : W7.heap.size = (W7.setCell ⟨B, 0, none⟩ (.slice (some ⟨g, 0, none⟩) m cap)).heap.size := by simp [World.setCell]
    have hk8 : ∀ q, q ≠ B → (W7.setCell ⟨B, 0, none⟩ (.slice (some ⟨g, 0, none⟩) m cap)).heap[q]? = W7.heap[q]? := fun q hq => set_far hq _ _
    have ho9 : (W7.setCell ⟨B, 0, none⟩ (.slice (some ⟨g, 0, none⟩) m cap)).os = w.os ∧ (W7.setCell ⟨B, 0, none⟩ (.slice (some ⟨g, 0, none⟩) m cap)).tape = w.tape ∧ (W7.setCell ⟨B, 0, none⟩ (.slice (some ⟨g, 0, none⟩) m cap)).output = w.output := ho7
    obtain ⟨W8, hW8⟩ : ∃ W, W7.setCell ⟨B, 0, none⟩ (.slice (some ⟨g, 0, none⟩) m cap) = W := ⟨_, rfl⟩
    rw [hW8] at b8 x8 r8 ho8 hs8 hk8 ho9 ⊢
    have p0 := cellB x8 0 _ rfl
    have p1 := cellB x8 1 _ rfl
    have p2 := cellB x8 2 _ rfl
    have p3 := cellB x8 3 _ rfl
    have q0 := cellB r8 0 _ rfl
    have q1 := cellB r8 1 _ rfl
    have q2 := cellB r8 2 _ rfl
    have q3 := cellB r8 3 _ rfl
    have f0 := frozenB r8 0
    have f1 := frozenB r8 1
    have f2 := frozenB r8 2
    have f3 := frozenB r8 3
    have hr := set4 r8 (.int .i64 a0) (.int .i64 a1) (.int .i64 a2) (.string (bs a3))
    have HZ : Hid (∃ v', BagAt 70 31 base ((((W8.setCell ⟨R, 0, none⟩ (.int .i64 a0)).setCell ⟨R, 1, none⟩ (.int .i64 a1)).setCell ⟨R, 2, none⟩ (.int .i64 a2)).setCell ⟨R, 3, none⟩ (.string (bs a3))) B v' (l.eraseIdx k) d ∧ Moved B (.slice (some ⟨g, 0, none⟩) l.length cap) v' w ((((W8.setCell ⟨R, 0, none⟩ (.int .i64 a0)).setCell ⟨R, 1, none⟩ (.int .i64 a1)).setCell ⟨R, 2, none⟩ (.int .i64 a2)).setCell ⟨R, 3, none⟩ (.string (bs a3)))) := by
      refine ⟨.slice (some ⟨g, 0, none⟩) m cap, ⟨(far4 hBR' _ _ _ _ _ _ _ _).trans b8, owns_kept ho8 (fun q hq => far4 (by rw [← Option.some.inj hq]; exact hgR) _ _ _ _ _ _ _ _), fun e => hg3 (Option.some.inj e), hbase⟩, ⟨ho9.1, ho9.2.1, ho9.2.2, ?_, fun q h1 h2 h3 => ?_, fun q hq => .inl hq⟩⟩
      · rw [size4, ← hs8]; exact Nat.le_trans hB2.size hs7
      · rw [far4 (by omega), hk8 q h2, hk7 q (Nat.lt_of_lt_of_le h1 hB2.size) (fun e => h3 (by rw [e]; rfl))]
        exact hB2.block q h1
    have z0 := cellB hr 0 _ rfl
    have z1 := cellB hr 1 _ rfl
    have z2 := cellB hr 2 _ rfl
    have z3 := cellB hr 3 _ rfl
    clear hW8 hr b7 x7 r7 b8 x8 r8 ho8 hcl hs8 hk8 ho9 ho7 hk7 hs7 y7 fB
    go_wp2
    exact bodyPost_ret (v := .tuple #[.agg #[.int .i64 a0, .int .i64 a1, .int .i64 a2, .string (bs a3)], .int .i64 0]) (by simp [results, Try.f20, go_sem, z0, z1, z2, z3]) rfl ⟨rfl, HZ.out⟩
end Go.Proofs.Ytemmnojcickcpaa
