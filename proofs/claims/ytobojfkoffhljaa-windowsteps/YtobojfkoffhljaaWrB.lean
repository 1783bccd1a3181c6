/- The document's own window: above, Best, walked. -/
import Derived.Test.YtobojfkoffhljaaWrA
namespace Go.Proofs.Ytobojfkoffhljaa
open Go.RowKit
attribute [local go_sem ↓] Go.wp_at_zero Go.wp_at_succ

theorem take_snoc {α : Type} {l : List α} {k : Nat} {a : α} (h : l[k]? = some a) : l.take (k + 1) = l.take k ++ [a] := by
  rw [List.take_add_one, h]; rfl
theorem Try.info42 : (Try.prog.info? 42).map (fun i => (i.zero, i.size, i.bytes)) = some (some (.agg #[.int .i64 0, .int .i64 0, .string ⟨#[]⟩]), 3, 32) := by kernel_rfl
/-- Those above a number, of a view or a later one. -/
def abP (n view : Int) (a : Rq) : Bool := decide (n < a.2.1) && decide (view ≤ a.1)
theorem abL_snoc (n view : Int) (l : List Rq) (a : Rq) : (l ++ [a]).filter (abP n view) = l.filter (abP n view) ++ if abP n view a = true then [a] else [] := by
  rw [List.filter_append]
  by_cases h : abP n view a = true <;> simp [h]
set_option maxRecDepth 20000 in
set_option maxHeartbeats 4000000 in
theorem above_any {base : Nat} {w : World} {v : Value} {l : List Rq} (h : w.ownsRow base 42 3 v l.length (rcs l)) (hl : l.length ≤ 1000) (n view : Int) : Calls Try.prog 41 #[v, .int .i64 n, .int .i64 view] w fun e W' => ∃ v', e = .returned v' ∧ W'.ownsRow w.heap.size 42 3 v' (l.filter (abP n view)).length (rcs (l.filter (abP n view))) ∧ Below w.heap.size w W' := by
  obtain ⟨la, lc, rfl⟩ := owns_slice h
  obtain ⟨i9, hi9, hz0, hz1, hz2⟩ := info_parts Try.info42
  go_enter Try.func41, Try.ntmps41
  go_wp2_with fail
  go_loopg [7, 12] l.length (fun gk p i wr => ∃ k : Nat, k + gk = l.length ∧ i = .int .i64 k ∧ wr.ownsRow w.heap.size 42 3 p ((l.take k).filter (abP n view)).length (rcs ((l.take k).filter (abP n view))) ∧ Below w.heap.size w wr)
  case atStart => exact ⟨0, by omega, rfl, World.ownsRow_nil _ _ _ _, Below.refl _ _⟩
  case round =>
    obtain ⟨k, hk, rfl, hown, hB⟩ := hrel
    by_cases hlt : k < l.length
    · obtain ⟨⟨c5, n5, t5⟩, hx⟩ : ∃ a, l[k]? = some a := ⟨_, List.getElem?_eq_getElem hlt⟩
      obtain ⟨gb, gc, hgv, hg1, hg2, y0, y1, y2⟩ := row_at (owns_next h hB) hx
      injection hgv with f1 _ f2
      subst f1 f2
      simp only at y0 y1 y2
      have q0 : (0 : Int) ≤ (k : Int) := by omega
      have q1 : (k : Int) < (l.length : Int) := by omega
      have HS : Hid ((l.take (k + 1)).filter (abP n view) = (l.take k).filter (abP n view) ++ if abP n view (c5, n5, t5) = true then [(c5, n5, t5)] else []) := by show _ = _; rw [take_snoc hx, abL_snoc]
      have hle : ((l.take k).filter (abP n view)).length ≤ (l.take k).length := List.length_filter_le _ _
      rw [List.length_take] at hle
      obtain ⟨P, hP⟩ : ∃ P, (l.take k).filter (abP n view) = P := ⟨_, rfl⟩
      rw [hP] at HS hown hle
      obtain ⟨pa, pc, rfl⟩ := owns_slice hown
      have hba : Below wr.heap.size wr (wr.alloc (.cells #[.int .i64 c5, .int .i64 n5, .string (bs t5)] 42)) := (Below.refl _ _).alloc (Nat.le_refl _) _
      have rN := heap_alloc_new wr (.cells #[.int .i64 c5, .int .i64 n5, .string (bs t5)] 42)
      have hown1 := owns_next hown hba
      have hB1 := hB.trans (hba.mono hB.size)
      have HBN : Hid (_ ∧ _ ∧ _) := ⟨rN, hown1, hB1⟩
      clear hx hP hg1 rN hown1 hB1 hba hown h
      go_upto_region 5 with fail
      obtain ⟨rN, hown, hB1⟩ := HBN.out
      clear HBN
      obtain ⟨W1, hW1⟩ : ∃ W, wr.alloc (.cells #[.int .i64 c5, .int .i64 n5, .string (bs t5)] 42) = W := ⟨_, rfl⟩
      rw [hW1] at rN hown hB1 ⊢
      have z0 := cellB rN 0 (.int .i64 c5) rfl
      have z1 := cellB rN 1 (.int .i64 n5) rfl
      have z2 := cellB rN 2 (.string (bs t5)) rfl
      clear hW1 rN y0 y1 y2 hB
      have hcc : (n < n5 ∧ view ≤ c5 ∧ abP n view (c5, n5, t5) = true) ∨ (n5 ≤ n ∧ abP n view (c5, n5, t5) = false) ∨ (n < n5 ∧ c5 < view ∧ abP n view (c5, n5, t5) = false) := by
        by_cases e1 : n < n5
        · by_cases e2 : view ≤ c5
          · left; exact ⟨e1, e2, by simp [abP, e1, e2]⟩
          · right; right; exact ⟨e1, by omega, by simp [abP, e2]⟩
        · right; left; exact ⟨by omega, by simp [abP, e1]⟩
      rcases hcc with ⟨e1, e2, e3⟩ | ⟨e1, e3⟩ | ⟨e1, e2, e3⟩
      · have HS2 : Hid ((l.take (k + 1)).filter (abP n view) = P ++ [(c5, n5, t5)]) := by show _ = _; rw [HS.out, if_pos e3]
        have hml : P.length + 1 ≤ maxLen := by unfold maxLen; omega
        have hkb : (P.length + 1) * 32 ≤ 140737488355328 := by omega
        clear e3 HS
        go_wp2_with (first
          | (at_builtin; refine wpList_append_own _ rfl _ _ 30 rfl w.heap.size 42 i9 (.agg #[.int .i64 0, .int .i64 0, .string ⟨#[]⟩]) 3 32 Try.underlying30 hi9 hz0 hz1 hz2 rfl (by decide) (.slice pa P.length pc) P.length (rcs P) rfl (hown.alloc _) _ 1 1 [.int .i64 c5, .int .i64 n5, .string (bs t5)] rfl rfl (World.news_of_block (heap_alloc_new _ _)) (by simp [Value.oneCell']) hml hkb (by have := hB1.size; simp; omega) ?_; intro v' w' h1 h2 _))
        go_roundg (l.length - (k + 1))
        case measure => omega
        case rel => exact ⟨k + 1, by omega, by go_num, by rw [HS2.out, rcs_append, List.length_append]; exact h1, (hB1.alloc hB1.size _).grown h2 (by have := hB1.size; simp; omega) (fun q hq => (hown.lt q hq).1)⟩
      · have HS2 : Hid ((l.take (k + 1)).filter (abP n view) = P) := by show _ = _; rw [HS.out, if_neg (by rw [e3]; decide), List.append_nil]
        clear e3 HS
        go_wp2
        go_roundg (l.length - (k + 1))
        case measure => omega
        case rel => exact ⟨k + 1, by omega, by go_num, by rw [HS2.out]; exact hown, hB1⟩
      · have HS2 : Hid ((l.take (k + 1)).filter (abP n view) = P) := by show _ = _; rw [HS.out, if_neg (by rw [e3]; decide), List.append_nil]
        clear e3 HS
        go_wp2
        go_roundg (l.length - (k + 1))
        case measure => omega
        case rel => exact ⟨k + 1, by omega, by go_num, by rw [HS2.out]; exact hown, hB1⟩
    · have hkl : k = l.length := by omega
      clear hk
      subst hkl
      rw [List.take_length] at hown
      go_wp2
      go_ret
      exact ⟨_, rfl, hown, hB⟩
/-- What the document's best says of a number. -/
def rbF (F : List Rq) (n : Int) : Int × List UInt8 × Int × Bool := match F.find? (fun a => a.2.1 == n) with | some a => (a.1, a.2.2, a.2.1, true) | none => (0, [], 0, false)
set_option maxRecDepth 20000 in
set_option maxHeartbeats 4000000 in
theorem rBest_any {base : Nat} {w : World} {R : Nat} {low : Int} {vl vd : Value} {l F : List Rq} (h : RefAt base w R low vl vd l F) (hF : F.length ≤ 1000) (n : Int) : Calls Try.prog 13 #[.pointer (some ⟨R, 0, none⟩), .int .i64 n] w fun e W' => e = .returned (.tuple #[.agg #[.int .i64 (rbF F n).1, .int .i64 (rbF F n).2.2.1, .string (bs (rbF F n).2.1)], .bool (rbF F n).2.2.2]) ∧ Below w.heap.size w W' := by
  obtain ⟨da, dc, rfl⟩ := owns_slice h.dn
  have hb0 := (Below.refl w.heap.size w).alloc (Nat.le_refl _) (.cells #[.int .i64 0, .int .i64 0, .string ⟨#[]⟩] 42)
  have c1 := cellB (h.next hb0).blk 2 (.slice da F.length dc) rfl
  have r0 := heap_alloc_new w (.cells #[.int .i64 0, .int .i64 0, .string ⟨#[]⟩] 42)
  have HX : Hid (_ ∧ _) := ⟨hb0, r0⟩
  have HH : Hid (_) := h
  clear h hb0 r0
  go_enter Try.func13, Try.ntmps13
  go_wp2_with fail
  go_loopg [13] F.length (fun gk i wr => ∃ k : Nat, k + gk = F.length ∧ i = .int .i64 k ∧ Hid (∀ a ∈ F.take k, (a.2.1 == n) = false) ∧ Below w.heap.size w wr ∧ wr.heap[w.heap.size]? = some (.cells #[.int .i64 0, .int .i64 0, .string ⟨#[]⟩] 42))
  case atStart => exact ⟨0, by omega, rfl, by show ∀ a ∈ _, _; simp, HX.out.1, HX.out.2⟩
  case round =>
    obtain ⟨k, hk, rfl, hno, hB, rr⟩ := hrel
    have s0 := cellB rr 0 _ rfl
    have s1 := cellB rr 1 _ rfl
    have s2 := cellB rr 2 _ rfl
    have t0 := frozenB rr 0
    have t1 := frozenB rr 1
    have t2 := frozenB rr 2
    by_cases hlt : k < F.length
    · obtain ⟨⟨c5, n5, t5⟩, hx⟩ : ∃ a, F[k]? = some a := ⟨_, List.getElem?_eq_getElem hlt⟩
      obtain ⟨gb, gc, hgv, hg1, hg2, y0, y1, y2⟩ := row_at (owns_next HH.out.dn hB) hx
      injection hgv with f1 _ f2
      subst f1 f2
      simp only at y0 y1 y2
      have q0 : (0 : Int) ≤ (k : Int) := by omega
      have q1 : (k : Int) < (F.length : Int) := by omega
      have hba := (Below.refl wr.heap.size wr).alloc (Nat.le_refl _) (.cells #[.int .i64 c5, .int .i64 n5, .string (bs t5)] 42)
      have rr1 := (hba.block w.heap.size (Array.getElem?_eq_some_iff.1 rr).1).trans rr
      have rN := heap_alloc_new wr (.cells #[.int .i64 c5, .int .i64 n5, .string (bs t5)] 42)
      have hB1 := hB.trans (hba.mono hB.size)
      have hRw := (Array.getElem?_eq_some_iff.1 rr).1
      have HBN : Hid (_ ∧ _ ∧ _) := ⟨rN, rr1, hB1⟩
      by_cases e1 : n5 = n
      · have hfn : Hid (rbF F n = (c5, t5, n5, true)) := by
          have : F.find? (fun a => a.2.1 == n) = some (c5, n5, t5) := by
            rw [← List.take_append_drop k F, List.find?_append]
            have h1 : (F.take k).find? (fun a => a.2.1 == n) = none := List.find?_eq_none.2 (fun a ha => by rw [hno.out a ha]; decide)
            rw [h1, List.drop_eq_getElem_cons hlt]
            have h2 : F[k] = (c5, n5, t5) := by rw [List.getElem?_eq_getElem hlt] at hx; exact Option.some.inj hx
            rw [h2]
            simp [e1]
          show _ = _
          unfold rbF
          rw [this]
        have hb : (n5 == n) = true := by simp [e1]
        clear hx hg1 rN rr1 hB1 hba hno e1 rr
        go_upto_region 4 with fail
        obtain ⟨rN, rr1, hB1⟩ := HBN.out
        clear HBN
        obtain ⟨W1, hW1⟩ : ∃ W, wr.alloc (.cells #[.int .i64 c5, .int .i64 n5, .string (bs t5)] 42) = W := ⟨_, rfl⟩
        obtain ⟨Y, hY⟩ : ∃ Y, wr.heap.size = Y := ⟨_, rfl⟩
        rw [hW1] at rN rr1 hB1 ⊢
        rw [hY] at rN ⊢
        have z0 := cellB rN 0 (.int .i64 c5) rfl
        have z1 := cellB rN 1 (.int .i64 n5) rfl
        have z2 := cellB rN 2 (.string (bs t5)) rfl
        have m0 := cellB rr1 0 _ rfl
        have m1 := cellB rr1 1 _ rfl
        have m2 := cellB rr1 2 _ rfl
        have g0 := frozenB rr1 0
        have g1 := frozenB rr1 1
        have g2 := frozenB rr1 2
        have HR : Hid (_ ∧ _) := ⟨rr1, hB1⟩
        clear hW1 rN y0 y1 y2 hB rr1 hB1 s0 s1 s2 t0 t1 t2 hY
        go_wp2
        obtain ⟨rr1, hB1⟩ := HR.out
        have hr := put3_blk rr1 (.int .i64 c5) (.int .i64 n5) (.string (bs t5))
        have x1 := cellB hr 0 _ rfl
        have x2 := cellB hr 1 _ rfl
        have x3 := cellB hr 2 _ rfl
        unfold put3 at x1 x2 x3
        exact bodyPost_ret (v := .tuple #[.agg #[.int .i64 c5, .int .i64 n5, .string (bs t5)], .bool true]) (by simp [results, Try.f13, go_sem, x1, x2, x3]) rfl ⟨by rw [hfn.out], put3_below hB1 (Nat.le_refl _) _ _ _⟩
      · have hb : (n5 == n) = false := by simp [e1]
        have hno2 : Hid (∀ a ∈ F.take (k + 1), (a.2.1 == n) = false) := by
          show ∀ a ∈ _, _
          rw [take_snoc hx]
          intro a ha
          rcases List.mem_append.1 ha with h9 | h9
          · exact hno.out a h9
          · simp at h9; subst h9; exact hb
        clear hx hg1 rN rr1 hB1 hba hno e1 rr
        go_wp2
        go_roundg (F.length - (k + 1))
        case measure => omega
        case rel => exact ⟨k + 1, by omega, by go_num, hno2, HBN.out.2.2, HBN.out.2.1⟩
    · have hkF : k = F.length := by omega
      clear hk
      subst hkF
      have hfn : Hid (rbF F n = (0, [], 0, false)) := by
        have hn := hno.out
        rw [List.take_length] at hn
        show _ = _
        unfold rbF
        rw [List.find?_eq_none.2 (fun a ha => by rw [hn a ha]; decide)]
      have HR : Hid (_ ∧ _) := ⟨rr, hB⟩
      clear hno rr hB
      go_wp2
      obtain ⟨rr1, hB1⟩ := HR.out
      have hr := put3_blk rr1 (.int .i64 0) (.int .i64 0) (.string ⟨#[]⟩)
      have x1 := cellB hr 0 _ rfl
      have x2 := cellB hr 1 _ rfl
      have x3 := cellB hr 2 _ rfl
      unfold put3 at x1 x2 x3
      exact bodyPost_ret (v := .tuple #[.agg #[.int .i64 0, .int .i64 0, .string ⟨#[]⟩], .bool false]) (by simp [results, Try.f13, go_sem, x1, x2, x3]) rfl ⟨by rw [hfn.out]; rfl, put3_below hB1 (Nat.le_refl _) _ _ _⟩
end Go.Proofs.Ytobojfkoffhljaa
