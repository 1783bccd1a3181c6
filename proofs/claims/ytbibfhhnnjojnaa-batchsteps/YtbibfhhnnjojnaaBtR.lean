/- The document's own pool: Add, walked. -/
import Derived.Test.YtbibfhhnnjojnaaBtQ
namespace Go.Proofs.Ytbibfhhnnjojnaa
open Go.RowKit
attribute [local go_sem ↓] Go.wp_at_zero Go.wp_at_succ

theorem rAdd_no (p : Option Addr) (c n : Int) (t : List UInt8) (h : okB c n = false) (w : World) : Calls Try.prog 10 #[.pointer p, .agg #[.int .i64 c, .int .i64 n, .string (bs t)]] w fun e W' => e = .returned (.tuple #[.bool false, .int .i64 1]) ∧ Below w.heap.size w W' := by
  have hF := rwrong_no h
  have hb0 : Below w.heap.size w (w.alloc (.cells #[.int .i64 c, .int .i64 n, .string (bs t)] 39)) := (Below.refl _ w).alloc (Nat.le_refl _) _
  clear h
  go_enter Try.func10, Try.ntmps10
  go_wp2_with (first | (go_at_call 27; refine (hF _).mono ?_; rintro e w1 ⟨rfl, h9⟩; subst h9))
  exact bodyPost_ret (v := .tuple #[.bool false, .int .i64 1]) (by simp [results, Try.f10, go_sem]) rfl ⟨rfl, hb0⟩
theorem rAdd_long (p : Option Addr) (c n : Int) (t : List UInt8) (h : okB c n = true) (ht : 4000 < t.length) (w : World) : Calls Try.prog 10 #[.pointer p, .agg #[.int .i64 c, .int .i64 n, .string (bs t)]] w fun e W' => e = .returned (.tuple #[.bool false, .int .i64 2]) ∧ Below w.heap.size w W' := by
  have hF := rwrong_ok h
  have hb0 : Below w.heap.size w (w.alloc (.cells #[.int .i64 c, .int .i64 n, .string (bs t)] 39)) := (Below.refl _ w).alloc (Nat.le_refl _) _
  have hsz : (bs t).size = t.length := bs_size t
  have ht2 : (4000 : Int) < (t.length : Int) := by omega
  clear h
  go_enter Try.func10, Try.ntmps10
  go_wp2_with (first | (go_at_call 27; refine (hF _).mono ?_; rintro e w1 ⟨rfl, h9⟩; subst h9))
  exact bodyPost_ret (v := .tuple #[.bool false, .int .i64 2]) (by simp [results, Try.f10, go_sem]) rfl ⟨rfl, hb0⟩
/-- What Add meets at its first look. -/
theorem radd_last {base : Nat} {w : World} {R : Nat} {vl vd : Value} {l F : List Rq} (h : RefAt base w R vl vd l F) (hF : F.length ≤ 1000) (c n : Int) (t : List UInt8) : ∀ W, Below (w.alloc (.cells #[.int .i64 c, .int .i64 n, .string (bs t)] 39)).heap.size (w.alloc (.cells #[.int .i64 c, .int .i64 n, .string (bs t)] 39)) W →
    Calls Try.prog 22 #[.pointer (some ⟨R, 0, none⟩), .int .i64 c] W fun e W' => e = .returned (.int .i64 (lastF F c)) ∧ Below (w.alloc (.cells #[.int .i64 c, .int .i64 n, .string (bs t)] 39)).heap.size (w.alloc (.cells #[.int .i64 c, .int .i64 n, .string (bs t)] 39)) W' ∧ W'.cell? ⟨w.heap.size, 0, none⟩ = some (.int .i64 c) ∧ W'.cell? ⟨w.heap.size, 1, none⟩ = some (.int .i64 n) ∧ W'.cell? ⟨w.heap.size, 2, none⟩ = some (.string (bs t)) := by
  intro W hW
  have hb0 : Below w.heap.size w (w.alloc (.cells #[.int .i64 c, .int .i64 n, .string (bs t)] 39)) := (Below.refl _ w).alloc (Nat.le_refl _) _
  refine (rLast_any ((h.next hb0).next hW) hF c).mono ?_
  rintro e W' ⟨rfl, hb⟩
  have h2 := hW.trans (hb.mono hW.size)
  have r2 := (h2.block w.heap.size (by simp)).trans (heap_alloc_new w (.cells #[.int .i64 c, .int .i64 n, .string (bs t)] 39))
  exact ⟨rfl, h2, cellB r2 0 _ rfl, cellB r2 1 _ rfl, cellB r2 2 _ rfl⟩
set_option maxRecDepth 20000 in
set_option maxHeartbeats 4000000 in
theorem rAdd_old {base : Nat} {w : World} {R : Nat} {vl vd : Value} {l F : List Rq} (h : RefAt base w R vl vd l F) (hF : F.length ≤ 1000) (c n : Int) (t : List UInt8) (hok : okB c n = true) (ht : t.length ≤ 4000) (hD : n ≤ lastF F c) :
    Calls Try.prog 10 #[.pointer (some ⟨R, 0, none⟩), .agg #[.int .i64 c, .int .i64 n, .string (bs t)]] w fun e W' => e = .returned (.tuple #[.bool false, .int .i64 0]) ∧ Below w.heap.size w W' := by
  have hQ := rwrong_ok hok
  have hb0 : Below w.heap.size w (w.alloc (.cells #[.int .i64 c, .int .i64 n, .string (bs t)] 39)) := (Below.refl _ w).alloc (Nat.le_refl _) _
  have hL := radd_last h hF c n t
  have hS := Below.refl (w.alloc (.cells #[.int .i64 c, .int .i64 n, .string (bs t)] 39)).heap.size (w.alloc (.cells #[.int .i64 c, .int .i64 n, .string (bs t)] 39))
  have hsz : (bs t).size = t.length := bs_size t
  have ht2 : (t.length : Int) ≤ 4000 := by omega
  obtain ⟨L, hLe⟩ : ∃ L, lastF F c = L := ⟨_, rfl⟩
  rw [hLe] at hL hD
  clear h hok hLe
  go_enter Try.func10, Try.ntmps10
  go_upto_region 5 with (first
    | (go_at_call 27; refine (hQ _).mono ?_; rintro e w1 ⟨rfl, h9⟩; subst h9))
  go_region_held3 (fun w' => w'.cell? ⟨w.heap.size, 0, none⟩ = some (.int .i64 c) ∧ w'.cell? ⟨w.heap.size, 1, none⟩ = some (.int .i64 n) ∧ w'.cell? ⟨w.heap.size, 2, none⟩ = some (.string (bs t))) (go_keep)
    (first | (go_at_call 22; refine (hL _ (by first | assumption | exact below_drew (by assumption))).mono ?_; rintro e w2 ⟨rfl, hb2, x0, x1, x2⟩))
  all_goals
    go_wp2
    exact bodyPost_ret (v := .tuple #[.bool false, .int .i64 0]) (by simp [results, Try.f10, go_sem]) rfl ⟨rfl, hb0.trans (hb2.mono hb0.size)⟩
theorem any_take {l : List Rq} {k : Nat} {a : Rq} (h : l[k]? = some a) (c : Int) : (l.take (k + 1)).any (ofP c) = ((l.take k).any (ofP c) || ofP c a) := by
  rw [take_snoc h, List.any_append]; simp
set_option maxRecDepth 20000 in
set_option maxHeartbeats 4000000 in
theorem rAdd_there {base : Nat} {w : World} {R : Nat} {vl vd : Value} {l F : List Rq} (h : RefAt base w R vl vd l F) (hl : l.length ≤ 1000) (hF : F.length ≤ 1000) (c n : Int) (t : List UInt8) (hok : okB c n = true) (ht : t.length ≤ 4000) (hD : lastF F c < n) (i : Nat) (a : Rq) (hi : l.findIdx? (ofP c) = some i) (ha : l[i]? = some a) (hna : n ≤ a.2.1) :
    Calls Try.prog 10 #[.pointer (some ⟨R, 0, none⟩), .agg #[.int .i64 c, .int .i64 n, .string (bs t)]] w fun e W' => e = .returned (.tuple #[.bool false, .int .i64 0]) ∧ Below w.heap.size w W' := by
  have hQ := rwrong_ok hok
  have hb0 : Below w.heap.size w (w.alloc (.cells #[.int .i64 c, .int .i64 n, .string (bs t)] 39)) := (Below.refl _ w).alloc (Nat.le_refl _) _
  have hL := radd_last h hF c n t
  have hS := Below.refl (w.alloc (.cells #[.int .i64 c, .int .i64 n, .string (bs t)] 39)).heap.size (w.alloc (.cells #[.int .i64 c, .int .i64 n, .string (bs t)] 39))
  have hsz : (bs t).size = t.length := bs_size t
  have ht2 : (t.length : Int) ≤ 4000 := by omega
  obtain ⟨L, hLe⟩ : ∃ L, lastF F c = L := ⟨_, rfl⟩
  rw [hLe] at hL hD
  obtain ⟨la, lc, rfl⟩ := owns_slice h.own
  have HH : Hid (_ ∧ _ ∧ _) := ⟨h, hi, ha⟩
  have rBx := heap_alloc_new w (.cells #[.int .i64 c, .int .i64 n, .string (bs t)] 39)
  have HR : Hid (_) := rBx
  clear h hok hLe hi ha rBx
  go_enter Try.func10, Try.ntmps10
  go_upto_region 5 with (first
    | (go_at_call 27; refine (hQ _).mono ?_; rintro e w1 ⟨rfl, h9⟩; subst h9))
  go_region_held3 (fun w' => w'.cell? ⟨w.heap.size, 0, none⟩ = some (.int .i64 c) ∧ w'.cell? ⟨w.heap.size, 1, none⟩ = some (.int .i64 n) ∧ w'.cell? ⟨w.heap.size, 2, none⟩ = some (.string (bs t))) (go_keep)
    (first | (go_at_call 22; refine (hL _ (by first | assumption | exact below_drew (by assumption))).mono ?_; rintro e w2 ⟨rfl, hb2, x0, x1, x2⟩))
  all_goals
    have h2 := (HH.out.1.next hb0).next hb2
    have c0 := cellB h2.blk 0 (.slice la l.length lc) rfl
    have r2 := (hb2.block w.heap.size (by simp)).trans HR.out
    have HX : Hid (_ ∧ _) := ⟨h2, r2⟩
    clear h2 r2 HR
    go_wp2_with fail
    go_loopg [6, 30] l.length (fun gk b p wr => ∃ k : Nat, k + gk = l.length ∧ k ≤ i ∧ p = .int .i64 k ∧ b = .bool false ∧ Below w2.heap.size w2 wr)
    case atStart => exact ⟨0, by omega, by omega, rfl, rfl, Below.refl _ _⟩
    case round =>
      obtain ⟨k, hk, hki, rfl, rfl, hB⟩ := hrel
      have hil := idx_lt HH.out.2.1
      obtain ⟨⟨c5, n5, t5⟩, hx⟩ : ∃ a, l[k]? = some a := ⟨_, List.getElem?_eq_getElem (by omega)⟩
      obtain ⟨gb, gc, hgv, hg1, hg2, y0, y1, y2⟩ := row_at (owns_next HX.out.1.own hB) hx
      injection hgv with f1 _ f2
      subst f1 f2
      simp only at y0 y1 y2
      have q0 : (0 : Int) ≤ (k : Int) := by omega
      have q1 : (k : Int) < (l.length : Int) := by omega
      have rr := (hB.block w.heap.size (Array.getElem?_eq_some_iff.1 HX.out.2).1).trans HX.out.2
      have hba : Below wr.heap.size wr (wr.alloc (.cells #[.int .i64 c5, .int .i64 n5, .string (bs t5)] 39)) := (Below.refl _ _).alloc (Nat.le_refl _) _
      have rN := heap_alloc_new wr (.cells #[.int .i64 c5, .int .i64 n5, .string (bs t5)] 39)
      have rr1 := (hba.block w.heap.size (Array.getElem?_eq_some_iff.1 rr).1).trans rr
      have hB1 := hB.trans (hba.mono hB.size)
      have HBN : Hid (_ ∧ _ ∧ _) := ⟨rN, rr1, hB1⟩
      have hst := List.findIdx?_eq_some_iff_getElem.1 HH.out.2.1
      have hcs : (k = i ∧ (c5, n5, t5) = a) ∨ (k < i ∧ (c5 == c) = false) := by
        by_cases e : k = i
        · left
          refine ⟨e, ?_⟩
          rw [e, HH.out.2.2] at hx
          injection hx with hx
          exact hx.symm
        · right
          refine ⟨by omega, ?_⟩
          obtain ⟨hkl, ek⟩ := List.getElem?_eq_some_iff.1 hx
          have := hst.2.2 k (by omega)
          rw [ek] at this
          simpa [ofP] using this
      have hoa : a.1 = c := by
        obtain ⟨h1, h2, _⟩ := hst
        obtain ⟨hkl, ek⟩ := List.getElem?_eq_some_iff.1 HH.out.2.2
        rw [ek] at h2
        exact ofP_c h2
      clear rN rr1 hB1 hba hx hg1 hst rr
      go_upto_region 11 with fail
      obtain ⟨rN, rr1, hB1⟩ := HBN.out
      obtain ⟨W1, hW1⟩ : ∃ W, wr.alloc (.cells #[.int .i64 c5, .int .i64 n5, .string (bs t5)] 39) = W := ⟨_, rfl⟩
      obtain ⟨Y, hY⟩ : ∃ Y, wr.heap.size = Y := ⟨_, rfl⟩
      rw [hW1] at rN rr1 hB1 ⊢
      rw [hY] at rN ⊢
      have z0 := cellB rN 0 (.int .i64 c5) rfl
      have z1 := cellB rN 1 (.int .i64 n5) rfl
      have v0 := cellB rr1 0 (.int .i64 c) rfl
      have v1 := cellB rr1 1 (.int .i64 n) rfl
      clear hW1 hY rN rr1 HBN y0 y1 y2
      rcases hcs with ⟨e1, e2⟩ | ⟨e1, e2⟩
      · have hc5 : c5 = c := by rw [← hoa, ← e2]
        have hn5 : n ≤ n5 := by rw [← e2] at hna; exact hna
        subst hc5
        clear e1 e2 hoa hna
        go_wp2
        exact bodyPost_ret (v := .tuple #[.bool false, .int .i64 0]) (by simp [results, Try.f10, go_sem]) rfl ⟨rfl, hb0.trans ((hb2.trans (hB1.mono hb2.size)).mono hb0.size)⟩
      · clear hoa hna
        go_wp2
        go_roundg (l.length - (k + 1))
        case measure => omega
        case rel => exact ⟨k + 1, by omega, by omega, by go_num, rfl, hB1⟩
end Go.Proofs.Ytbibfhhnnjojnaa
