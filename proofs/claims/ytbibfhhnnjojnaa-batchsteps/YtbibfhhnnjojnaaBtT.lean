/- The document's own pool: Add, where nothing of it is in the way, walked. -/
import Derived.Test.YtbibfhhnnjojnaaBtR
namespace Go.Proofs.Ytbibfhhnnjojnaa
open Go.RowKit
attribute [local go_sem ↓] Go.wp_at_zero Go.wp_at_succ

set_option maxRecDepth 20000 in
set_option maxHeartbeats 4000000 in
theorem rAdd_full {base : Nat} {w : World} {R : Nat} {vl vd : Value} {l F : List Rq} (h : RefAt base w R vl vd l F) (hl : l.length ≤ 1000) (hF : F.length ≤ 1000) (c n : Int) (t : List UInt8) (hok : okB c n = true) (ht : t.length ≤ 4000) (hD : lastF F c < n) (hlt1 : ∀ a ∈ l, ofP c a = true → a.2.1 < n) (hth : l.any (ofP c) = false) (h24 : 24 ≤ l.length) :
    Calls Try.prog 10 #[.pointer (some ⟨R, 0, none⟩), .agg #[.int .i64 c, .int .i64 n, .string (bs t)]] w fun e W' => e = .returned (.tuple #[.bool false, .int .i64 5]) ∧ Below w.heap.size w W' := by
  have hQ := rwrong_ok hok
  have hb0 : Below w.heap.size w (w.alloc (.cells #[.int .i64 c, .int .i64 n, .string (bs t)] 39)) := (Below.refl _ w).alloc (Nat.le_refl _) _
  have hL := radd_last h hF c n t
  have hS := Below.refl (w.alloc (.cells #[.int .i64 c, .int .i64 n, .string (bs t)] 39)).heap.size (w.alloc (.cells #[.int .i64 c, .int .i64 n, .string (bs t)] 39))
  have hsz : (bs t).size = t.length := bs_size t
  have ht2 : (t.length : Int) ≤ 4000 := by omega
  obtain ⟨L, hLe⟩ : ∃ L, lastF F c = L := ⟨_, rfl⟩
  rw [hLe] at hL hD
  obtain ⟨la, lc, rfl⟩ := owns_slice h.own
  have HH : Hid (_) := h
  have H1 : Hid (∀ a ∈ l, ofP c a = true → a.2.1 < n) := hlt1
  have rBx := heap_alloc_new w (.cells #[.int .i64 c, .int .i64 n, .string (bs t)] 39)
  have HR : Hid (_) := rBx
  have h242 : (24 : Int) ≤ (l.length : Int) := by omega
  clear h hok hLe rBx hlt1
  go_enter Try.func10, Try.ntmps10
  go_upto_region 5 with (first
    | (go_at_call 27; refine (hQ _).mono ?_; rintro e w1 ⟨rfl, h9⟩; subst h9))
  go_region_held3 (fun w' => w'.cell? ⟨w.heap.size, 0, none⟩ = some (.int .i64 c) ∧ w'.cell? ⟨w.heap.size, 1, none⟩ = some (.int .i64 n) ∧ w'.cell? ⟨w.heap.size, 2, none⟩ = some (.string (bs t))) (go_keep)
    (first | (go_at_call 22; refine (hL _ (by first | assumption | exact below_drew (by assumption))).mono ?_; rintro e w2 ⟨rfl, hb2, x0, x1, x2⟩))
  all_goals
    have h2 := (HH.out.next hb0).next hb2
    have c0 := cellB h2.blk 0 (.slice la l.length lc) rfl
    have r2 := (hb2.block w.heap.size (by simp)).trans HR.out
    have HX : Hid (_ ∧ _) := ⟨h2, r2⟩
    clear h2 r2 HR
    go_wp2_with fail
    go_loopg [6, 30] l.length (fun gk b p wr => ∃ k : Nat, k + gk = l.length ∧ p = .int .i64 k ∧ b = .bool ((l.take k).any (ofP c)) ∧ Below w2.heap.size w2 wr)
    case atStart => exact ⟨0, by omega, rfl, by simp, Below.refl _ _⟩
    case round =>
      obtain ⟨k, hk, rfl, rfl, hB⟩ := hrel
      have rr := (hB.block w.heap.size (Array.getElem?_eq_some_iff.1 HX.out.2).1).trans HX.out.2
      by_cases hlt : k < l.length
      · obtain ⟨⟨c5, n5, t5⟩, hx⟩ : ∃ a, l[k]? = some a := ⟨_, List.getElem?_eq_getElem (by omega)⟩
        obtain ⟨gb, gc, hgv, hg1, hg2, y0, y1, y2⟩ := row_at (owns_next HX.out.1.own hB) hx
        injection hgv with f1 _ f2
        subst f1 f2
        simp only at y0 y1 y2
        have q0 : (0 : Int) ≤ (k : Int) := by omega
        have q1 : (k : Int) < (l.length : Int) := by omega
        have hba : Below wr.heap.size wr (wr.alloc (.cells #[.int .i64 c5, .int .i64 n5, .string (bs t5)] 39)) := (Below.refl _ _).alloc (Nat.le_refl _) _
        have rN := heap_alloc_new wr (.cells #[.int .i64 c5, .int .i64 n5, .string (bs t5)] 39)
        have rr1 := (hba.block w.heap.size (Array.getElem?_eq_some_iff.1 rr).1).trans rr
        have hB1 := hB.trans (hba.mono hB.size)
        have HBN : Hid (_ ∧ _ ∧ _) := ⟨rN, rr1, hB1⟩
        have HS : Hid ((l.take (k + 1)).any (ofP c) = ((l.take k).any (ofP c) || ofP c (c5, n5, t5))) := any_take hx c
        have hcs : (c5 = c ∧ n5 < n ∧ ofP c (c5, n5, t5) = true) ∨ ((c5 == c) = false ∧ ofP c (c5, n5, t5) = false) := by
          by_cases e : c5 = c
          · left
            have e3 : ofP c (c5, n5, t5) = true := by simp [ofP, e]
            exact ⟨e, H1.out _ (List.mem_of_getElem? hx) e3, e3⟩
          · right; exact ⟨by simp [e], by simp [ofP, e]⟩
        obtain ⟨I, hI⟩ : ∃ I, (l.take k).any (ofP c) = I := ⟨_, rfl⟩
        rw [hI] at HS ⊢
        clear rN rr1 hB1 hba hx hg1 rr hI
        go_upto_region 11 with fail
        obtain ⟨rN, rr1, hB1⟩ := HBN.out
        obtain ⟨W1, hW1⟩ : ∃ W, wr.alloc (.cells #[.int .i64 c5, .int .i64 n5, .string (bs t5)] 39) = W := ⟨_, rfl⟩
        obtain ⟨Y, hY⟩ : ∃ Y, wr.heap.size = Y := ⟨_, rfl⟩
        rw [hW1] at rN rr1 hB1 ⊢
        rw [hY] at rN ⊢
        have z0 := cellB rN 0 (.int .i64 c5) rfl
        have z1 := cellB rN 1 (.int .i64 n5) rfl
        have v0 := cellB rr1 0 (.int .i64 c) rfl
        have v1 := cellB rr1 1 (.int .i64 n) rfl
        clear hW1 hY rN rr1 HBN y0 y1 y2
        rcases hcs with ⟨e1, e2, e3⟩ | ⟨e1, e3⟩
        · have HS2 : Hid ((l.take (k + 1)).any (ofP c) = true) := by show _ = _; rw [HS.out, e3]; simp
          subst e1
          clear e3 HS
          go_wp2
          go_roundg (l.length - (k + 1))
          case measure => omega
          case rel => exact ⟨k + 1, by omega, by go_num, by rw [HS2.out], hB1⟩
        · have HS2 : Hid ((l.take (k + 1)).any (ofP c) = I) := by show _ = _; rw [HS.out, e3]; simp
          clear e3 HS
          go_wp2
          go_roundg (l.length - (k + 1))
          case measure => omega
          case rel => exact ⟨k + 1, by omega, by go_num, by rw [HS2.out], hB1⟩
      · have hkl : k = l.length := by omega
        subst hkl
        rw [List.take_length, hth]
        have h3 := HX.out.1.next hB
        have d0 := cellB h3.blk 0 (.slice la l.length lc) rfl
        have v0 := cellB rr 0 (.int .i64 c) rfl
        have v1 := cellB rr 1 (.int .i64 n) rfl
        clear h3 rr HX
        go_wp2
        exact bodyPost_ret (v := .tuple #[.bool false, .int .i64 5]) (by simp [results, Try.f10, go_sem]) rfl ⟨rfl, hb0.trans ((hb2.trans (hB.mono hb2.size)).mono hb0.size)⟩
set_option maxRecDepth 20000 in
set_option maxHeartbeats 4000000 in
theorem rAdd_ok {base : Nat} {w : World} {R : Nat} {vl vd : Value} {l F : List Rq} (h : RefAt base w R vl vd l F) (hl : l.length ≤ 1000) (hF : F.length ≤ 1000) (c n : Int) (t : List UInt8) (hok : okB c n = true) (ht : t.length ≤ 4000) (hD : lastF F c < n) (hlt1 : ∀ a ∈ l, ofP c a = true → a.2.1 < n) (th : Bool) (hth : l.any (ofP c) = th) (hcase : th = true ∨ (th = false ∧ l.length < 24)) :
    Calls Try.prog 10 #[.pointer (some ⟨R, 0, none⟩), .agg #[.int .i64 c, .int .i64 n, .string (bs t)]] w fun e W' => e = .returned (.tuple #[.bool true, .int .i64 0]) ∧ ∃ vl', RefAt base W' R vl' vd (dropL c n l ++ [(c, n, t)]) F ∧ Mvd (fpR R vl vd) (fpR R vl' vd) w W' := by
  obtain ⟨i9, hi9, hz0, hz1, hz2⟩ := info_parts Try.info39
  have hL3 := dropL_le c n l
  have hWl := h.lt
  have HDr : Hid (∀ W, Below w.heap.size w W → RefAt base W R vl vd l F → W.heap[w.heap.size]? = some (.cells #[.int .i64 c, .int .i64 n, .string (bs t)] 39) → Calls Try.prog 28 #[.pointer (some ⟨R, 0, none⟩), .int .i64 c, .int .i64 n] W fun e W' => e = .returned (.bool (decide ((dropL c n l).length < l.length))) ∧ ∃ vl', RefAt base W' R vl' vd (dropL c n l) F ∧ Mvd (fpR R vl vd) (fpR R vl' vd) w W' ∧ W'.heap[w.heap.size]? = some (.cells #[.int .i64 c, .int .i64 n, .string (bs t)] 39)) := by
    intro W hW hR r
    refine (rdrop_any hR hl c n).mono ?_
    rintro e W' ⟨rfl, vl', h', hm⟩
    refine ⟨rfl, vl', h', (Mvd.of_below hW _).trans hm, (hm.block w.heap.size (Array.getElem?_eq_some_iff.1 r).1 (fun e => ?_)).trans r⟩
    have := (h.fp e).2
    omega
  obtain ⟨l3, hl3⟩ : ∃ l3, dropL c n l = l3 := ⟨_, rfl⟩
  rw [hl3] at HDr hL3 ⊢
  obtain ⟨bb, hbb⟩ : ∃ b, decide (l3.length < l.length) = b := ⟨_, rfl⟩
  rw [hbb] at HDr
  clear hl3 hbb
  have hQ := rwrong_ok hok
  have hb0 : Below w.heap.size w (w.alloc (.cells #[.int .i64 c, .int .i64 n, .string (bs t)] 39)) := (Below.refl _ w).alloc (Nat.le_refl _) _
  have hL := radd_last h hF c n t
  have hS := Below.refl (w.alloc (.cells #[.int .i64 c, .int .i64 n, .string (bs t)] 39)).heap.size (w.alloc (.cells #[.int .i64 c, .int .i64 n, .string (bs t)] 39))
  have hsz : (bs t).size = t.length := bs_size t
  have ht2 : (t.length : Int) ≤ 4000 := by omega
  obtain ⟨L, hLe⟩ : ∃ L, lastF F c = L := ⟨_, rfl⟩
  rw [hLe] at hL hD
  obtain ⟨la, lc, rfl⟩ := owns_slice h.own
  have HH : Hid (_) := h
  have H1 : Hid (∀ a ∈ l, ofP c a = true → a.2.1 < n) := hlt1
  have rBx := heap_alloc_new w (.cells #[.int .i64 c, .int .i64 n, .string (bs t)] 39)
  have HR : Hid (_) := rBx
  clear h hok hLe rBx hlt1
  go_enter Try.func10, Try.ntmps10
  go_upto_region 5 with (first
    | (go_at_call 27; refine (hQ _).mono ?_; rintro e w1 ⟨rfl, h9⟩; subst h9))
  go_region_held3 (fun w' => w'.cell? ⟨w.heap.size, 0, none⟩ = some (.int .i64 c) ∧ w'.cell? ⟨w.heap.size, 1, none⟩ = some (.int .i64 n) ∧ w'.cell? ⟨w.heap.size, 2, none⟩ = some (.string (bs t))) (go_keep)
    (first | (go_at_call 22; refine (hL _ (by first | assumption | exact below_drew (by assumption))).mono ?_; rintro e w2 ⟨rfl, hb2, x0, x1, x2⟩))
  all_goals
    have h2 := (HH.out.next hb0).next hb2
    have c0 := cellB h2.blk 0 (.slice la l.length lc) rfl
    have r2 := (hb2.block w.heap.size (by simp)).trans HR.out
    have HX : Hid (_ ∧ _) := ⟨h2, r2⟩
    clear h2 r2 HR
    go_wp2_with fail
    go_loopg [6, 30] l.length (fun gk b p wr => ∃ k : Nat, k + gk = l.length ∧ p = .int .i64 k ∧ b = .bool ((l.take k).any (ofP c)) ∧ Below w2.heap.size w2 wr)
    case atStart => exact ⟨0, by omega, rfl, by simp, Below.refl _ _⟩
    case round =>
      obtain ⟨k, hk, rfl, rfl, hB⟩ := hrel
      have rr := (hB.block w.heap.size (Array.getElem?_eq_some_iff.1 HX.out.2).1).trans HX.out.2
      by_cases hlt : k < l.length
      · obtain ⟨⟨c5, n5, t5⟩, hx⟩ : ∃ a, l[k]? = some a := ⟨_, List.getElem?_eq_getElem (by omega)⟩
        obtain ⟨gb, gc, hgv, hg1, hg2, y0, y1, y2⟩ := row_at (owns_next HX.out.1.own hB) hx
        injection hgv with f1 _ f2
        subst f1 f2
        simp only at y0 y1 y2
        have q0 : (0 : Int) ≤ (k : Int) := by omega
        have q1 : (k : Int) < (l.length : Int) := by omega
        have hba : Below wr.heap.size wr (wr.alloc (.cells #[.int .i64 c5, .int .i64 n5, .string (bs t5)] 39)) := (Below.refl _ _).alloc (Nat.le_refl _) _
        have rN := heap_alloc_new wr (.cells #[.int .i64 c5, .int .i64 n5, .string (bs t5)] 39)
        have rr1 := (hba.block w.heap.size (Array.getElem?_eq_some_iff.1 rr).1).trans rr
        have hB1 := hB.trans (hba.mono hB.size)
        have HBN : Hid (_ ∧ _ ∧ _) := ⟨rN, rr1, hB1⟩
        have HS : Hid ((l.take (k + 1)).any (ofP c) = ((l.take k).any (ofP c) || ofP c (c5, n5, t5))) := any_take hx c
        have hcs : (c5 = c ∧ n5 < n ∧ ofP c (c5, n5, t5) = true) ∨ ((c5 == c) = false ∧ ofP c (c5, n5, t5) = false) := by
          by_cases e : c5 = c
          · left
            have e3 : ofP c (c5, n5, t5) = true := by simp [ofP, e]
            exact ⟨e, H1.out _ (List.mem_of_getElem? hx) e3, e3⟩
          · right; exact ⟨by simp [e], by simp [ofP, e]⟩
        obtain ⟨I, hI⟩ : ∃ I, (l.take k).any (ofP c) = I := ⟨_, rfl⟩
        rw [hI] at HS ⊢
        clear rN rr1 hB1 hba hx hg1 rr hI
        go_upto_region 11 with fail
        obtain ⟨rN, rr1, hB1⟩ := HBN.out
        obtain ⟨W1, hW1⟩ : ∃ W, wr.alloc (.cells #[.int .i64 c5, .int .i64 n5, .string (bs t5)] 39) = W := ⟨_, rfl⟩
        obtain ⟨Y, hY⟩ : ∃ Y, wr.heap.size = Y := ⟨_, rfl⟩
        rw [hW1] at rN rr1 hB1 ⊢
        rw [hY] at rN ⊢
        have z0 := cellB rN 0 (.int .i64 c5) rfl
        have z1 := cellB rN 1 (.int .i64 n5) rfl
        have v0 := cellB rr1 0 (.int .i64 c) rfl
        have v1 := cellB rr1 1 (.int .i64 n) rfl
        clear hW1 hY rN rr1 HBN y0 y1 y2
        rcases hcs with ⟨e1, e2, e3⟩ | ⟨e1, e3⟩
        · have HS2 : Hid ((l.take (k + 1)).any (ofP c) = true) := by show _ = _; rw [HS.out, e3]; simp
          subst e1
          clear e3 HS
          go_wp2
          go_roundg (l.length - (k + 1))
          case measure => omega
          case rel => exact ⟨k + 1, by omega, by go_num, by rw [HS2.out], hB1⟩
        · have HS2 : Hid ((l.take (k + 1)).any (ofP c) = I) := by show _ = _; rw [HS.out, e3]; simp
          clear e3 HS
          go_wp2
          go_roundg (l.length - (k + 1))
          case measure => omega
          case rel => exact ⟨k + 1, by omega, by go_num, by rw [HS2.out], hB1⟩
      · have hkl : k = l.length := by omega
        subst hkl
        rw [List.take_length, hth]
        have h3 := HX.out.1.next hB
        have d0 := cellB h3.blk 0 (.slice la l.length lc) rfl
        have v0 := cellB rr 0 (.int .i64 c) rfl
        have v1 := cellB rr 1 (.int .i64 n) rfl
        have hBw := hb0.trans ((hb2.trans (hB.mono hb2.size)).mono hb0.size)
        have hDr := HDr.out wr hBw h3 rr
        have HWl : Hid (_) := hWl
        clear h3 rr HX HDr
        have hthc : th = true ∨ (th = false ∧ l.length < 24) := hcase
        rcases hthc with rfl | ⟨rfl, hl24⟩
        all_goals
          try have hl2 : (l.length : Int) < 24 := by omega
          go_upto_region 19 with (first
            | (go_at_call 28; refine hDr.mono ?_; rintro e w3 ⟨rfl, vl3, h3, hm3, r3⟩))
          obtain ⟨va, vc, rfl⟩ := owns_slice h3.own
          have x0 := cellB r3 0 (.int .i64 c) rfl
          have x1 := cellB r3 1 (.int .i64 n) rfl
          have x2 := cellB r3 2 (.string (bs t)) rfl
          have hml : l3.length + 1 ≤ maxLen := by unfold maxLen; omega
          have hkb : (l3.length + 1) * 32 ≤ 140737488355328 := by omega
          have hba : Below w3.heap.size w3 (w3.alloc (.cells #[.int .i64 c, .int .i64 n, .string (bs t)] 39)) := (Below.refl _ _).alloc (Nat.le_refl _) _
          have h4 := h3.next (below_drew hba)
          have h4o := h4.own
          have x6 : (w3.alloc (.cells #[.int .i64 c, .int .i64 n, .string (bs t)] 39)).cell? ⟨R, 0, none⟩ = some (.slice va l3.length vc) := cellB (w := (w3.alloc (.cells #[.int .i64 c, .int .i64 n, .string (bs t)] 39))) h4.blk 0 _ rfl
          have x7 := cellB h3.blk 0 (.slice va l3.length vc) rfl
          have HX : Hid (rcs (l3 ++ [(c, n, t)]) = rcs l3 ++ [.int .i64 c, .int .i64 n, .string (bs t)]) := rcs_append l3 [(c, n, t)]
          obtain ⟨X, hX⟩ : ∃ X, rcs l3 = X := ⟨_, rfl⟩
          rw [hX] at HX h4o
          have hbs : base ≤ (w3.alloc (.cells #[.int .i64 c, .int .i64 n, .string (bs t)] 39)).drew.heap.size := h4.le
          have hcn : ∀ j u, [Value.int .i64 c, .int .i64 n, .string (bs t)][j]? = some u → (w3.alloc (.cells #[.int .i64 c, .int .i64 n, .string (bs t)] 39)).drew.cell? ((⟨w3.heap.size, 0, none⟩ : Addr).add j) = some u := cells_new w3 #[.int .i64 c, .int .i64 n, .string (bs t)] 39
          have hne : some R ≠ (Value.slice va l3.length vc).ownBlock := fun e => h3.n1 e.symm
          have hltR := h4.lt
          have q1 := h4.blk
          have HM : Hid (_ ∧ _) := ⟨h4, hm3.trans (Mvd.of_below (below_drew hba) _)⟩
          clear hX h3 h4 r3 hba hm3
          go_region_law (first | (refine step_append_lies _ (by rfl) _ _ 27 (by rfl) base 39 i9 (.agg #[.int .i64 0, .int .i64 0, .string ⟨#[]⟩]) 3 32 Try.underlying27 hi9 hz0 hz1 hz2 rfl (by decide) _ l3.length X (by rfl) h4o ⟨w3.heap.size, 0, none⟩ 1 1 [.int .i64 c, .int .i64 n, .string (bs t)] (by rfl) rfl hcn (by simp [Value.oneCell']) (by decide) hml hkb hbs _ rfl ?_; intro ga ca w6 hown7 hgrow hat hlt6; have rc6 := (hgrow.block R hltR hne).trans q1; have f0 := frozenB rc6 0; have s0 := cellB rc6 0 _ rfl))
          all_goals
            go_wp2
            refine bodyPost_ret (v := .tuple #[.bool true, .int .i64 0]) (by simp [results, Try.f10, go_sem]) rfl ⟨rfl, ?_⟩
            obtain ⟨h4, hm1⟩ := HM.out
            have hgR : ga ≠ R := by
              rcases hat with e | e
              · exact fun e2 => hne (by rw [e, e2])
              · rw [e]; exact fun e2 => by rw [← e2] at hltR; exact Nat.lt_irrefl _ hltR
            have hgd : vd.ownBlock ≠ some ga := by
              intro e2
              rcases hat with e | e
              · exact h4.n3 ga e e2
              · have := (h4.dn.lt ga e2).2; rw [e] at this; exact Nat.lt_irrefl _ this
            refine ⟨.slice (some ⟨ga, 0, none⟩) (l3.length + 1) ca, ⟨setB rc6 0 _, ?_, ?_, fun e => hgR (Option.some.inj e), h4.n2, fun k e1 e2 => hgd (by rw [e2]; exact e1.symm), h4.base⟩, ?_⟩
            · rw [HX.out, List.length_append]
              exact owns_kept hown7 (fun k hk => set_far (by rw [← Option.some.inj hk]; exact hgR) _ _)
            · exact owns_kept h4.dn (fun k hk => (set_far (fun e => h4.n2 (by rw [← e]; exact hk)) _ _).trans (hgrow.block k (h4.dn.lt k hk).2 (fun e => h4.n3 k e.symm hk)))
            · have hsz1 := hm1.size
              refine ⟨hgrow.os.trans hm1.os, hgrow.tape.trans hm1.tape, hgrow.output.trans hm1.output, by simp only [World.setCell, Array.size_modify]; exact Nat.le_trans hsz1 hgrow.size, fun k hk hn => ?_, fun k hk => ?_⟩
              · refine (set_far (fun e => hn (.inl e)) _ _).trans ((hgrow.block k (Nat.lt_of_lt_of_le hk hsz1) (fun e => ?_)).trans (hm1.block k hk hn))
                rcases hm1.own k (.inr (.inl e.symm)) with e2 | e2
                · exact hn e2
                · omega
              · rcases hk with e | e | e
                · exact .inl (.inl e)
                · have e2 : ga = k := Option.some.inj e
                  rcases hat with e3 | e3
                  · exact hm1.own k (.inr (.inl (by rw [e3, e2])))
                  · right; rw [← e2, e3]; exact hsz1
                · exact .inl (.inr (.inr e))
end Go.Proofs.Ytbibfhhnnjojnaa
