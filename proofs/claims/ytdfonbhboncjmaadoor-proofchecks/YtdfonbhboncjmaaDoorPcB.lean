/- The law's refs and points, walked. -/
import Derived.Test.YtdfonbhboncjmaaDoorPcA
import Derived.Test.YtdfonbhboncjmaaDoorPrY
namespace Go.Proofs.YtdfonbhboncjmaaDoor
open Go.RowKit Go.Maps
attribute [local go_sem ↓] Go.wp_at_zero Go.wp_at_succ

theorem opwp_append {P : Program} {w : World} {o : Oper} {a : Act} {K : Act → World → Prop} {Q : Exit → Act → World → Prop} (s x : Operand) (t : TypeId)
    (ho : o.op = .call { callee := .builtin .append, args := #[s, x], argTypes := #[t, t] }) (v u : Value) (hs : a.eval s = v) (hx : a.eval x = u) (R : Value → World → Prop)
    (hr : ∃ v' w', (Builtin.append_ #[t, t] o.type #[v, u]).run P w = .ok v' w' ∧ R v' w')
    (h : ∀ v' w', R v' w' → K (a.put o.dst v') w') : Oper.wp P o a w K Q := by
  obtain ⟨v', w', hr, hR⟩ := hr
  unfold Oper.wp execOp
  simp only [ho, resolve, invoke, builtin, Sem.run_bind, Sem.run_pure, Result.andThen_ok, List.map_toArray, List.map_cons, List.map_nil, hs, hx, hr]
  exact h v' w' hR
theorem Tryd.info70 : (Tryd.prog.info? 70).map (fun i => (i.zero, i.size, i.bytes)) = some (some (.agg #[.int .i64 0, .int .i64 0, .int .i64 0, .int .i64 0, .string ⟨#[]⟩]), 5, 48) := by kernel_rfl
theorem Tryd.info68 : (Tryd.prog.info? 68).map (fun i => (i.zero, i.size, i.bytes)) = some (some (.agg #[.int .i64 0, .int .i64 0, .int .i64 0, .string ⟨#[]⟩, .string ⟨#[]⟩, .string ⟨#[]⟩, .int .i64 0, .int .i64 0, .int .i64 0, .string ⟨#[]⟩]), 10, 112) := by kernel_rfl
set_option maxRecDepth 20000 in
set_option maxHeartbeats 2000000 in
theorem points_any (l : List Pt) (v : Value) (w : World) (hv : SlF pks 5 w v l) (hl : l.length ≤ 100000) : Calls Tryd.prog 11 #[v] w fun e W' => ∃ u, e = .returned u ∧ SlF pks 5 W' u l ∧ Below w.heap.size w W' := by
  obtain ⟨va, vc, rfl⟩ := hv.slice
  obtain ⟨i0, hi, hz0, hz1, hz2⟩ := info_parts Tryd.info70
  obtain ⟨N, hN⟩ : ∃ N, w.heap.size = N := ⟨_, rfl⟩
  have HN : Hid (w.heap.size = N) := hN
  have HV : Hid (∀ W, Below N w W → SlF pks 5 W (.slice va l.length vc) l) := fun W hW => hv.on hW (by omega)
  have HL : Hid (l.length ≤ 100000) := hl
  clear hv hN hl
  go_enter Tryd.func11, Tryd.ntmps11
  go_wp2_with fail
  go_loopg [3, 8] l.length (fun gk x j wr => ∃ n : Nat, n + gk = l.length ∧ j = .int .i64 n ∧ wr.ownsRow N 70 5 x (l.take n).length ((l.take n).flatMap pks) ∧ Below N w wr)
  case atStart => exact ⟨0, by omega, rfl, World.ownsRow_nil _ _ _ _, by rw [← HN.out]; exact Below.refl _ _⟩
  case round =>
    obtain ⟨n, hnn, rfl, hown, hB⟩ := hrel
    obtain ⟨xa, xc, rfl⟩ := owns_slice hown
    by_cases hn1 : n < l.length
    · obtain ⟨p, ho⟩ : ∃ p, l[n]? = some p := ⟨_, List.getElem?_eq_getElem hn1⟩
      have htk := take_snoc ho
      have hlen : (l.take n).length = n := by rw [List.length_take]; omega
      obtain ⟨A, hA⟩ : ∃ A, l.take n = A := ⟨_, rfl⟩
      rw [hA] at htk hown hlen ⊢
      obtain ⟨g, e', hg', -, y⟩ := (HV.out _ hB).at ho
      cases hg'
      obtain ⟨tm, pcl, pno, pT, pE⟩ := p
      have y0 : wr.cell? ⟨g, e' + n * 5, none⟩ = some (.int .i64 tm) := y 0 _ rfl
      have y1 : wr.cell? ⟨g, e' + n * 5 + 1, none⟩ = some (.int .i64 pcl) := y 1 _ rfl
      have y2 : wr.cell? ⟨g, e' + n * 5 + 2, none⟩ = some (.int .i64 pno) := y 2 _ rfl
      have y3 : wr.cell? ⟨g, e' + n * 5 + 3, none⟩ = some (.int .i64 pE) := y 3 _ rfl
      have y4 : wr.cell? ⟨g, e' + n * 5 + 4, none⟩ = some (.string (bs pT)) := y 4 _ rfl
      have d0 : (0 : Int) ≤ (n : Int) := by omega
      have d1 : (n : Int) < (l.length : Int) := by omega
      obtain ⟨D, hD⟩ : ∃ D, wr.heap.size = D := ⟨_, rfl⟩
      have hND : N ≤ D := by have := hB.size; have := HN.out; omega
      have rD := heap_alloc_new wr (.cells #[.int .i64 tm, .int .i64 pcl, .int .i64 pno, .int .i64 pE, .string (bs pT)] 56)
      have hbA := (Below.refl wr.heap.size wr).alloc (Nat.le_refl _) (.cells #[.int .i64 tm, .int .i64 pcl, .int .i64 pno, .int .i64 pE, .string (bs pT)] 56)
      obtain ⟨WA, hWA⟩ : ∃ W, wr.alloc (.cells #[.int .i64 tm, .int .i64 pcl, .int .i64 pno, .int .i64 pE, .string (bs pT)] 56) = W := ⟨_, rfl⟩
      have hzA : WA.heap.size = D + 1 := by rw [← hWA, World.size_alloc, hD]
      rw [hWA] at rD hbA
      rw [hD] at rD hbA
      have hownA := owns_keep hown (w' := WA) fun q e => hbA.block q (by have := (hown.lt q e).2; omega)
      have hneA : ∀ q, (Value.slice xa A.length xc).ownBlock = some q → q < D := fun q e => by have := (hown.lt q e).2; omega
      have HWA : Hid (wr.alloc (.cells #[.int .i64 tm, .int .i64 pcl, .int .i64 pno, .int .i64 pE, .string (bs pT)] 56) = WA) := hWA
      have HD : Hid (wr.heap.size = D) := hD
      have HA : Hid (WA.ownsRow N 70 5 (.slice xa A.length xc) A.length (A.flatMap pks) ∧ Below N w WA ∧ WA.heap.size = D + 1 ∧ N ≤ D ∧ WA.heap[D]? = some (.cells #[.int .i64 tm, .int .i64 pcl, .int .i64 pno, .int .i64 pE, .string (bs pT)] 56)) := ⟨hownA, hB.trans (hbA.mono hND), hzA, hND, rD⟩
      have HTk : Hid (l.take (n + 1) = A ++ [⟨tm, pcl, pno, (pT, pE)⟩] ∧ A.length = n) := ⟨htk, hlen⟩
      have han := fun W => answer_any (pT, pE) W
      have HAN : Hid (∀ W, Calls Tryd.prog 15 #[.agg #[.int .i64 pE, .string (bs pT)]] W fun e W' => e = .returned (.agg #[.int .i64 pE, .string (bs pT)]) ∧ Below W.heap.size W W') := han
      clear htk hlen hA y hD hND hbA hWA hzA hownA hown hB ho han rD
      go_upto_region 5 with fail
      rw [HWA.out]
      try rw [HD.out]
      clear y0 y1 y2 y3 y4 HWA HD
      refine region_Z 99 (fun W => W.heap[D]? = some (.cells #[.int .i64 tm, .int .i64 pcl, .int .i64 pno, .int .i64 pE, .string (bs pT)] 56)) (by kernel_rfl) ?_
      have hS0 : WA.drew.heap[D]? = some (.cells #[.int .i64 tm, .int .i64 pcl, .int .i64 pno, .int .i64 pE, .string (bs pT)] 56) := HA.out.2.2.2.2
      refine Y_take (i := 0) (v := ?_) rfl (by kernel_rfl) (by kernel_rfl) (by kernel_rfl) (by kernel_rfl) (fun _ _ _ h => h) (by rfl) hS0 ?_ ?_
      rotate_left
      · (intro w' hSw; have p0 := cellB hSw 0 _ rfl; have p1 := cellB hSw 1 _ rfl; have p2 := cellB hSw 2 _ rfl; have p3 := cellB hSw 3 _ rfl; have p4 := cellB hSw 4 _ rfl; go_simp; (try with_reducible rfl))
      simp only [Act.put, List.setIfInBounds_toArray, List.getElem_toArray, List.getElem_cons_zero, List.set_cons_succ, List.set_cons_zero]
      refine Y_take (i := 1) (v := ?_) rfl (by kernel_rfl) (by kernel_rfl) (by kernel_rfl) (by kernel_rfl) (fun _ _ _ h => h) (by rfl) hS0 ?_ ?_
      rotate_left
      · (intro w' hSw; have p0 := cellB hSw 0 _ rfl; have p1 := cellB hSw 1 _ rfl; have p2 := cellB hSw 2 _ rfl; have p3 := cellB hSw 3 _ rfl; have p4 := cellB hSw 4 _ rfl; go_simp; (try with_reducible rfl))
      simp only [Act.put, List.setIfInBounds_toArray, List.getElem_toArray, List.getElem_cons_succ, List.getElem_cons_zero, List.set_cons_succ, List.set_cons_zero]
      refine Y_take (i := 2) (v := ?_) rfl (by kernel_rfl) (by kernel_rfl) (by kernel_rfl) (by kernel_rfl) (fun _ _ _ h => h) (by rfl) hS0 ?_ ?_
      rotate_left
      · (intro w' hSw; have p0 := cellB hSw 0 _ rfl; have p1 := cellB hSw 1 _ rfl; have p2 := cellB hSw 2 _ rfl; have p3 := cellB hSw 3 _ rfl; have p4 := cellB hSw 4 _ rfl; go_simp; (try with_reducible rfl))
      simp only [Act.put, List.setIfInBounds_toArray, List.getElem_toArray, List.getElem_cons_succ, List.getElem_cons_zero, List.set_cons_succ, List.set_cons_zero]
      refine Y_take (i := 3) (v := ?_) rfl (by kernel_rfl) (by kernel_rfl) (by kernel_rfl) (by kernel_rfl) (fun _ _ _ h => h) (by rfl) hS0 ?_ ?_
      rotate_left
      · (intro w' hSw; have p0 := cellB hSw 0 _ rfl; have p1 := cellB hSw 1 _ rfl; have p2 := cellB hSw 2 _ rfl; have p3 := cellB hSw 3 _ rfl; have p4 := cellB hSw 4 _ rfl; go_simp; (try with_reducible rfl))
      simp only [Act.put, List.setIfInBounds_toArray, List.getElem_toArray, List.getElem_cons_succ, List.getElem_cons_zero, List.set_cons_succ, List.set_cons_zero]
      refine Y_take (i := 4) (v := ?_) rfl (by kernel_rfl) (by kernel_rfl) (by kernel_rfl) (by kernel_rfl) (fun _ _ _ h => h) (by rfl) hS0 ?_ ?_
      rotate_left
      · (intro w' hSw; have p0 := cellB hSw 0 _ rfl; have p1 := cellB hSw 1 _ rfl; have p2 := cellB hSw 2 _ rfl; have p3 := cellB hSw 3 _ rfl; have p4 := cellB hSw 4 _ rfl; go_simp; (try with_reducible rfl))
      simp only [Act.put, List.setIfInBounds_toArray, List.getElem_toArray, List.getElem_cons_succ, List.getElem_cons_zero, List.set_cons_succ, List.set_cons_zero]
      refine Y_take (i := 5) (v := ?_) rfl (by kernel_rfl) (by kernel_rfl) (by kernel_rfl) (by kernel_rfl) (fun _ _ _ h => h) (by rfl) hS0 ?_ ?_
      rotate_left
      · (intro w' hSw; have p0 := cellB hSw 0 _ rfl; have p1 := cellB hSw 1 _ rfl; have p2 := cellB hSw 2 _ rfl; have p3 := cellB hSw 3 _ rfl; have p4 := cellB hSw 4 _ rfl; go_simp; (try with_reducible rfl))
      simp only [Act.put, List.setIfInBounds_toArray, List.getElem_toArray, List.getElem_cons_succ, List.getElem_cons_zero, List.set_cons_succ, List.set_cons_zero]
      refine Y_take (i := 6) (v := ?_) rfl (by kernel_rfl) (by kernel_rfl) (by kernel_rfl) (by kernel_rfl) (fun _ _ _ h => h) (by rfl) hS0 ?_ ?_
      rotate_left
      · (intro w' hSw; have p0 := cellB hSw 0 _ rfl; have p1 := cellB hSw 1 _ rfl; have p2 := cellB hSw 2 _ rfl; have p3 := cellB hSw 3 _ rfl; have p4 := cellB hSw 4 _ rfl; go_simp; (try with_reducible rfl))
      simp only [Act.put, List.setIfInBounds_toArray, List.getElem_toArray, List.getElem_cons_succ, List.getElem_cons_zero, List.set_cons_succ, List.set_cons_zero]
      refine Y_take (i := 7) (v := ?_) rfl (by kernel_rfl) (by kernel_rfl) (by kernel_rfl) (by kernel_rfl) (fun _ _ _ h => h) (by rfl) hS0 ?_ ?_
      rotate_left
      · (intro w' hSw; have p0 := cellB hSw 0 _ rfl; have p1 := cellB hSw 1 _ rfl; have p2 := cellB hSw 2 _ rfl; have p3 := cellB hSw 3 _ rfl; have p4 := cellB hSw 4 _ rfl; go_simp; (try with_reducible rfl))
      simp only [Act.put, List.setIfInBounds_toArray, List.getElem_toArray, List.getElem_cons_succ, List.getElem_cons_zero, List.set_cons_succ, List.set_cons_zero]
      refine Y_take (i := 8) (v := ?_) rfl (by kernel_rfl) (by kernel_rfl) (by kernel_rfl) (by kernel_rfl) (fun _ _ _ h => h) (by rfl) hS0 ?_ ?_
      rotate_left
      · (intro w' hSw; have p0 := cellB hSw 0 _ rfl; have p1 := cellB hSw 1 _ rfl; have p2 := cellB hSw 2 _ rfl; have p3 := cellB hSw 3 _ rfl; have p4 := cellB hSw 4 _ rfl; go_simp; (try with_reducible rfl))
      simp only [Act.put, List.setIfInBounds_toArray, List.getElem_toArray, List.getElem_cons_succ, List.getElem_cons_zero, List.set_cons_succ, List.set_cons_zero]
      refine Z_step (i := 9) (by kernel_rfl) rfl (fun K' hK => ?_)
      go_simp
      refine (HAN.out _).mono ?_
      rintro e w1 ⟨rfl, hB1⟩
      have hb1 : Below (D + 1) WA w1 := (below_drew (Below.refl (D + 1) WA)).trans (hB1.mono (by show D + 1 ≤ WA.heap.size; have := HA.out.2.2.1; omega))
      have hS1 := (hb1.block D (by omega)).trans HA.out.2.2.2.2
      refine hK _ _ (fun _ => hS1) ?_
      clear hK K'
      refine Y_take (i := 10) (v := ?_) rfl (by kernel_rfl) (by kernel_rfl) (by kernel_rfl) (by kernel_rfl) (fun _ _ _ h => h) (by rfl) hS1 ?_ ?_
      rotate_left
      · (intro w' hSw; have p0 := cellB hSw 0 _ rfl; have p1 := cellB hSw 1 _ rfl; have p2 := cellB hSw 2 _ rfl; have p3 := cellB hSw 3 _ rfl; have p4 := cellB hSw 4 _ rfl; go_simp; (try with_reducible rfl))
      simp only [Act.put, List.setIfInBounds_toArray, List.getElem_toArray, List.getElem_cons_succ, List.getElem_cons_zero, List.set_cons_succ, List.set_cons_zero]
      refine Z_step (i := 11) (by kernel_rfl) rfl (fun K' hK => ?_)
      go_simp
      obtain ⟨w2, hw2⟩ : ∃ W, w1.alloc (.cells #[.int .i64 tm, .int .i64 pcl, .int .i64 pno, .int .i64 pE, .string (bs pT)] 70) = W := ⟨_, rfl⟩
      have hb2 := (Below.refl w1.heap.size w1).alloc (Nat.le_refl _) (.cells #[.int .i64 tm, .int .i64 pcl, .int .i64 pno, .int .i64 pE, .string (bs pT)] 70)
      have rN := heap_alloc_new w1 (.cells #[.int .i64 tm, .int .i64 pcl, .int .i64 pno, .int .i64 pE, .string (bs pT)] 70)
      have hs1 : D + 1 ≤ w1.heap.size := by have := hb1.size; have := HA.out.2.2.1; omega
      have hs2 : w2.heap.size = w1.heap.size + 1 := by rw [← hw2, World.size_alloc]
      rw [hw2] at hb2 rN
      try rw [hw2]
      have hS2 := (hb2.block D (by omega)).trans hS1
      refine hK _ _ (fun _ => hS2) ?_
      clear hK K'
      refine Z_step (i := 12) (by kernel_rfl) rfl (fun K' hK => ?_)
      rw [if_pos (by rfl)]
      have hown2 : w2.ownsRow N 70 5 (.slice xa A.length xc) A.length (A.flatMap pks) := owns_keep HA.out.1 fun q e => ((hb2.block q (by have := (hneA q e); omega)).trans (hb1.block q (by have := (hneA q e); omega)))
      refine opwp_append _ _ 34 rfl (.slice xa A.length xc) (.slice (some ⟨w1.heap.size, 0, none⟩) 1 1) rfl rfl (fun v' w' => ∃ ga ca, v' = .slice (some ⟨ga, 0, none⟩) (A.length + 1) ca ∧ w'.ownsRow N 70 5 v' (A.length + 1) (A.flatMap pks ++ [.int .i64 tm, .int .i64 pcl, .int .i64 pno, .int .i64 pE, .string (bs pT)]) ∧ w2.grownBy w' (Value.slice xa A.length xc).ownBlock) ?_ ?_
      · obtain ⟨ga, ca, w', h1, h2, h3, h4, h5⟩ := run_append_lies (P := Tryd.prog) w2 34 34 N 70 i0 (.agg #[.int .i64 0, .int .i64 0, .int .i64 0, .int .i64 0, .string ⟨#[]⟩]) 5 48 Tryd.underlying34 hi hz0 hz1 hz2 rfl (by decide) (.slice xa A.length xc) A.length _ hown2 ⟨w1.heap.size, 0, none⟩ 1 1 [.int .i64 tm, .int .i64 pcl, .int .i64 pno, .int .i64 pE, .string (bs pT)] rfl (World.news_of_block rN) (by simp [Value.oneCell']) (by decide) (by unfold maxLen; have := HTk.out.2; have := HL.out; omega) (by have := HTk.out.2; have := HL.out; omega) (by have := HA.out.2.2.2; omega) _ rfl
        exact ⟨_, w', h1, ga, ca, rfl, h2, h3⟩
      rintro v' w3 ⟨ga, ca, rfl, g1, g2⟩
      have hS3 := (g2.block D (by have := hs1; omega) (fun e => by have := hneA D e.symm; omega)).trans hS2
      have hB3 : Below N w w3 := ((HA.out.2.1.trans (hb1.mono (by have := HA.out.2.2.2; omega))).trans (hb2.mono (by have := HA.out.2.2.2; omega))).grown g2 (by have := HA.out.2.2.2; omega) (fun z hz => (hown2.lt z hz).1)
      refine hK _ _ (fun _ => hS3) ?_
      clear hK K'
      refine Z_step (i := 13) (by kernel_rfl) rfl (fun K' hK => ?_)
      go_simp
      refine hK _ _ (fun _ => hS3) (Z_done (by kernel_rfl) ?_ _)
      clear hK K'
      all_goals
        have hl9 := HL.out
        go_wp2
        go_roundg (l.length - (n + 1))
        case measure => omega
        case rel => exact ⟨n + 1, by omega, by go_num, by rw [HTk.out.1, List.length_append, List.flatMap_append]; exact g1, hB3⟩
    obtain rfl : n = l.length := by omega
    rw [List.take_length] at hown ⊢
    have HO : Hid (_ ∧ _) := And.intro hown hB
    clear hown hB
    go_wp2
    go_ret
    exact ⟨_, rfl, SlF.of_owns (fun _ => rfl) HO.out.1, by rw [HN.out]; exact HO.out.2⟩
set_option maxRecDepth 20000 in
set_option maxHeartbeats 2000000 in
theorem refs_any (l : List Cl) (v : Value) (w : World) (hv : SlF ccs 10 w v l) (hl : l.length ≤ 100000) : Calls Tryd.prog 10 #[v] w fun e W' => ∃ u, e = .returned u ∧ SlF ccs 10 W' u l ∧ Below w.heap.size w W' := by
  obtain ⟨va, vc, rfl⟩ := hv.slice
  obtain ⟨i0, hi, hz0, hz1, hz2⟩ := info_parts Tryd.info68
  obtain ⟨N, hN⟩ : ∃ N, w.heap.size = N := ⟨_, rfl⟩
  have HN : Hid (w.heap.size = N) := hN
  have HV : Hid (∀ W, Below N w W → SlF ccs 10 W (.slice va l.length vc) l) := fun W hW => hv.on hW (by omega)
  have HL : Hid (l.length ≤ 100000) := hl
  clear hv hN hl
  go_enter Tryd.func10, Tryd.ntmps10
  go_wp2_with fail
  go_loopg [3, 8] l.length (fun gk x j wr => ∃ n : Nat, n + gk = l.length ∧ j = .int .i64 n ∧ wr.ownsRow N 68 10 x (l.take n).length ((l.take n).flatMap ccs) ∧ Below N w wr)
  case atStart => exact ⟨0, by omega, rfl, World.ownsRow_nil _ _ _ _, by rw [← HN.out]; exact Below.refl _ _⟩
  case round =>
    obtain ⟨n, hnn, rfl, hown, hB⟩ := hrel
    obtain ⟨xa, xc, rfl⟩ := owns_slice hown
    by_cases hn1 : n < l.length
    · obtain ⟨p, ho⟩ : ∃ p, l[n]? = some p := ⟨_, List.getElem?_eq_getElem hn1⟩
      have htk := take_snoc ho
      have hlen : (l.take n).length = n := by rw [List.length_take]; omega
      obtain ⟨A, hA⟩ : ∃ A, l.take n = A := ⟨_, rfl⟩
      rw [hA] at htk hown hlen ⊢
      obtain ⟨g, e', hg', -, y⟩ := (HV.out _ hB).at ho
      cases hg'
      obtain ⟨cl, no, ⟨kind, k, v, od⟩, fr, tt, T, E⟩ := p
      have y0 : wr.cell? ⟨g, e' + n * 10, none⟩ = some (.int .i64 cl) := y 0 _ rfl
      have y1 : wr.cell? ⟨g, e' + n * 10 + 1, none⟩ = some (.int .i64 no) := y 1 _ rfl
      have y2 : wr.cell? ⟨g, e' + n * 10 + 2, none⟩ = some (.int .i64 kind) := y 2 _ rfl
      have y3 : wr.cell? ⟨g, e' + n * 10 + 3, none⟩ = some (.string (bs k)) := y 3 _ rfl
      have y4 : wr.cell? ⟨g, e' + n * 10 + 4, none⟩ = some (.string (bs v)) := y 4 _ rfl
      have y5 : wr.cell? ⟨g, e' + n * 10 + 5, none⟩ = some (.string (bs od)) := y 5 _ rfl
      have y6 : wr.cell? ⟨g, e' + n * 10 + 6, none⟩ = some (.int .i64 fr) := y 6 _ rfl
      have y7 : wr.cell? ⟨g, e' + n * 10 + 7, none⟩ = some (.int .i64 tt) := y 7 _ rfl
      have y8 : wr.cell? ⟨g, e' + n * 10 + 8, none⟩ = some (.int .i64 E) := y 8 _ rfl
      have y9 : wr.cell? ⟨g, e' + n * 10 + 9, none⟩ = some (.string (bs T)) := y 9 _ rfl
      have d0 : (0 : Int) ≤ (n : Int) := by omega
      have d1 : (n : Int) < (l.length : Int) := by omega
      obtain ⟨D, hD⟩ : ∃ D, wr.heap.size = D := ⟨_, rfl⟩
      have hND : N ≤ D := by have := hB.size; have := HN.out; omega
      have rD := heap_alloc_new wr (.cells #[.int .i64 cl, .int .i64 no, .int .i64 kind, .string (bs k), .string (bs v), .string (bs od), .int .i64 fr, .int .i64 tt, .int .i64 E, .string (bs T)] 53)
      have hbA := (Below.refl wr.heap.size wr).alloc (Nat.le_refl _) (.cells #[.int .i64 cl, .int .i64 no, .int .i64 kind, .string (bs k), .string (bs v), .string (bs od), .int .i64 fr, .int .i64 tt, .int .i64 E, .string (bs T)] 53)
      obtain ⟨WA, hWA⟩ : ∃ W, wr.alloc (.cells #[.int .i64 cl, .int .i64 no, .int .i64 kind, .string (bs k), .string (bs v), .string (bs od), .int .i64 fr, .int .i64 tt, .int .i64 E, .string (bs T)] 53) = W := ⟨_, rfl⟩
      have hzA : WA.heap.size = D + 1 := by rw [← hWA, World.size_alloc, hD]
      rw [hWA] at rD hbA
      rw [hD] at rD hbA
      have hownA := owns_keep hown (w' := WA) fun q e => hbA.block q (by have := (hown.lt q e).2; omega)
      have hneA : ∀ q, (Value.slice xa A.length xc).ownBlock = some q → q < D := fun q e => by have := (hown.lt q e).2; omega
      have HWA : Hid (wr.alloc (.cells #[.int .i64 cl, .int .i64 no, .int .i64 kind, .string (bs k), .string (bs v), .string (bs od), .int .i64 fr, .int .i64 tt, .int .i64 E, .string (bs T)] 53) = WA) := hWA
      have HD : Hid (wr.heap.size = D) := hD
      have HA : Hid (WA.ownsRow N 68 10 (.slice xa A.length xc) A.length (A.flatMap ccs) ∧ Below N w WA ∧ WA.heap.size = D + 1 ∧ N ≤ D ∧ WA.heap[D]? = some (.cells #[.int .i64 cl, .int .i64 no, .int .i64 kind, .string (bs k), .string (bs v), .string (bs od), .int .i64 fr, .int .i64 tt, .int .i64 E, .string (bs T)] 53)) := ⟨hownA, hB.trans (hbA.mono hND), hzA, hND, rD⟩
      have HTk : Hid (l.take (n + 1) = A ++ [⟨cl, no, ⟨kind, k, v, od⟩, fr, tt, (T, E)⟩] ∧ A.length = n) := ⟨htk, hlen⟩
      have han := fun W => answer_any (T, E) W
      have HAN : Hid (∀ W, Calls Tryd.prog 15 #[.agg #[.int .i64 E, .string (bs T)]] W fun e W' => e = .returned (.agg #[.int .i64 E, .string (bs T)]) ∧ Below W.heap.size W W') := han
      clear htk hlen hA y hD hND hbA hWA hzA hownA hown hB ho han rD
      go_upto_region 5 with fail
      rw [HWA.out]
      try rw [HD.out]
      clear y0 y1 y2 y3 y4 y5 y6 y7 y8 y9 HWA HD
      refine region_Z 99 (fun W => W.heap[D]? = some (.cells #[.int .i64 cl, .int .i64 no, .int .i64 kind, .string (bs k), .string (bs v), .string (bs od), .int .i64 fr, .int .i64 tt, .int .i64 E, .string (bs T)] 53)) (by kernel_rfl) ?_
      have hS0 : WA.drew.heap[D]? = some (.cells #[.int .i64 cl, .int .i64 no, .int .i64 kind, .string (bs k), .string (bs v), .string (bs od), .int .i64 fr, .int .i64 tt, .int .i64 E, .string (bs T)] 53) := HA.out.2.2.2.2
      refine Y_take (i := 0) (v := ?_) rfl (by kernel_rfl) (by kernel_rfl) (by kernel_rfl) (by kernel_rfl) (fun _ _ _ h => h) (by rfl) hS0 ?_ ?_
      rotate_left
      · (intro w' hSw; have p0 := cellB hSw 0 _ rfl; have p1 := cellB hSw 1 _ rfl; have p2 := cellB hSw 2 _ rfl; have p3 := cellB hSw 3 _ rfl; have p4 := cellB hSw 4 _ rfl; have p5 := cellB hSw 5 _ rfl; have p6 := cellB hSw 6 _ rfl; have p7 := cellB hSw 7 _ rfl; have p8 := cellB hSw 8 _ rfl; have p9 := cellB hSw 9 _ rfl; go_simp; (try with_reducible rfl))
      simp only [Act.put, List.setIfInBounds_toArray, List.getElem_toArray, List.getElem_cons_zero, List.set_cons_succ, List.set_cons_zero]
      refine Y_take (i := 1) (v := ?_) rfl (by kernel_rfl) (by kernel_rfl) (by kernel_rfl) (by kernel_rfl) (fun _ _ _ h => h) (by rfl) hS0 ?_ ?_
      rotate_left
      · (intro w' hSw; have p0 := cellB hSw 0 _ rfl; have p1 := cellB hSw 1 _ rfl; have p2 := cellB hSw 2 _ rfl; have p3 := cellB hSw 3 _ rfl; have p4 := cellB hSw 4 _ rfl; have p5 := cellB hSw 5 _ rfl; have p6 := cellB hSw 6 _ rfl; have p7 := cellB hSw 7 _ rfl; have p8 := cellB hSw 8 _ rfl; have p9 := cellB hSw 9 _ rfl; go_simp; (try with_reducible rfl))
      simp only [Act.put, List.setIfInBounds_toArray, List.getElem_toArray, List.getElem_cons_succ, List.getElem_cons_zero, List.set_cons_succ, List.set_cons_zero]
      refine Y_take (i := 2) (v := ?_) rfl (by kernel_rfl) (by kernel_rfl) (by kernel_rfl) (by kernel_rfl) (fun _ _ _ h => h) (by rfl) hS0 ?_ ?_
      rotate_left
      · (intro w' hSw; have p0 := cellB hSw 0 _ rfl; have p1 := cellB hSw 1 _ rfl; have p2 := cellB hSw 2 _ rfl; have p3 := cellB hSw 3 _ rfl; have p4 := cellB hSw 4 _ rfl; have p5 := cellB hSw 5 _ rfl; have p6 := cellB hSw 6 _ rfl; have p7 := cellB hSw 7 _ rfl; have p8 := cellB hSw 8 _ rfl; have p9 := cellB hSw 9 _ rfl; go_simp; (try with_reducible rfl))
      simp only [Act.put, List.setIfInBounds_toArray, List.getElem_toArray, List.getElem_cons_succ, List.getElem_cons_zero, List.set_cons_succ, List.set_cons_zero]
      refine Y_take (i := 3) (v := ?_) rfl (by kernel_rfl) (by kernel_rfl) (by kernel_rfl) (by kernel_rfl) (fun _ _ _ h => h) (by rfl) hS0 ?_ ?_
      rotate_left
      · (intro w' hSw; have p0 := cellB hSw 0 _ rfl; have p1 := cellB hSw 1 _ rfl; have p2 := cellB hSw 2 _ rfl; have p3 := cellB hSw 3 _ rfl; have p4 := cellB hSw 4 _ rfl; have p5 := cellB hSw 5 _ rfl; have p6 := cellB hSw 6 _ rfl; have p7 := cellB hSw 7 _ rfl; have p8 := cellB hSw 8 _ rfl; have p9 := cellB hSw 9 _ rfl; go_simp; (try with_reducible rfl))
      simp only [Act.put, List.setIfInBounds_toArray, List.getElem_toArray, List.getElem_cons_succ, List.getElem_cons_zero, List.set_cons_succ, List.set_cons_zero]
      refine Y_take (i := 4) (v := ?_) rfl (by kernel_rfl) (by kernel_rfl) (by kernel_rfl) (by kernel_rfl) (fun _ _ _ h => h) (by rfl) hS0 ?_ ?_
      rotate_left
      · (intro w' hSw; have p0 := cellB hSw 0 _ rfl; have p1 := cellB hSw 1 _ rfl; have p2 := cellB hSw 2 _ rfl; have p3 := cellB hSw 3 _ rfl; have p4 := cellB hSw 4 _ rfl; have p5 := cellB hSw 5 _ rfl; have p6 := cellB hSw 6 _ rfl; have p7 := cellB hSw 7 _ rfl; have p8 := cellB hSw 8 _ rfl; have p9 := cellB hSw 9 _ rfl; go_simp; (try with_reducible rfl))
      simp only [Act.put, List.setIfInBounds_toArray, List.getElem_toArray, List.getElem_cons_succ, List.getElem_cons_zero, List.set_cons_succ, List.set_cons_zero]
      refine Y_take (i := 5) (v := ?_) rfl (by kernel_rfl) (by kernel_rfl) (by kernel_rfl) (by kernel_rfl) (fun _ _ _ h => h) (by rfl) hS0 ?_ ?_
      rotate_left
      · (intro w' hSw; have p0 := cellB hSw 0 _ rfl; have p1 := cellB hSw 1 _ rfl; have p2 := cellB hSw 2 _ rfl; have p3 := cellB hSw 3 _ rfl; have p4 := cellB hSw 4 _ rfl; have p5 := cellB hSw 5 _ rfl; have p6 := cellB hSw 6 _ rfl; have p7 := cellB hSw 7 _ rfl; have p8 := cellB hSw 8 _ rfl; have p9 := cellB hSw 9 _ rfl; go_simp; (try with_reducible rfl))
      simp only [Act.put, List.setIfInBounds_toArray, List.getElem_toArray, List.getElem_cons_succ, List.getElem_cons_zero, List.set_cons_succ, List.set_cons_zero]
      refine Y_take (i := 6) (v := ?_) rfl (by kernel_rfl) (by kernel_rfl) (by kernel_rfl) (by kernel_rfl) (fun _ _ _ h => h) (by rfl) hS0 ?_ ?_
      rotate_left
      · (intro w' hSw; have p0 := cellB hSw 0 _ rfl; have p1 := cellB hSw 1 _ rfl; have p2 := cellB hSw 2 _ rfl; have p3 := cellB hSw 3 _ rfl; have p4 := cellB hSw 4 _ rfl; have p5 := cellB hSw 5 _ rfl; have p6 := cellB hSw 6 _ rfl; have p7 := cellB hSw 7 _ rfl; have p8 := cellB hSw 8 _ rfl; have p9 := cellB hSw 9 _ rfl; go_simp; (try with_reducible rfl))
      simp only [Act.put, List.setIfInBounds_toArray, List.getElem_toArray, List.getElem_cons_succ, List.getElem_cons_zero, List.set_cons_succ, List.set_cons_zero]
      refine Y_take (i := 7) (v := ?_) rfl (by kernel_rfl) (by kernel_rfl) (by kernel_rfl) (by kernel_rfl) (fun _ _ _ h => h) (by rfl) hS0 ?_ ?_
      rotate_left
      · (intro w' hSw; have p0 := cellB hSw 0 _ rfl; have p1 := cellB hSw 1 _ rfl; have p2 := cellB hSw 2 _ rfl; have p3 := cellB hSw 3 _ rfl; have p4 := cellB hSw 4 _ rfl; have p5 := cellB hSw 5 _ rfl; have p6 := cellB hSw 6 _ rfl; have p7 := cellB hSw 7 _ rfl; have p8 := cellB hSw 8 _ rfl; have p9 := cellB hSw 9 _ rfl; go_simp; (try with_reducible rfl))
      simp only [Act.put, List.setIfInBounds_toArray, List.getElem_toArray, List.getElem_cons_succ, List.getElem_cons_zero, List.set_cons_succ, List.set_cons_zero]
      refine Y_take (i := 8) (v := ?_) rfl (by kernel_rfl) (by kernel_rfl) (by kernel_rfl) (by kernel_rfl) (fun _ _ _ h => h) (by rfl) hS0 ?_ ?_
      rotate_left
      · (intro w' hSw; have p0 := cellB hSw 0 _ rfl; have p1 := cellB hSw 1 _ rfl; have p2 := cellB hSw 2 _ rfl; have p3 := cellB hSw 3 _ rfl; have p4 := cellB hSw 4 _ rfl; have p5 := cellB hSw 5 _ rfl; have p6 := cellB hSw 6 _ rfl; have p7 := cellB hSw 7 _ rfl; have p8 := cellB hSw 8 _ rfl; have p9 := cellB hSw 9 _ rfl; go_simp; (try with_reducible rfl))
      simp only [Act.put, List.setIfInBounds_toArray, List.getElem_toArray, List.getElem_cons_succ, List.getElem_cons_zero, List.set_cons_succ, List.set_cons_zero]
      refine Y_take (i := 9) (v := ?_) rfl (by kernel_rfl) (by kernel_rfl) (by kernel_rfl) (by kernel_rfl) (fun _ _ _ h => h) (by rfl) hS0 ?_ ?_
      rotate_left
      · (intro w' hSw; have p0 := cellB hSw 0 _ rfl; have p1 := cellB hSw 1 _ rfl; have p2 := cellB hSw 2 _ rfl; have p3 := cellB hSw 3 _ rfl; have p4 := cellB hSw 4 _ rfl; have p5 := cellB hSw 5 _ rfl; have p6 := cellB hSw 6 _ rfl; have p7 := cellB hSw 7 _ rfl; have p8 := cellB hSw 8 _ rfl; have p9 := cellB hSw 9 _ rfl; go_simp; (try with_reducible rfl))
      simp only [Act.put, List.setIfInBounds_toArray, List.getElem_toArray, List.getElem_cons_succ, List.getElem_cons_zero, List.set_cons_succ, List.set_cons_zero]
      refine Y_take (i := 10) (v := ?_) rfl (by kernel_rfl) (by kernel_rfl) (by kernel_rfl) (by kernel_rfl) (fun _ _ _ h => h) (by rfl) hS0 ?_ ?_
      rotate_left
      · (intro w' hSw; have p0 := cellB hSw 0 _ rfl; have p1 := cellB hSw 1 _ rfl; have p2 := cellB hSw 2 _ rfl; have p3 := cellB hSw 3 _ rfl; have p4 := cellB hSw 4 _ rfl; have p5 := cellB hSw 5 _ rfl; have p6 := cellB hSw 6 _ rfl; have p7 := cellB hSw 7 _ rfl; have p8 := cellB hSw 8 _ rfl; have p9 := cellB hSw 9 _ rfl; go_simp; (try with_reducible rfl))
      simp only [Act.put, List.setIfInBounds_toArray, List.getElem_toArray, List.getElem_cons_succ, List.getElem_cons_zero, List.set_cons_succ, List.set_cons_zero]
      refine Y_take (i := 11) (v := ?_) rfl (by kernel_rfl) (by kernel_rfl) (by kernel_rfl) (by kernel_rfl) (fun _ _ _ h => h) (by rfl) hS0 ?_ ?_
      rotate_left
      · (intro w' hSw; have p0 := cellB hSw 0 _ rfl; have p1 := cellB hSw 1 _ rfl; have p2 := cellB hSw 2 _ rfl; have p3 := cellB hSw 3 _ rfl; have p4 := cellB hSw 4 _ rfl; have p5 := cellB hSw 5 _ rfl; have p6 := cellB hSw 6 _ rfl; have p7 := cellB hSw 7 _ rfl; have p8 := cellB hSw 8 _ rfl; have p9 := cellB hSw 9 _ rfl; go_simp; (try with_reducible rfl))
      simp only [Act.put, List.setIfInBounds_toArray, List.getElem_toArray, List.getElem_cons_succ, List.getElem_cons_zero, List.set_cons_succ, List.set_cons_zero]
      refine Y_take (i := 12) (v := ?_) rfl (by kernel_rfl) (by kernel_rfl) (by kernel_rfl) (by kernel_rfl) (fun _ _ _ h => h) (by rfl) hS0 ?_ ?_
      rotate_left
      · (intro w' hSw; have p0 := cellB hSw 0 _ rfl; have p1 := cellB hSw 1 _ rfl; have p2 := cellB hSw 2 _ rfl; have p3 := cellB hSw 3 _ rfl; have p4 := cellB hSw 4 _ rfl; have p5 := cellB hSw 5 _ rfl; have p6 := cellB hSw 6 _ rfl; have p7 := cellB hSw 7 _ rfl; have p8 := cellB hSw 8 _ rfl; have p9 := cellB hSw 9 _ rfl; go_simp; (try with_reducible rfl))
      simp only [Act.put, List.setIfInBounds_toArray, List.getElem_toArray, List.getElem_cons_succ, List.getElem_cons_zero, List.set_cons_succ, List.set_cons_zero]
      refine Y_take (i := 13) (v := ?_) rfl (by kernel_rfl) (by kernel_rfl) (by kernel_rfl) (by kernel_rfl) (fun _ _ _ h => h) (by rfl) hS0 ?_ ?_
      rotate_left
      · (intro w' hSw; have p0 := cellB hSw 0 _ rfl; have p1 := cellB hSw 1 _ rfl; have p2 := cellB hSw 2 _ rfl; have p3 := cellB hSw 3 _ rfl; have p4 := cellB hSw 4 _ rfl; have p5 := cellB hSw 5 _ rfl; have p6 := cellB hSw 6 _ rfl; have p7 := cellB hSw 7 _ rfl; have p8 := cellB hSw 8 _ rfl; have p9 := cellB hSw 9 _ rfl; go_simp; (try with_reducible rfl))
      simp only [Act.put, List.setIfInBounds_toArray, List.getElem_toArray, List.getElem_cons_succ, List.getElem_cons_zero, List.set_cons_succ, List.set_cons_zero]
      refine Y_take (i := 14) (v := ?_) rfl (by kernel_rfl) (by kernel_rfl) (by kernel_rfl) (by kernel_rfl) (fun _ _ _ h => h) (by rfl) hS0 ?_ ?_
      rotate_left
      · (intro w' hSw; have p0 := cellB hSw 0 _ rfl; have p1 := cellB hSw 1 _ rfl; have p2 := cellB hSw 2 _ rfl; have p3 := cellB hSw 3 _ rfl; have p4 := cellB hSw 4 _ rfl; have p5 := cellB hSw 5 _ rfl; have p6 := cellB hSw 6 _ rfl; have p7 := cellB hSw 7 _ rfl; have p8 := cellB hSw 8 _ rfl; have p9 := cellB hSw 9 _ rfl; go_simp; (try with_reducible rfl))
      simp only [Act.put, List.setIfInBounds_toArray, List.getElem_toArray, List.getElem_cons_succ, List.getElem_cons_zero, List.set_cons_succ, List.set_cons_zero]
      refine Y_take (i := 15) (v := ?_) rfl (by kernel_rfl) (by kernel_rfl) (by kernel_rfl) (by kernel_rfl) (fun _ _ _ h => h) (by rfl) hS0 ?_ ?_
      rotate_left
      · (intro w' hSw; have p0 := cellB hSw 0 _ rfl; have p1 := cellB hSw 1 _ rfl; have p2 := cellB hSw 2 _ rfl; have p3 := cellB hSw 3 _ rfl; have p4 := cellB hSw 4 _ rfl; have p5 := cellB hSw 5 _ rfl; have p6 := cellB hSw 6 _ rfl; have p7 := cellB hSw 7 _ rfl; have p8 := cellB hSw 8 _ rfl; have p9 := cellB hSw 9 _ rfl; go_simp; (try with_reducible rfl))
      simp only [Act.put, List.setIfInBounds_toArray, List.getElem_toArray, List.getElem_cons_succ, List.getElem_cons_zero, List.set_cons_succ, List.set_cons_zero]
      refine Y_take (i := 16) (v := ?_) rfl (by kernel_rfl) (by kernel_rfl) (by kernel_rfl) (by kernel_rfl) (fun _ _ _ h => h) (by rfl) hS0 ?_ ?_
      rotate_left
      · (intro w' hSw; have p0 := cellB hSw 0 _ rfl; have p1 := cellB hSw 1 _ rfl; have p2 := cellB hSw 2 _ rfl; have p3 := cellB hSw 3 _ rfl; have p4 := cellB hSw 4 _ rfl; have p5 := cellB hSw 5 _ rfl; have p6 := cellB hSw 6 _ rfl; have p7 := cellB hSw 7 _ rfl; have p8 := cellB hSw 8 _ rfl; have p9 := cellB hSw 9 _ rfl; go_simp; (try with_reducible rfl))
      simp only [Act.put, List.setIfInBounds_toArray, List.getElem_toArray, List.getElem_cons_succ, List.getElem_cons_zero, List.set_cons_succ, List.set_cons_zero]
      refine Y_take (i := 17) (v := ?_) rfl (by kernel_rfl) (by kernel_rfl) (by kernel_rfl) (by kernel_rfl) (fun _ _ _ h => h) (by rfl) hS0 ?_ ?_
      rotate_left
      · (intro w' hSw; have p0 := cellB hSw 0 _ rfl; have p1 := cellB hSw 1 _ rfl; have p2 := cellB hSw 2 _ rfl; have p3 := cellB hSw 3 _ rfl; have p4 := cellB hSw 4 _ rfl; have p5 := cellB hSw 5 _ rfl; have p6 := cellB hSw 6 _ rfl; have p7 := cellB hSw 7 _ rfl; have p8 := cellB hSw 8 _ rfl; have p9 := cellB hSw 9 _ rfl; go_simp; (try with_reducible rfl))
      simp only [Act.put, List.setIfInBounds_toArray, List.getElem_toArray, List.getElem_cons_succ, List.getElem_cons_zero, List.set_cons_succ, List.set_cons_zero]
      refine Y_take (i := 18) (v := ?_) rfl (by kernel_rfl) (by kernel_rfl) (by kernel_rfl) (by kernel_rfl) (fun _ _ _ h => h) (by rfl) hS0 ?_ ?_
      rotate_left
      · (intro w' hSw; have p0 := cellB hSw 0 _ rfl; have p1 := cellB hSw 1 _ rfl; have p2 := cellB hSw 2 _ rfl; have p3 := cellB hSw 3 _ rfl; have p4 := cellB hSw 4 _ rfl; have p5 := cellB hSw 5 _ rfl; have p6 := cellB hSw 6 _ rfl; have p7 := cellB hSw 7 _ rfl; have p8 := cellB hSw 8 _ rfl; have p9 := cellB hSw 9 _ rfl; go_simp; (try with_reducible rfl))
      simp only [Act.put, List.setIfInBounds_toArray, List.getElem_toArray, List.getElem_cons_succ, List.getElem_cons_zero, List.set_cons_succ, List.set_cons_zero]
      refine Y_take (i := 19) (v := ?_) rfl (by kernel_rfl) (by kernel_rfl) (by kernel_rfl) (by kernel_rfl) (fun _ _ _ h => h) (by rfl) hS0 ?_ ?_
      rotate_left
      · (intro w' hSw; have p0 := cellB hSw 0 _ rfl; have p1 := cellB hSw 1 _ rfl; have p2 := cellB hSw 2 _ rfl; have p3 := cellB hSw 3 _ rfl; have p4 := cellB hSw 4 _ rfl; have p5 := cellB hSw 5 _ rfl; have p6 := cellB hSw 6 _ rfl; have p7 := cellB hSw 7 _ rfl; have p8 := cellB hSw 8 _ rfl; have p9 := cellB hSw 9 _ rfl; go_simp; (try with_reducible rfl))
      simp only [Act.put, List.setIfInBounds_toArray, List.getElem_toArray, List.getElem_cons_succ, List.getElem_cons_zero, List.set_cons_succ, List.set_cons_zero]
      refine Y_take (i := 20) (v := ?_) rfl (by kernel_rfl) (by kernel_rfl) (by kernel_rfl) (by kernel_rfl) (fun _ _ _ h => h) (by rfl) hS0 ?_ ?_
      rotate_left
      · (intro w' hSw; have p0 := cellB hSw 0 _ rfl; have p1 := cellB hSw 1 _ rfl; have p2 := cellB hSw 2 _ rfl; have p3 := cellB hSw 3 _ rfl; have p4 := cellB hSw 4 _ rfl; have p5 := cellB hSw 5 _ rfl; have p6 := cellB hSw 6 _ rfl; have p7 := cellB hSw 7 _ rfl; have p8 := cellB hSw 8 _ rfl; have p9 := cellB hSw 9 _ rfl; go_simp; (try with_reducible rfl))
      simp only [Act.put, List.setIfInBounds_toArray, List.getElem_toArray, List.getElem_cons_succ, List.getElem_cons_zero, List.set_cons_succ, List.set_cons_zero]
      refine Y_take (i := 21) (v := ?_) rfl (by kernel_rfl) (by kernel_rfl) (by kernel_rfl) (by kernel_rfl) (fun _ _ _ h => h) (by rfl) hS0 ?_ ?_
      rotate_left
      · (intro w' hSw; have p0 := cellB hSw 0 _ rfl; have p1 := cellB hSw 1 _ rfl; have p2 := cellB hSw 2 _ rfl; have p3 := cellB hSw 3 _ rfl; have p4 := cellB hSw 4 _ rfl; have p5 := cellB hSw 5 _ rfl; have p6 := cellB hSw 6 _ rfl; have p7 := cellB hSw 7 _ rfl; have p8 := cellB hSw 8 _ rfl; have p9 := cellB hSw 9 _ rfl; go_simp; (try with_reducible rfl))
      simp only [Act.put, List.setIfInBounds_toArray, List.getElem_toArray, List.getElem_cons_succ, List.getElem_cons_zero, List.set_cons_succ, List.set_cons_zero]
      refine Y_take (i := 22) (v := ?_) rfl (by kernel_rfl) (by kernel_rfl) (by kernel_rfl) (by kernel_rfl) (fun _ _ _ h => h) (by rfl) hS0 ?_ ?_
      rotate_left
      · (intro w' hSw; have p0 := cellB hSw 0 _ rfl; have p1 := cellB hSw 1 _ rfl; have p2 := cellB hSw 2 _ rfl; have p3 := cellB hSw 3 _ rfl; have p4 := cellB hSw 4 _ rfl; have p5 := cellB hSw 5 _ rfl; have p6 := cellB hSw 6 _ rfl; have p7 := cellB hSw 7 _ rfl; have p8 := cellB hSw 8 _ rfl; have p9 := cellB hSw 9 _ rfl; go_simp; (try with_reducible rfl))
      simp only [Act.put, List.setIfInBounds_toArray, List.getElem_toArray, List.getElem_cons_succ, List.getElem_cons_zero, List.set_cons_succ, List.set_cons_zero]
      refine Y_take (i := 23) (v := ?_) rfl (by kernel_rfl) (by kernel_rfl) (by kernel_rfl) (by kernel_rfl) (fun _ _ _ h => h) (by rfl) hS0 ?_ ?_
      rotate_left
      · (intro w' hSw; have p0 := cellB hSw 0 _ rfl; have p1 := cellB hSw 1 _ rfl; have p2 := cellB hSw 2 _ rfl; have p3 := cellB hSw 3 _ rfl; have p4 := cellB hSw 4 _ rfl; have p5 := cellB hSw 5 _ rfl; have p6 := cellB hSw 6 _ rfl; have p7 := cellB hSw 7 _ rfl; have p8 := cellB hSw 8 _ rfl; have p9 := cellB hSw 9 _ rfl; go_simp; (try with_reducible rfl))
      simp only [Act.put, List.setIfInBounds_toArray, List.getElem_toArray, List.getElem_cons_succ, List.getElem_cons_zero, List.set_cons_succ, List.set_cons_zero]
      refine Z_step (i := 24) (by kernel_rfl) rfl (fun K' hK => ?_)
      go_simp
      refine (HAN.out _).mono ?_
      rintro e w1 ⟨rfl, hB1⟩
      have hb1 : Below (D + 1) WA w1 := (below_drew (Below.refl (D + 1) WA)).trans (hB1.mono (by show D + 1 ≤ WA.heap.size; have := HA.out.2.2.1; omega))
      have hS1 := (hb1.block D (by omega)).trans HA.out.2.2.2.2
      refine hK _ _ (fun _ => hS1) ?_
      clear hK K'
      refine Y_take (i := 25) (v := ?_) rfl (by kernel_rfl) (by kernel_rfl) (by kernel_rfl) (by kernel_rfl) (fun _ _ _ h => h) (by rfl) hS1 ?_ ?_
      rotate_left
      · (intro w' hSw; have p0 := cellB hSw 0 _ rfl; have p1 := cellB hSw 1 _ rfl; have p2 := cellB hSw 2 _ rfl; have p3 := cellB hSw 3 _ rfl; have p4 := cellB hSw 4 _ rfl; have p5 := cellB hSw 5 _ rfl; have p6 := cellB hSw 6 _ rfl; have p7 := cellB hSw 7 _ rfl; have p8 := cellB hSw 8 _ rfl; have p9 := cellB hSw 9 _ rfl; go_simp; (try with_reducible rfl))
      simp only [Act.put, List.setIfInBounds_toArray, List.getElem_toArray, List.getElem_cons_succ, List.getElem_cons_zero, List.set_cons_succ, List.set_cons_zero]
      refine Z_step (i := 26) (by kernel_rfl) rfl (fun K' hK => ?_)
      go_simp
      obtain ⟨w2, hw2⟩ : ∃ W, w1.alloc (.cells #[.int .i64 cl, .int .i64 no, .int .i64 kind, .string (bs k), .string (bs v), .string (bs od), .int .i64 fr, .int .i64 tt, .int .i64 E, .string (bs T)] 68) = W := ⟨_, rfl⟩
      have hb2 := (Below.refl w1.heap.size w1).alloc (Nat.le_refl _) (.cells #[.int .i64 cl, .int .i64 no, .int .i64 kind, .string (bs k), .string (bs v), .string (bs od), .int .i64 fr, .int .i64 tt, .int .i64 E, .string (bs T)] 68)
      have rN := heap_alloc_new w1 (.cells #[.int .i64 cl, .int .i64 no, .int .i64 kind, .string (bs k), .string (bs v), .string (bs od), .int .i64 fr, .int .i64 tt, .int .i64 E, .string (bs T)] 68)
      have hs1 : D + 1 ≤ w1.heap.size := by have := hb1.size; have := HA.out.2.2.1; omega
      have hs2 : w2.heap.size = w1.heap.size + 1 := by rw [← hw2, World.size_alloc]
      rw [hw2] at hb2 rN
      try rw [hw2]
      have hS2 := (hb2.block D (by omega)).trans hS1
      refine hK _ _ (fun _ => hS2) ?_
      clear hK K'
      refine Z_step (i := 27) (by kernel_rfl) rfl (fun K' hK => ?_)
      rw [if_pos (by rfl)]
      have hown2 : w2.ownsRow N 68 10 (.slice xa A.length xc) A.length (A.flatMap ccs) := owns_keep HA.out.1 fun q e => ((hb2.block q (by have := (hneA q e); omega)).trans (hb1.block q (by have := (hneA q e); omega)))
      refine opwp_append _ _ 32 rfl (.slice xa A.length xc) (.slice (some ⟨w1.heap.size, 0, none⟩) 1 1) rfl rfl (fun v' w' => ∃ ga ca, v' = .slice (some ⟨ga, 0, none⟩) (A.length + 1) ca ∧ w'.ownsRow N 68 10 v' (A.length + 1) (A.flatMap ccs ++ [.int .i64 cl, .int .i64 no, .int .i64 kind, .string (bs k), .string (bs v), .string (bs od), .int .i64 fr, .int .i64 tt, .int .i64 E, .string (bs T)]) ∧ w2.grownBy w' (Value.slice xa A.length xc).ownBlock) ?_ ?_
      · obtain ⟨ga, ca, w', h1, h2, h3, h4, h5⟩ := run_append_lies (P := Tryd.prog) w2 32 32 N 68 i0 (.agg #[.int .i64 0, .int .i64 0, .int .i64 0, .string ⟨#[]⟩, .string ⟨#[]⟩, .string ⟨#[]⟩, .int .i64 0, .int .i64 0, .int .i64 0, .string ⟨#[]⟩]) 10 112 Tryd.underlying32 hi hz0 hz1 hz2 rfl (by decide) (.slice xa A.length xc) A.length _ hown2 ⟨w1.heap.size, 0, none⟩ 1 1 [.int .i64 cl, .int .i64 no, .int .i64 kind, .string (bs k), .string (bs v), .string (bs od), .int .i64 fr, .int .i64 tt, .int .i64 E, .string (bs T)] rfl (World.news_of_block rN) (by simp [Value.oneCell']) (by decide) (by unfold maxLen; have := HTk.out.2; have := HL.out; omega) (by have := HTk.out.2; have := HL.out; omega) (by have := HA.out.2.2.2; omega) _ rfl
        exact ⟨_, w', h1, ga, ca, rfl, h2, h3⟩
      rintro v' w3 ⟨ga, ca, rfl, g1, g2⟩
      have hS3 := (g2.block D (by have := hs1; omega) (fun e => by have := hneA D e.symm; omega)).trans hS2
      have hB3 : Below N w w3 := ((HA.out.2.1.trans (hb1.mono (by have := HA.out.2.2.2; omega))).trans (hb2.mono (by have := HA.out.2.2.2; omega))).grown g2 (by have := HA.out.2.2.2; omega) (fun z hz => (hown2.lt z hz).1)
      refine hK _ _ (fun _ => hS3) ?_
      clear hK K'
      refine Z_step (i := 28) (by kernel_rfl) rfl (fun K' hK => ?_)
      go_simp
      refine hK _ _ (fun _ => hS3) (Z_done (by kernel_rfl) ?_ _)
      clear hK K'
      all_goals
        have hl9 := HL.out
        go_wp2
        go_roundg (l.length - (n + 1))
        case measure => omega
        case rel => exact ⟨n + 1, by omega, by go_num, by rw [HTk.out.1, List.length_append, List.flatMap_append]; exact g1, hB3⟩
    obtain rfl : n = l.length := by omega
    rw [List.take_length] at hown ⊢
    have HO : Hid (_ ∧ _) := And.intro hown hB
    clear hown hB
    go_wp2
    go_ret
    exact ⟨_, rfl, SlF.of_owns (fun _ => rfl) HO.out.1, by rw [HN.out]; exact HO.out.2⟩
end Go.Proofs.YtdfonbhboncjmaaDoor
