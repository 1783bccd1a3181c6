/- The law's calls and points, walked. -/
import Derived.Test.YtihilkdokfdoeaaDoorPlA
namespace Go.Proofs.YtihilkdokfdoeaaDoor
open Go.RowKit Go.Maps
attribute [local go_sem ↓] Go.wp_at_zero Go.wp_at_succ

theorem set5h {w : World} {B : Nat} {t : TypeId} {fr : Nat × Nat} {x0 x1 x2 x3 x4 : Value} (h : w.heap[B]? = some (.cells #[x0, x1, x2, x3, x4] t fr)) (a0 a1 a2 a3 a4 : Value) :
    (((((w.setCell ⟨B, 0, none⟩ a0).setCell ⟨B, 1, none⟩ a1).setCell ⟨B, 2, none⟩ a2).setCell ⟨B, 3, none⟩ a3).setCell ⟨B, 4, none⟩ a4).heap[B]? = some (.cells #[a0, a1, a2, a3, a4] t fr) := setB (setB (setB (setB (setB h 0 a0) 1 a1) 2 a2) 3 a3) 4 a4
theorem Tryd.info53 : (Tryd.prog.info? 53).map (fun i => (i.zero, i.size, i.bytes)) = some (some (.agg #[.int .i64 0, .int .i64 0, .int .i64 0, .int .i64 0, .string ⟨#[]⟩]), 5, 48) := by kernel_rfl
theorem Tryd.info45 : (Tryd.prog.info? 45).map (fun i => (i.zero, i.size, i.bytes)) = some (some (.agg #[.int .i64 0, .int .i64 0, .int .i64 0, .string ⟨#[]⟩, .string ⟨#[]⟩, .string ⟨#[]⟩, .int .i64 0, .int .i64 0, .int .i64 0, .string ⟨#[]⟩]), 10, 112) := by kernel_rfl
set_option maxRecDepth 20000 in
theorem call_any (cl no kind : Int) (k v od : List UInt8) (fr tt E : Int) (T : List UInt8) (w : World) : Calls Tryd.prog 13 #[.agg #[.int .i64 cl, .int .i64 no, .int .i64 kind, .string (bs k), .string (bs v), .string (bs od), .int .i64 fr, .int .i64 tt, .int .i64 E, .string (bs T)]] w fun e W' => e = .returned (.agg #[.int .i64 cl, .int .i64 no, .int .i64 kind, .string (bs k), .string (bs v), .string (bs od), .int .i64 fr, .int .i64 tt, .int .i64 E, .string (bs T)]) ∧ Below w.heap.size w W' := by
  obtain ⟨W2, hW2⟩ : ∃ W, (w.alloc (.cells #[.int .i64 cl, .int .i64 no, .int .i64 kind, .string (bs k), .string (bs v), .string (bs od), .int .i64 fr, .int .i64 tt, .int .i64 E, .string (bs T)] 51)).alloc (.cells #[.int .i64 0, .int .i64 0, .int .i64 0, .string ⟨#[]⟩, .string ⟨#[]⟩, .string ⟨#[]⟩, .int .i64 0, .int .i64 0, .int .i64 0, .string ⟨#[]⟩] 45) = W := ⟨_, rfl⟩
  obtain ⟨N, hN⟩ : ∃ N, w.heap.size = N := ⟨_, rfl⟩
  have hb1 : Below N w W2 := by rw [← hW2, ← hN]; exact ((Below.refl _ w).alloc (Nat.le_refl _) _).alloc (by simp) _
  have z0 : W2.heap[N]? = some (.cells #[.int .i64 cl, .int .i64 no, .int .i64 kind, .string (bs k), .string (bs v), .string (bs od), .int .i64 fr, .int .i64 tt, .int .i64 E, .string (bs T)] 51) := by
    rw [← hW2, ← hN]
    exact ((Below.refl (w.heap.size + 1) _).alloc (by simp) _).block w.heap.size (by omega) |>.trans (heap_alloc_new _ _)
  have hres : W2.heap[N + 1]? = some (.cells #[.int .i64 0, .int .i64 0, .int .i64 0, .string ⟨#[]⟩, .string ⟨#[]⟩, .string ⟨#[]⟩, .int .i64 0, .int .i64 0, .int .i64 0, .string ⟨#[]⟩] 45) := by
    rw [← hW2, ← hN]
    have := heap_alloc_new (w.alloc (.cells #[.int .i64 cl, .int .i64 no, .int .i64 kind, .string (bs k), .string (bs v), .string (bs od), .int .i64 fr, .int .i64 tt, .int .i64 E, .string (bs T)] 51)) (.cells #[.int .i64 0, .int .i64 0, .int .i64 0, .string ⟨#[]⟩, .string ⟨#[]⟩, .string ⟨#[]⟩, .int .i64 0, .int .i64 0, .int .i64 0, .string ⟨#[]⟩] 45)
    rw [World.size_alloc] at this
    exact this
  have HW : Hid ((w.alloc (.cells #[.int .i64 cl, .int .i64 no, .int .i64 kind, .string (bs k), .string (bs v), .string (bs od), .int .i64 fr, .int .i64 tt, .int .i64 E, .string (bs T)] 51)).alloc (.cells #[.int .i64 0, .int .i64 0, .int .i64 0, .string ⟨#[]⟩, .string ⟨#[]⟩, .string ⟨#[]⟩, .int .i64 0, .int .i64 0, .int .i64 0, .string ⟨#[]⟩] 45) = W2) := hW2
  have HN : Hid (w.heap.size = N) := hN
  have c0 := cellB z0 0 _ rfl
  have c1 := cellB z0 1 _ rfl
  have c2 := cellB z0 2 _ rfl
  have c3 := cellB z0 3 _ rfl
  have c4 := cellB z0 4 _ rfl
  have c5 := cellB z0 5 _ rfl
  have c6 := cellB z0 6 _ rfl
  have c7 := cellB z0 7 _ rfl
  have c8 := cellB z0 8 _ rfl
  have c9 := cellB z0 9 _ rfl
  have g0 := cellB hres 0 _ rfl
  have g1 := cellB hres 1 _ rfl
  have g2 := cellB hres 2 _ rfl
  have g3 := cellB hres 3 _ rfl
  have g4 := cellB hres 4 _ rfl
  have g5 := cellB hres 5 _ rfl
  have g6 := cellB hres 6 _ rfl
  have g7 := cellB hres 7 _ rfl
  have g8 := cellB hres 8 _ rfl
  have g9 := cellB hres 9 _ rfl
  have f0 := frozenB hres 0
  have f1 := frozenB hres 1
  have f2 := frozenB hres 2
  have f3 := frozenB hres 3
  have f4 := frozenB hres 4
  have f5 := frozenB hres 5
  have f6 := frozenB hres 6
  have f7 := frozenB hres 7
  have f8 := frozenB hres 8
  have f9 := frozenB hres 9
  have hS := set10h hres (.int .i64 cl) (.int .i64 no) (.int .i64 kind) (.string (bs k)) (.string (bs v)) (.string (bs od)) (.int .i64 fr) (.int .i64 tt) (.int .i64 E) (.string (bs T))
  have r0 := cellB hS 0 _ rfl
  have r1 := cellB hS 1 _ rfl
  have r2 := cellB hS 2 _ rfl
  have r3 := cellB hS 3 _ rfl
  have r4 := cellB hS 4 _ rfl
  have r5 := cellB hS 5 _ rfl
  have r6 := cellB hS 6 _ rfl
  have r7 := cellB hS 7 _ rfl
  have r8 := cellB hS 8 _ rfl
  have r9 := cellB hS 9 _ rfl
  have HR : Hid (_) := And.intro r0 ( And.intro r1 ( And.intro r2 ( And.intro r3 ( And.intro r4 ( And.intro r5 ( And.intro r6 ( And.intro r7 ( And.intro r8 (r9)))))))))
  have HB1 : Hid (Below N w W2) := hb1
  clear hS hres z0 hb1 hW2 hN r0 r1 r2 r3 r4 r5 r6 r7 r8 r9
  go_enter Tryd.func13, Tryd.ntmps13
  go_upto_region 1 with fail
  rw [HW.out]
  try rw [HN.out]
  go_wp2
  obtain ⟨r0, r1, r2, r3, r4, r5, r6, r7, r8, r9⟩ := HR.out
  refine bodyPost_ret (v := .agg #[.int .i64 cl, .int .i64 no, .int .i64 kind, .string (bs k), .string (bs v), .string (bs od), .int .i64 fr, .int .i64 tt, .int .i64 E, .string (bs T)]) (by simp [results, Tryd.f13, go_sem, r0, r1, r2, r3, r4, r5, r6, r7, r8, r9]) rfl ⟨rfl, ?_⟩
  rw [HN.out]
  exact ((((((((((HB1.out.setCell (p := ⟨N + 1, 0, none⟩) (Nat.le_succ N) (.int .i64 cl)).setCell (p := ⟨N + 1, 1, none⟩) (Nat.le_succ N) (.int .i64 no)).setCell (p := ⟨N + 1, 2, none⟩) (Nat.le_succ N) (.int .i64 kind)).setCell (p := ⟨N + 1, 3, none⟩) (Nat.le_succ N) (.string (bs k))).setCell (p := ⟨N + 1, 4, none⟩) (Nat.le_succ N) (.string (bs v))).setCell (p := ⟨N + 1, 5, none⟩) (Nat.le_succ N) (.string (bs od))).setCell (p := ⟨N + 1, 6, none⟩) (Nat.le_succ N) (.int .i64 fr)).setCell (p := ⟨N + 1, 7, none⟩) (Nat.le_succ N) (.int .i64 tt)).setCell (p := ⟨N + 1, 8, none⟩) (Nat.le_succ N) (.int .i64 E)).setCell (p := ⟨N + 1, 9, none⟩) (Nat.le_succ N) (.string (bs T)))
set_option maxRecDepth 20000 in
theorem point_any (tm pcl pno pE : Int) (pT : List UInt8) (w : World) : Calls Tryd.prog 14 #[.agg #[.int .i64 tm, .int .i64 pcl, .int .i64 pno, .int .i64 pE, .string (bs pT)]] w fun e W' => e = .returned (.agg #[.int .i64 tm, .int .i64 pcl, .int .i64 pno, .int .i64 pE, .string (bs pT)]) ∧ Below w.heap.size w W' := by
  obtain ⟨W2, hW2⟩ : ∃ W, (w.alloc (.cells #[.int .i64 tm, .int .i64 pcl, .int .i64 pno, .int .i64 pE, .string (bs pT)] 56)).alloc (.cells #[.int .i64 0, .int .i64 0, .int .i64 0, .int .i64 0, .string ⟨#[]⟩] 53) = W := ⟨_, rfl⟩
  obtain ⟨N, hN⟩ : ∃ N, w.heap.size = N := ⟨_, rfl⟩
  have hb1 : Below N w W2 := by rw [← hW2, ← hN]; exact ((Below.refl _ w).alloc (Nat.le_refl _) _).alloc (by simp) _
  have z0 : W2.heap[N]? = some (.cells #[.int .i64 tm, .int .i64 pcl, .int .i64 pno, .int .i64 pE, .string (bs pT)] 56) := by
    rw [← hW2, ← hN]
    exact ((Below.refl (w.heap.size + 1) _).alloc (by simp) _).block w.heap.size (by omega) |>.trans (heap_alloc_new _ _)
  have hres : W2.heap[N + 1]? = some (.cells #[.int .i64 0, .int .i64 0, .int .i64 0, .int .i64 0, .string ⟨#[]⟩] 53) := by
    rw [← hW2, ← hN]
    have := heap_alloc_new (w.alloc (.cells #[.int .i64 tm, .int .i64 pcl, .int .i64 pno, .int .i64 pE, .string (bs pT)] 56)) (.cells #[.int .i64 0, .int .i64 0, .int .i64 0, .int .i64 0, .string ⟨#[]⟩] 53)
    rw [World.size_alloc] at this
    exact this
  have HW : Hid ((w.alloc (.cells #[.int .i64 tm, .int .i64 pcl, .int .i64 pno, .int .i64 pE, .string (bs pT)] 56)).alloc (.cells #[.int .i64 0, .int .i64 0, .int .i64 0, .int .i64 0, .string ⟨#[]⟩] 53) = W2) := hW2
  have HN : Hid (w.heap.size = N) := hN
  have c0 := cellB z0 0 _ rfl
  have c1 := cellB z0 1 _ rfl
  have c2 := cellB z0 2 _ rfl
  have c3 := cellB z0 3 _ rfl
  have c4 := cellB z0 4 _ rfl
  have g0 := cellB hres 0 _ rfl
  have g1 := cellB hres 1 _ rfl
  have g2 := cellB hres 2 _ rfl
  have g3 := cellB hres 3 _ rfl
  have g4 := cellB hres 4 _ rfl
  have f0 := frozenB hres 0
  have f1 := frozenB hres 1
  have f2 := frozenB hres 2
  have f3 := frozenB hres 3
  have f4 := frozenB hres 4
  have hS := set5h hres (.int .i64 tm) (.int .i64 pcl) (.int .i64 pno) (.int .i64 pE) (.string (bs pT))
  have r0 := cellB hS 0 _ rfl
  have r1 := cellB hS 1 _ rfl
  have r2 := cellB hS 2 _ rfl
  have r3 := cellB hS 3 _ rfl
  have r4 := cellB hS 4 _ rfl
  have HR : Hid (_) := And.intro r0 ( And.intro r1 ( And.intro r2 ( And.intro r3 (r4))))
  have HB1 : Hid (Below N w W2) := hb1
  clear hS hres z0 hb1 hW2 hN r0 r1 r2 r3 r4
  go_enter Tryd.func14, Tryd.ntmps14
  go_upto_region 1 with fail
  rw [HW.out]
  try rw [HN.out]
  go_wp2
  obtain ⟨r0, r1, r2, r3, r4⟩ := HR.out
  refine bodyPost_ret (v := .agg #[.int .i64 tm, .int .i64 pcl, .int .i64 pno, .int .i64 pE, .string (bs pT)]) (by simp [results, Tryd.f14, go_sem, r0, r1, r2, r3, r4]) rfl ⟨rfl, ?_⟩
  rw [HN.out]
  exact (((((HB1.out.setCell (p := ⟨N + 1, 0, none⟩) (Nat.le_succ N) (.int .i64 tm)).setCell (p := ⟨N + 1, 1, none⟩) (Nat.le_succ N) (.int .i64 pcl)).setCell (p := ⟨N + 1, 2, none⟩) (Nat.le_succ N) (.int .i64 pno)).setCell (p := ⟨N + 1, 3, none⟩) (Nat.le_succ N) (.int .i64 pE)).setCell (p := ⟨N + 1, 4, none⟩) (Nat.le_succ N) (.string (bs pT)))
set_option maxRecDepth 20000 in
set_option maxHeartbeats 1500000 in
theorem calls_any (l : List Cl) (v : Value) (w : World) (hv : SlF ccs 10 w v l) (hl : l.length ≤ 100000) : Calls Tryd.prog 11 #[v] w fun e W' => ∃ u, e = .returned u ∧ SlF ccs 10 W' u l ∧ Below w.heap.size w W' := by
  obtain ⟨va, vc, rfl⟩ := hv.slice
  obtain ⟨i0, hi, hz0, hz1, hz2⟩ := info_parts Tryd.info45
  obtain ⟨N, hN⟩ : ∃ N, w.heap.size = N := ⟨_, rfl⟩
  have HN : Hid (w.heap.size = N) := hN
  have HV : Hid (∀ W, Below N w W → SlF ccs 10 W (.slice va l.length vc) l) := fun W hW => hv.on hW (by omega)
  have HL : Hid (l.length ≤ 100000) := hl
  clear hv hN hl
  go_enter Tryd.func11, Tryd.ntmps11
  go_wp2_with fail
  go_loopg [3, 8] l.length (fun gk x j wr => ∃ n : Nat, n + gk = l.length ∧ j = .int .i64 n ∧ wr.ownsRow N 45 10 x (l.take n).length ((l.take n).flatMap ccs) ∧ Below N w wr)
  case atStart => exact ⟨0, by omega, rfl, World.ownsRow_nil _ _ _ _, by rw [← HN.out]; exact Below.refl _ _⟩
  case round =>
    obtain ⟨n, hnn, rfl, hown, hB⟩ := hrel
    obtain ⟨xa, xc, rfl⟩ := owns_slice hown
    by_cases hn1 : n = l.length
    · subst hn1
      rw [List.take_length] at hown ⊢
      have HO : Hid (_ ∧ _) := ⟨hown, hB⟩
      clear hown hB HV
      go_wp2
      go_ret
      exact ⟨_, rfl, SlF.of_owns (fun _ => rfl) HO.out.1, by rw [HN.out]; exact HO.out.2⟩
    have hn2 : n < l.length := by omega
    obtain ⟨p, ho⟩ : ∃ p, l[n]? = some p := ⟨_, List.getElem?_eq_getElem hn2⟩
    have htk := take_snoc ho
    have hlen : (l.take n).length = n := by rw [List.length_take]; omega
    obtain ⟨A, hA⟩ : ∃ A, l.take n = A := ⟨_, rfl⟩
    rw [hA] at htk hown hlen ⊢
    obtain ⟨g, e', hg', -, y⟩ := (HV.out _ hB).at ho
    cases hg'
    obtain ⟨cl, no, ⟨kind, k, v, od⟩, fr, tt, T, E⟩ := p
    have y0 : wr.cell? ⟨g, e' + n * 10, none⟩ = some (.int .i64 cl) := y 0 _ rfl
    have y1 : wr.cell? ⟨g, e' + n * 10 + 1, none⟩ = some (.int .i64 no) := y 1 _ rfl
    have y2 : wr.cell? ⟨g, e' + n * 10 + 2, none⟩ = some (.int .i64 kind) := y 2 _ rfl
    have y3 : wr.cell? ⟨g, e' + n * 10 + 3, none⟩ = some (.string (bs k)) := y 3 _ rfl
    have y4 : wr.cell? ⟨g, e' + n * 10 + 4, none⟩ = some (.string (bs v)) := y 4 _ rfl
    have y5 : wr.cell? ⟨g, e' + n * 10 + 5, none⟩ = some (.string (bs od)) := y 5 _ rfl
    have y6 : wr.cell? ⟨g, e' + n * 10 + 6, none⟩ = some (.int .i64 fr) := y 6 _ rfl
    have y7 : wr.cell? ⟨g, e' + n * 10 + 7, none⟩ = some (.int .i64 tt) := y 7 _ rfl
    have y8 : wr.cell? ⟨g, e' + n * 10 + 8, none⟩ = some (.int .i64 E) := y 8 _ rfl
    have y9 : wr.cell? ⟨g, e' + n * 10 + 9, none⟩ = some (.string (bs T)) := y 9 _ rfl
    have d0 : (0 : Int) ≤ (n : Int) := by omega
    have d1 : (n : Int) < (l.length : Int) := by omega
    obtain ⟨D, hD⟩ : ∃ D, wr.heap.size = D := ⟨_, rfl⟩
    have hND : N ≤ D := by have := hB.size; have := HN.out; omega
    have rD := heap_alloc_new wr (.cells #[.int .i64 cl, .int .i64 no, .int .i64 kind, .string (bs k), .string (bs v), .string (bs od), .int .i64 fr, .int .i64 tt, .int .i64 E, .string (bs T)] 51)
    have hbA := (Below.refl wr.heap.size wr).alloc (Nat.le_refl _) (.cells #[.int .i64 cl, .int .i64 no, .int .i64 kind, .string (bs k), .string (bs v), .string (bs od), .int .i64 fr, .int .i64 tt, .int .i64 E, .string (bs T)] 51)
    obtain ⟨WA, hWA⟩ : ∃ W, wr.alloc (.cells #[.int .i64 cl, .int .i64 no, .int .i64 kind, .string (bs k), .string (bs v), .string (bs od), .int .i64 fr, .int .i64 tt, .int .i64 E, .string (bs T)] 51) = W := ⟨_, rfl⟩
    rw [hWA] at rD hbA
    rw [hD] at rD hbA
    have hownA := owns_keep hown (w' := WA) fun q e => hbA.block q (by have := (hown.lt q e).2; omega)
    have hzA : WA.heap.size = D + 1 := by rw [← hWA, World.size_alloc, hD]
    have x0 := cellB rD 0 _ rfl
    have x1 := cellB rD 1 _ rfl
    have x2 := cellB rD 2 _ rfl
    have x3 := cellB rD 3 _ rfl
    have x4 := cellB rD 4 _ rfl
    have x5 := cellB rD 5 _ rfl
    have x6 := cellB rD 6 _ rfl
    have x7 := cellB rD 7 _ rfl
    have x8 := cellB rD 8 _ rfl
    have x9 := cellB rD 9 _ rfl
    have HC : Hid (Calls Tryd.prog 13 #[.agg #[.int .i64 cl, .int .i64 no, .int .i64 kind, .string (bs k), .string (bs v), .string (bs od), .int .i64 fr, .int .i64 tt, .int .i64 E, .string (bs T)]] WA fun e W' => e = .returned (.agg #[.int .i64 cl, .int .i64 no, .int .i64 kind, .string (bs k), .string (bs v), .string (bs od), .int .i64 fr, .int .i64 tt, .int .i64 E, .string (bs T)]) ∧ W'.ownsRow N 45 10 (.slice xa A.length xc) A.length (A.flatMap ccs) ∧ Below N w W' ∧ N ≤ W'.heap.size) := (call_any cl no kind k v od fr tt E T WA).mono fun e W' hh => ⟨hh.1, owns_keep hownA fun q e => hh.2.block q (by have := (hown.lt q e).2; omega), (hB.trans (hbA.mono hND)).trans (hh.2.mono (by omega)), by have := hh.2.size; omega⟩
    have HWA : Hid (wr.alloc (.cells #[.int .i64 cl, .int .i64 no, .int .i64 kind, .string (bs k), .string (bs v), .string (bs od), .int .i64 fr, .int .i64 tt, .int .i64 E, .string (bs T)] 51) = WA) := hWA
    have HD : Hid (wr.heap.size = D) := hD
    have HTk : Hid (l.take (n + 1) = A ++ [⟨cl, no, ⟨kind, k, v, od⟩, fr, tt, (T, E)⟩] ∧ A.length = n) := ⟨htk, hlen⟩
    have hnb : n ≤ 100000 := by have := HL.out; omega
    have hml : A.length + 1 ≤ maxLen := by unfold maxLen; have := HL.out; omega
    have hkb : (A.length + 1) * 112 ≤ 140737488355328 := by have := HL.out; omega
    clear htk hlen hA y hD hND hbA hWA rD hownA hown hB ho hzA
    go_upto_region 5 with fail
    rw [HWA.out]
    try rw [HD.out]
    clear y0 y1 y2 y3 y4 y5 y6 y7 y8 y9
    go_wp2_with (first
      | (go_at_call 13; refine HC.out.mono ?_; clear HC; rintro e W3 ⟨rfl, hown, hB3, hN3⟩; have hN4 : N ≤ (W3.alloc (.cells #[.int .i64 cl, .int .i64 no, .int .i64 kind, .string (bs k), .string (bs v), .string (bs od), .int .i64 fr, .int .i64 tt, .int .i64 E, .string (bs T)] 45)).heap.size := by (rw [World.size_alloc]; omega))
      | (at_builtin; refine wpList_append_lies _ rfl _ _ 32 rfl N 45 i0 (.agg #[.int .i64 0, .int .i64 0, .int .i64 0, .string ⟨#[]⟩, .string ⟨#[]⟩, .string ⟨#[]⟩, .int .i64 0, .int .i64 0, .int .i64 0, .string ⟨#[]⟩]) 10 112 Tryd.underlying32 hi hz0 hz1 hz2 rfl (by decide) (.slice xa A.length xc) A.length _ rfl (hown.alloc _) _ 1 1 [.int .i64 cl, .int .i64 no, .int .i64 kind, .string (bs k), .string (bs v), .string (bs od), .int .i64 fr, .int .i64 tt, .int .i64 E, .string (bs T)] rfl rfl (World.news_of_block (heap_alloc_new _ _)) (by simp [Value.oneCell']) (by decide) hml hkb hN4 _ rfl ?_; intro ga ca w6 g1 g2 g3 g4))
    have HF : Hid (w6.ownsRow N 45 10 (.slice (some ⟨ga, 0, none⟩) (A.length + 1) ca) (A.length + 1) (A.flatMap ccs ++ [.int .i64 cl, .int .i64 no, .int .i64 kind, .string (bs k), .string (bs v), .string (bs od), .int .i64 fr, .int .i64 tt, .int .i64 E, .string (bs T)]) ∧ Below N w w6) := ⟨g1, (hB3.alloc hN3 _).grown g2 hN4 (fun z hz => (hown.lt z hz).1)⟩
    clear g1 g2 g3 g4 hown hB3 hN3 hN4
    go_roundg (l.length - (n + 1))
    case measure => omega
    case rel => exact ⟨n + 1, by omega, by go_num, by rw [HTk.out.1, List.length_append, List.flatMap_append]; exact HF.out.1, HF.out.2⟩
set_option maxRecDepth 20000 in
set_option maxHeartbeats 1500000 in
theorem points_any (l : List Pt) (v : Value) (w : World) (hv : SlF pks 5 w v l) (hl : l.length ≤ 100000) : Calls Tryd.prog 12 #[v] w fun e W' => ∃ u, e = .returned u ∧ SlF pks 5 W' u l ∧ Below w.heap.size w W' := by
  obtain ⟨va, vc, rfl⟩ := hv.slice
  obtain ⟨i0, hi, hz0, hz1, hz2⟩ := info_parts Tryd.info53
  obtain ⟨N, hN⟩ : ∃ N, w.heap.size = N := ⟨_, rfl⟩
  have HN : Hid (w.heap.size = N) := hN
  have HV : Hid (∀ W, Below N w W → SlF pks 5 W (.slice va l.length vc) l) := fun W hW => hv.on hW (by omega)
  have HL : Hid (l.length ≤ 100000) := hl
  clear hv hN hl
  go_enter Tryd.func12, Tryd.ntmps12
  go_wp2_with fail
  go_loopg [3, 8] l.length (fun gk x j wr => ∃ n : Nat, n + gk = l.length ∧ j = .int .i64 n ∧ wr.ownsRow N 53 5 x (l.take n).length ((l.take n).flatMap pks) ∧ Below N w wr)
  case atStart => exact ⟨0, by omega, rfl, World.ownsRow_nil _ _ _ _, by rw [← HN.out]; exact Below.refl _ _⟩
  case round =>
    obtain ⟨n, hnn, rfl, hown, hB⟩ := hrel
    obtain ⟨xa, xc, rfl⟩ := owns_slice hown
    by_cases hn1 : n = l.length
    · subst hn1
      rw [List.take_length] at hown ⊢
      have HO : Hid (_ ∧ _) := ⟨hown, hB⟩
      clear hown hB HV
      go_wp2
      go_ret
      exact ⟨_, rfl, SlF.of_owns (fun _ => rfl) HO.out.1, by rw [HN.out]; exact HO.out.2⟩
    have hn2 : n < l.length := by omega
    obtain ⟨p, ho⟩ : ∃ p, l[n]? = some p := ⟨_, List.getElem?_eq_getElem hn2⟩
    have htk := take_snoc ho
    have hlen : (l.take n).length = n := by rw [List.length_take]; omega
    obtain ⟨A, hA⟩ : ∃ A, l.take n = A := ⟨_, rfl⟩
    rw [hA] at htk hown hlen ⊢
    obtain ⟨g, e', hg', -, y⟩ := (HV.out _ hB).at ho
    cases hg'
    obtain ⟨tm, pcl, pno, pT, pE⟩ := p
    have y0 : wr.cell? ⟨g, e' + n * 5, none⟩ = some (.int .i64 tm) := y 0 _ rfl
    have y1 : wr.cell? ⟨g, e' + n * 5 + 1, none⟩ = some (.int .i64 pcl) := y 1 _ rfl
    have y2 : wr.cell? ⟨g, e' + n * 5 + 2, none⟩ = some (.int .i64 pno) := y 2 _ rfl
    have y3 : wr.cell? ⟨g, e' + n * 5 + 3, none⟩ = some (.int .i64 pE) := y 3 _ rfl
    have y4 : wr.cell? ⟨g, e' + n * 5 + 4, none⟩ = some (.string (bs pT)) := y 4 _ rfl
    have d0 : (0 : Int) ≤ (n : Int) := by omega
    have d1 : (n : Int) < (l.length : Int) := by omega
    obtain ⟨D, hD⟩ : ∃ D, wr.heap.size = D := ⟨_, rfl⟩
    have hND : N ≤ D := by have := hB.size; have := HN.out; omega
    have rD := heap_alloc_new wr (.cells #[.int .i64 tm, .int .i64 pcl, .int .i64 pno, .int .i64 pE, .string (bs pT)] 56)
    have hbA := (Below.refl wr.heap.size wr).alloc (Nat.le_refl _) (.cells #[.int .i64 tm, .int .i64 pcl, .int .i64 pno, .int .i64 pE, .string (bs pT)] 56)
    obtain ⟨WA, hWA⟩ : ∃ W, wr.alloc (.cells #[.int .i64 tm, .int .i64 pcl, .int .i64 pno, .int .i64 pE, .string (bs pT)] 56) = W := ⟨_, rfl⟩
    rw [hWA] at rD hbA
    rw [hD] at rD hbA
    have hownA := owns_keep hown (w' := WA) fun q e => hbA.block q (by have := (hown.lt q e).2; omega)
    have hzA : WA.heap.size = D + 1 := by rw [← hWA, World.size_alloc, hD]
    have x0 := cellB rD 0 _ rfl
    have x1 := cellB rD 1 _ rfl
    have x2 := cellB rD 2 _ rfl
    have x3 := cellB rD 3 _ rfl
    have x4 := cellB rD 4 _ rfl
    have HC : Hid (Calls Tryd.prog 14 #[.agg #[.int .i64 tm, .int .i64 pcl, .int .i64 pno, .int .i64 pE, .string (bs pT)]] WA fun e W' => e = .returned (.agg #[.int .i64 tm, .int .i64 pcl, .int .i64 pno, .int .i64 pE, .string (bs pT)]) ∧ W'.ownsRow N 53 5 (.slice xa A.length xc) A.length (A.flatMap pks) ∧ Below N w W' ∧ N ≤ W'.heap.size) := (point_any tm pcl pno pE pT WA).mono fun e W' hh => ⟨hh.1, owns_keep hownA fun q e => hh.2.block q (by have := (hown.lt q e).2; omega), (hB.trans (hbA.mono hND)).trans (hh.2.mono (by omega)), by have := hh.2.size; omega⟩
    have HWA : Hid (wr.alloc (.cells #[.int .i64 tm, .int .i64 pcl, .int .i64 pno, .int .i64 pE, .string (bs pT)] 56) = WA) := hWA
    have HD : Hid (wr.heap.size = D) := hD
    have HTk : Hid (l.take (n + 1) = A ++ [⟨tm, pcl, pno, (pT, pE)⟩] ∧ A.length = n) := ⟨htk, hlen⟩
    have hnb : n ≤ 100000 := by have := HL.out; omega
    have hml : A.length + 1 ≤ maxLen := by unfold maxLen; have := HL.out; omega
    have hkb : (A.length + 1) * 48 ≤ 140737488355328 := by have := HL.out; omega
    clear htk hlen hA y hD hND hbA hWA rD hownA hown hB ho hzA
    go_upto_region 5 with fail
    rw [HWA.out]
    try rw [HD.out]
    clear y0 y1 y2 y3 y4
    go_wp2_with (first
      | (go_at_call 14; refine HC.out.mono ?_; clear HC; rintro e W3 ⟨rfl, hown, hB3, hN3⟩; have hN4 : N ≤ (W3.alloc (.cells #[.int .i64 tm, .int .i64 pcl, .int .i64 pno, .int .i64 pE, .string (bs pT)] 53)).heap.size := by (rw [World.size_alloc]; omega))
      | (at_builtin; refine wpList_append_lies _ rfl _ _ 34 rfl N 53 i0 (.agg #[.int .i64 0, .int .i64 0, .int .i64 0, .int .i64 0, .string ⟨#[]⟩]) 5 48 Tryd.underlying34 hi hz0 hz1 hz2 rfl (by decide) (.slice xa A.length xc) A.length _ rfl (hown.alloc _) _ 1 1 [.int .i64 tm, .int .i64 pcl, .int .i64 pno, .int .i64 pE, .string (bs pT)] rfl rfl (World.news_of_block (heap_alloc_new _ _)) (by simp [Value.oneCell']) (by decide) hml hkb hN4 _ rfl ?_; intro ga ca w6 g1 g2 g3 g4))
    have HF : Hid (w6.ownsRow N 53 5 (.slice (some ⟨ga, 0, none⟩) (A.length + 1) ca) (A.length + 1) (A.flatMap pks ++ [.int .i64 tm, .int .i64 pcl, .int .i64 pno, .int .i64 pE, .string (bs pT)]) ∧ Below N w w6) := ⟨g1, (hB3.alloc hN3 _).grown g2 hN4 (fun z hz => (hown.lt z hz).1)⟩
    clear g1 g2 g3 g4 hown hB3 hN3 hN4
    go_roundg (l.length - (n + 1))
    case measure => omega
    case rel => exact ⟨n + 1, by omega, by go_num, by rw [HTk.out.1, List.length_append, List.flatMap_append]; exact HF.out.1, HF.out.2⟩
end Go.Proofs.YtihilkdokfdoeaaDoor
