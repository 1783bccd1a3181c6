/- reeve: do configurations follow one another, walked. -/
import Derived.Test.YtcehmaegnfelhaaRvD
namespace Go.Proofs.Ytcehmaegnfelhaa
open Go.RowKit
attribute [local go_sem ↓] Go.wp_at_zero Go.wp_at_succ

section
variable {P : Program} {md : Region.Mode} {ops : Array Oper} {Q : Exit → Act → World → Prop} {z : Nat} {S : World → Prop}
theorem Y_skip {i : Nat} {oi : Oper} {fuel : Nat} {listed : Array Bool} {a : Act} {w : World} (hi : ops[i]? = some oi)
    (hs : Region.noSelect ops = true) (hf : Region.free md ops listed i = true) (hr : (Region.ready md ops listed).contains i = true) (hz : ops[z]? = none)
    (hQ : ∀ c a w, Q (.panic c) (a.put oi.dst undef) w → Q (.panic c) a w) (hw : Region.wanted oi (yielded ops a.tmps) = false) (hS : S w)
    (h : anyZ P md ops Q z S fuel (listed.setIfInBounds i true) (a.put oi.dst undef) w) : anyZ P md ops Q z S (fuel + 1) listed a w :=
  Y_first hi (Region.noSelect_spec hs) hz hQ fuel listed a w (Region.free_spec hi hf) (by simpa using hr) (.inr ⟨hw, rfl⟩) hS h
end
/-- Is the n'th one more than the one ahead? -/
def nxN (l : List Cg) : Nat → Int → Bool
  | 0, _ => true
  | m + 1, num => match l[m]? with
    | some y => decide (num = y.num + 1)
    | none => true
/-- Do the first n follow one another? -/
def foB (l : List Cg) : Nat → Bool
  | 0 => true
  | n + 1 => foB l n && match l[n]? with
    | some x => okC x.num x.gs (cgO x) && nxN l n x.num
    | none => true
theorem foB_at {l : List Cg} {n : Nat} {x : Cg} (h : l[n]? = some x) : foB l (n + 1) = (foB l n && (okC x.num x.gs (cgO x) && nxN l n x.num)) := by rw [foB, h]
theorem foB_mono {l : List Cg} : ∀ {m n : Nat}, n ≤ m → foB l m = true → foB l n = true
  | 0, n, h, h2 => by have : n = 0 := by omega
                      subst this; exact h2
  | m + 1, n, h, h2 => by
    rcases Nat.lt_or_ge n (m + 1) with h3 | h3
    · rw [foB, Bool.and_eq_true] at h2
      exact foB_mono (by omega) h2.1
    · have : n = m + 1 := by omega
      subst this; exact h2
theorem foB_ok {l : List Cg} {m n : Nat} {x : Cg} (h : foB l m = true) (hn : n < m) (hx : l[n]? = some x) : okC x.num x.gs (cgO x) = true ∧ nxN l n x.num = true := by
  have := foB_mono (n := n + 1) (by omega) h
  rw [foB_at hx, Bool.and_eq_true, Bool.and_eq_true] at this
  exact this.2
theorem okC_num {n : Int} {gs os : List Int} (h : okC n gs os = true) : 0 ≤ n ∧ n ≤ 1099511627776 := by
  rw [okC, Bool.and_eq_true, Bool.and_eq_true] at h
  exact wi_t h.1.1
set_option maxRecDepth 20000 in
set_option maxHeartbeats 3000000 in
theorem follow_any (l : List Cg) (v : Value) (w : World) (hv : Cl w v l) (hl : l.length ≤ 1000) (hgl : ∀ (i : Nat) x, l[i]? = some x → x.gs.length ≤ 1000) : Calls Try.prog 20 #[v] w fun e W' => e = .returned (.bool (foB l l.length)) ∧ Below w.heap.size w W' := by
  obtain ⟨va, vc, rfl⟩ := hv.slice
  obtain ⟨N, hN⟩ : ∃ N, w.heap.size = N := ⟨_, rfl⟩
  have HN : Hid (w.heap.size = N) := hN
  have HV : Hid (∀ W, Below N w W → Cl W (.slice va l.length vc) l) := fun W hW => hv.on hW (by omega)
  have HG : Hid (∀ (i : Nat) x, l[i]? = some x → x.gs.length ≤ 1000) := hgl
  have HZ : Hid (foB l l.length = foB l l.length ∧ l.length ≤ 1000) := ⟨rfl, hl⟩
  obtain ⟨T, hT⟩ : ∃ T, foB l l.length = T := ⟨_, rfl⟩
  rw [hT, hN]
  have HT : Hid (foB l l.length = T) := hT
  clear hv hN hgl hl hT
  go_enter Try.func20, Try.ntmps20
  go_wp2_with fail
  go_loopg [7] l.length (fun gk j wr => ∃ (n : Nat), n + gk = l.length ∧ j = .int .i64 n ∧ foB l n = true ∧ Below N w wr)
  case atStart => exact ⟨0, by omega, rfl, rfl, by rw [← HN.out]; exact Below.refl _ _⟩
  case round =>
    obtain ⟨n, hnn, rfl, hok, hB⟩ := hrel
    by_cases hn1 : n = l.length
    · subst hn1
      have hT2 : T = true := by rw [← HT.out, hok]
      subst hT2
      go_wp2_with fail
      go_ret
      exact ⟨rfl, hB⟩
    · have hn2 : n < l.length := by omega
      obtain ⟨x, ho⟩ : ∃ x, l[n]? = some x := ⟨_, List.getElem?_eq_getElem hn2⟩
      have hf := foB_at ho
      rw [hok, Bool.true_and] at hf
      have hgl := HG.out n x ho
      obtain ⟨g0, e', gv, hg', hgb, hil, y⟩ := (HV.out _ hB).at ho
      subst hg'
      obtain ⟨pa, pc, rfl⟩ := hil.slice
      obtain ⟨num, gs, o0, o1, o2, o3⟩ := x
      have y0 : wr.cell? ⟨g0, e' + n * 6, none⟩ = some (.int .i64 num) := y 0 _ rfl
      have y1 : wr.cell? ⟨g0, e' + n * 6 + 1, none⟩ = some (.slice pa gs.length pc) := y 1 _ rfl
      have y2 : wr.cell? ⟨g0, e' + n * 6 + 2, none⟩ = some (.int .i64 o0) := y 2 _ rfl
      have y3 : wr.cell? ⟨g0, e' + n * 6 + 3, none⟩ = some (.int .i64 o1) := y 3 _ rfl
      have y4 : wr.cell? ⟨g0, e' + n * 6 + 4, none⟩ = some (.int .i64 o2) := y 4 _ rfl
      have y5 : wr.cell? ⟨g0, e' + n * 6 + 5, none⟩ = some (.int .i64 o3) := y 5 _ rfl
      have d0 : (0 : Int) ≤ (n : Int) := by omega
      have d1 : (n : Int) < (l.length : Int) := by omega
      have hnb : n ≤ 1000 := by have := HZ.out; omega
      obtain ⟨D, hD⟩ : ∃ D, wr.heap.size = D := ⟨_, rfl⟩
      have hND : N ≤ D := by have := hB.size; have := HN.out; omega
      have rD := heap_alloc_new wr (.cells (cf num (.slice pa gs.length pc) o0 o1 o2 o3) 50)
      have hbA := (Below.refl wr.heap.size wr).alloc (Nat.le_refl _) (.cells (cf num (.slice pa gs.length pc) o0 o1 o2 o3) 50)
      obtain ⟨WA, hWA⟩ : ∃ W, wr.alloc (.cells (cf num (.slice pa gs.length pc) o0 o1 o2 o3) 50) = W := ⟨_, rfl⟩
      rw [hWA] at rD hbA
      have hilA := hil.next hbA
      rw [hD] at rD hbA
      have hBA : Below N w WA := hB.trans (hbA.mono hND)
      have hzA : WA.heap.size = D + 1 := by rw [← hWA, World.size_alloc, hD]
      obtain ⟨OK, hOK⟩ : ∃ OK, okC num gs [o0, o1, o2, o3] = OK := ⟨_, rfl⟩
      have hCk : ∀ W, Below (D + 1) WA W → Calls Try.prog 29 #[.agg (cf num (.slice pa gs.length pc) o0 o1 o2 o3)] W fun e W' => e = .returned (.int .i64 (if OK = true then 0 else 4)) ∧ Below W.heap.size W W' := fun W hW => by
        have := Check_any num (.slice pa gs.length pc) gs o0 o1 o2 o3 W (hilA.below hW (by omega)) hgl
        rw [hOK] at this
        exact this
      have HWA : Hid (wr.alloc (.cells (cf num (.slice pa gs.length pc) o0 o1 o2 o3) 50) = WA) := hWA
      have HD : Hid (wr.heap.size = D) := hD
      have HSA : Hid (WA.heap[D]? = some (.cells (cf num (.slice pa gs.length pc) o0 o1 o2 o3) 50)) := rD
      have HCK : Hid (∀ W, Below (D + 1) WA W → Calls Try.prog 29 #[.agg (cf num (.slice pa gs.length pc) o0 o1 o2 o3)] W fun e W' => e = .returned (.int .i64 (if OK = true then 0 else 4)) ∧ Below N w W' ∧ W'.heap[D]? = some (.cells (cf num (.slice pa gs.length pc) o0 o1 o2 o3) 50) ∧ ∀ b u, b < D → ∀ k, WA.cell? ⟨b, k, none⟩ = some u → W'.cell? ⟨b, k, none⟩ = some u) := fun W hW => by
        refine (hCk W hW).mono ?_
        rintro e W' ⟨h1, h2⟩
        have h3 : Below (D + 1) WA W' := hW.trans (h2.mono (by have := hW.size; omega))
        exact ⟨h1, hBA.trans (h3.mono (by omega)), (h3.block D (by omega)).trans rD, fun b u hb k hu => (h3.cell (p := ⟨b, k, none⟩) (by show b < D + 1; omega)).trans hu⟩
      have hf2 : foB l (n + 1) = (OK && nxN l n num) := by rw [hf]; show (okC num gs [o0, o1, o2, o3] && _) = _; rw [hOK]
      have hmon : foB l (n + 1) = false → T = false := fun h => by
        rcases Bool.eq_false_or_eq_true T with h2 | h2
        · rw [← HT.out] at h2
          rw [foB_mono (n := n + 1) (by omega) h2] at h; cases h
        · exact h2
      have hgN : g0 < D := by omega
      cases OK with
      | false =>
        have hT2 : T = false := hmon (by rw [hf2]; rfl)
        subst hT2
        have HC : Hid (∀ W, Below (D + 1) WA W → Calls Try.prog 29 #[.agg (cf num (.slice pa gs.length pc) o0 o1 o2 o3)] W fun e W' => e = .returned (.int .i64 4) ∧ Below N w W' ∧ (fun W => W.heap[D]? = some (.cells (cf num (.slice pa gs.length pc) o0 o1 o2 o3) 50)) W') := fun W hW => (HCK.out W hW).mono fun e W' h => ⟨h.1, h.2.1, h.2.2.1⟩
        clear hok hB ho hf hf2 hmon y hD hND rD hbA hWA hilA hil hBA hzA hOK hCk HCK HT HZ HG hgN
        go_upto_region 4 with fail
        rw [HWA.out, HD.out]
        clear y0 y1 y2 y3 y4 y5 HWA HD HV
        refine region_Z 99 (fun W => W.heap[D]? = some (.cells (cf num (.slice pa gs.length pc) o0 o1 o2 o3) 50)) (by kernel_rfl) ?_
        have hS0 : WA.drew.heap[D]? = some (.cells (cf num (.slice pa gs.length pc) o0 o1 o2 o3) 50) := HSA.out
        refine Y_take (i := 0) (v := ?_) rfl (by kernel_rfl) (by kernel_rfl) (by kernel_rfl) (by kernel_rfl) (fun _ _ _ h => h) (by rfl) hS0 ?_ ?_
        rotate_left
        · (intro w' hSw; have p0 := hSw; have f0 := cellB p0 0 _ rfl; have f1 := cellB p0 1 _ rfl; have f2 := cellB p0 2 _ rfl; have f3 := cellB p0 3 _ rfl; have f4 := cellB p0 4 _ rfl; have f5 := cellB p0 5 _ rfl; (try go_simp); (try with_reducible rfl))
        simp only [Act.put, List.setIfInBounds_toArray, List.getElem_toArray, List.getElem_cons_zero, List.set_cons_succ, List.set_cons_zero]
        refine Z_step (i := 1) (by kernel_rfl) rfl (fun K' hK => ?_)
        go_simp
        refine (HC.out _ (below_drew (Below.refl _ _))).mono ?_
        clear HC
        rintro e w2 ⟨rfl, hB2, hS1⟩
        refine hK _ _ (fun _ => hS1) ?_
        clear hK K' hS0
        refine Y_take (i := 2) (v := ?_) rfl (by kernel_rfl) (by kernel_rfl) (by kernel_rfl) (by kernel_rfl) (fun _ _ _ h => h) (by rfl) hS1 ?_ ?_
        rotate_left
        · (intro w' hSw; have p0 := hSw; have f0 := cellB p0 0 _ rfl; have f1 := cellB p0 1 _ rfl; have f2 := cellB p0 2 _ rfl; have f3 := cellB p0 3 _ rfl; have f4 := cellB p0 4 _ rfl; have f5 := cellB p0 5 _ rfl; (try go_simp); (try with_reducible rfl))
        simp only [Act.put, List.setIfInBounds_toArray, List.getElem_toArray, List.getElem_cons_succ, List.getElem_cons_zero, List.set_cons_succ, List.set_cons_zero]
        refine Y_take (i := 3) (v := ?_) rfl (by kernel_rfl) (by kernel_rfl) (by kernel_rfl) (by kernel_rfl) (fun _ _ _ h => h) (by rfl) hS1 ?_ ?_
        rotate_left
        · (intro w' hSw; have p0 := hSw; have f0 := cellB p0 0 _ rfl; have f1 := cellB p0 1 _ rfl; have f2 := cellB p0 2 _ rfl; have f3 := cellB p0 3 _ rfl; have f4 := cellB p0 4 _ rfl; have f5 := cellB p0 5 _ rfl; (try go_simp); (try with_reducible rfl))
        simp only [Act.put, List.setIfInBounds_toArray, List.getElem_toArray, List.getElem_cons_succ, List.getElem_cons_zero, List.set_cons_succ, List.set_cons_zero]
        refine Y_skip (i := 4) rfl (by kernel_rfl) (by kernel_rfl) (by kernel_rfl) (by kernel_rfl) (fun _ _ _ h => h) (by rfl) hS1 ?_
        simp only [Act.put, List.setIfInBounds_toArray, List.getElem_toArray, List.getElem_cons_succ, List.getElem_cons_zero, List.set_cons_succ, List.set_cons_zero]
        refine Y_skip (i := 5) rfl (by kernel_rfl) (by kernel_rfl) (by kernel_rfl) (by kernel_rfl) (fun _ _ _ h => h) (by rfl) hS1 ?_
        simp only [Act.put, List.setIfInBounds_toArray, List.getElem_toArray, List.getElem_cons_succ, List.getElem_cons_zero, List.set_cons_succ, List.set_cons_zero]
        refine Y_skip (i := 6) rfl (by kernel_rfl) (by kernel_rfl) (by kernel_rfl) (by kernel_rfl) (fun _ _ _ h => h) (by rfl) hS1 ?_
        simp only [Act.put, List.setIfInBounds_toArray, List.getElem_toArray, List.getElem_cons_succ, List.getElem_cons_zero, List.set_cons_succ, List.set_cons_zero]
        refine Y_skip (i := 7) rfl (by kernel_rfl) (by kernel_rfl) (by kernel_rfl) (by kernel_rfl) (fun _ _ _ h => h) (by rfl) hS1 ?_
        simp only [Act.put, List.setIfInBounds_toArray, List.getElem_toArray, List.getElem_cons_succ, List.getElem_cons_zero, List.set_cons_succ, List.set_cons_zero]
        refine Y_skip (i := 8) rfl (by kernel_rfl) (by kernel_rfl) (by kernel_rfl) (by kernel_rfl) (fun _ _ _ h => h) (by rfl) hS1 ?_
        simp only [Act.put, List.setIfInBounds_toArray, List.getElem_toArray, List.getElem_cons_succ, List.getElem_cons_zero, List.set_cons_succ, List.set_cons_zero]
        refine Y_skip (i := 9) rfl (by kernel_rfl) (by kernel_rfl) (by kernel_rfl) (by kernel_rfl) (fun _ _ _ h => h) (by rfl) hS1 ?_
        simp only [Act.put, List.setIfInBounds_toArray, List.getElem_toArray, List.getElem_cons_succ, List.getElem_cons_zero, List.set_cons_succ, List.set_cons_zero]
        refine Y_skip (i := 10) rfl (by kernel_rfl) (by kernel_rfl) (by kernel_rfl) (by kernel_rfl) (fun _ _ _ h => h) (by rfl) hS1 ?_
        simp only [Act.put, List.setIfInBounds_toArray, List.getElem_toArray, List.getElem_cons_succ, List.getElem_cons_zero, List.set_cons_succ, List.set_cons_zero]
        refine Y_skip (i := 11) rfl (by kernel_rfl) (by kernel_rfl) (by kernel_rfl) (by kernel_rfl) (fun _ _ _ h => h) (by rfl) hS1 ?_
        simp only [Act.put, List.setIfInBounds_toArray, List.getElem_toArray, List.getElem_cons_succ, List.getElem_cons_zero, List.set_cons_succ, List.set_cons_zero]
        refine Y_skip (i := 12) rfl (by kernel_rfl) (by kernel_rfl) (by kernel_rfl) (by kernel_rfl) (fun _ _ _ h => h) (by rfl) hS1 ?_
        simp only [Act.put, List.setIfInBounds_toArray, List.getElem_toArray, List.getElem_cons_succ, List.getElem_cons_zero, List.set_cons_succ, List.set_cons_zero]
        refine Y_skip (i := 13) rfl (by kernel_rfl) (by kernel_rfl) (by kernel_rfl) (by kernel_rfl) (fun _ _ _ h => h) (by rfl) hS1 ?_
        simp only [Act.put, List.setIfInBounds_toArray, List.getElem_toArray, List.getElem_cons_succ, List.getElem_cons_zero, List.set_cons_succ, List.set_cons_zero]
        refine Y_skip (i := 14) rfl (by kernel_rfl) (by kernel_rfl) (by kernel_rfl) (by kernel_rfl) (fun _ _ _ h => h) (by rfl) hS1 ?_
        simp only [Act.put, List.setIfInBounds_toArray, List.getElem_toArray, List.getElem_cons_succ, List.getElem_cons_zero, List.set_cons_succ, List.set_cons_zero]
        refine Y_skip (i := 15) rfl (by kernel_rfl) (by kernel_rfl) (by kernel_rfl) (by kernel_rfl) (fun _ _ _ h => h) (by rfl) hS1 ?_
        simp only [Act.put, List.setIfInBounds_toArray, List.getElem_toArray, List.getElem_cons_succ, List.getElem_cons_zero, List.set_cons_succ, List.set_cons_zero]
        refine Y_skip (i := 16) rfl (by kernel_rfl) (by kernel_rfl) (by kernel_rfl) (by kernel_rfl) (fun _ _ _ h => h) (by rfl) hS1 ?_
        simp only [Act.put, List.setIfInBounds_toArray, List.getElem_toArray, List.getElem_cons_succ, List.getElem_cons_zero, List.set_cons_succ, List.set_cons_zero]
        refine Y_skip (i := 17) rfl (by kernel_rfl) (by kernel_rfl) (by kernel_rfl) (by kernel_rfl) (fun _ _ _ h => h) (by rfl) hS1 ?_
        simp only [Act.put, List.setIfInBounds_toArray, List.getElem_toArray, List.getElem_cons_succ, List.getElem_cons_zero, List.set_cons_succ, List.set_cons_zero]
        refine Y_take (i := 18) (v := ?_) rfl (by kernel_rfl) (by kernel_rfl) (by kernel_rfl) (by kernel_rfl) (fun _ _ _ h => h) (by rfl) hS1 ?_ ?_
        rotate_left
        · (intro w' hSw; have p0 := hSw; have f0 := cellB p0 0 _ rfl; have f1 := cellB p0 1 _ rfl; have f2 := cellB p0 2 _ rfl; have f3 := cellB p0 3 _ rfl; have f4 := cellB p0 4 _ rfl; have f5 := cellB p0 5 _ rfl; (try go_simp); (try with_reducible rfl))
        simp only [Act.put, List.setIfInBounds_toArray, List.getElem_toArray, List.getElem_cons_succ, List.getElem_cons_zero, List.set_cons_succ, List.set_cons_zero]
        refine Z_done (by kernel_rfl) ?_ _
        clear hS1
        go_wp2_with fail
        go_ret
        exact ⟨rfl, hB2⟩
      | true =>
        by_cases hz : n = 0
        · have hok1 : foB l (n + 1) = true := by rw [hf2, Bool.true_and]; subst hz; rfl
          have HOK1 : Hid (foB l (n + 1) = true) := hok1
          have hz1 : ¬ (0 : Int) < (n : Int) := by omega
          have hz2 : ¬ 0 < n := by omega
          have HC : Hid (∀ W, Below (D + 1) WA W → Calls Try.prog 29 #[.agg (cf num (.slice pa gs.length pc) o0 o1 o2 o3)] W fun e W' => e = .returned (.int .i64 0) ∧ Below N w W' ∧ (fun W => W.heap[D]? = some (.cells (cf num (.slice pa gs.length pc) o0 o1 o2 o3) 50)) W') := fun W hW => (HCK.out W hW).mono fun e W' h => ⟨h.1, h.2.1, h.2.2.1⟩
          clear hok hB ho hf hf2 hmon y hD hND rD hbA hWA hilA hil hBA hzA hOK hCk HCK HT HZ HG hgN hz hok1
          go_upto_region 4 with fail
          rw [HWA.out, HD.out]
          clear y0 y1 y2 y3 y4 y5 HWA HD HV
          refine region_Z 99 (fun W => W.heap[D]? = some (.cells (cf num (.slice pa gs.length pc) o0 o1 o2 o3) 50)) (by kernel_rfl) ?_
          have hS0 : WA.drew.heap[D]? = some (.cells (cf num (.slice pa gs.length pc) o0 o1 o2 o3) 50) := HSA.out
          refine Y_take (i := 0) (v := ?_) rfl (by kernel_rfl) (by kernel_rfl) (by kernel_rfl) (by kernel_rfl) (fun _ _ _ h => h) (by rfl) hS0 ?_ ?_
          rotate_left
          · (intro w' hSw; have p0 := hSw; have f0 := cellB p0 0 _ rfl; have f1 := cellB p0 1 _ rfl; have f2 := cellB p0 2 _ rfl; have f3 := cellB p0 3 _ rfl; have f4 := cellB p0 4 _ rfl; have f5 := cellB p0 5 _ rfl; (try go_simp); (try with_reducible rfl))
          simp only [Act.put, List.setIfInBounds_toArray, List.getElem_toArray, List.getElem_cons_zero, List.set_cons_succ, List.set_cons_zero]
          refine Z_step (i := 1) (by kernel_rfl) rfl (fun K' hK => ?_)
          go_simp
          refine (HC.out _ (below_drew (Below.refl _ _))).mono ?_
          clear HC
          rintro e w2 ⟨rfl, hB2, hS1⟩
          refine hK _ _ (fun _ => hS1) ?_
          clear hK K' hS0
          refine Y_take (i := 2) (v := ?_) rfl (by kernel_rfl) (by kernel_rfl) (by kernel_rfl) (by kernel_rfl) (fun _ _ _ h => h) (by rfl) hS1 ?_ ?_
          rotate_left
          · (intro w' hSw; have p0 := hSw; have f0 := cellB p0 0 _ rfl; have f1 := cellB p0 1 _ rfl; have f2 := cellB p0 2 _ rfl; have f3 := cellB p0 3 _ rfl; have f4 := cellB p0 4 _ rfl; have f5 := cellB p0 5 _ rfl; (try go_simp); (try with_reducible rfl))
          simp only [Act.put, List.setIfInBounds_toArray, List.getElem_toArray, List.getElem_cons_succ, List.getElem_cons_zero, List.set_cons_succ, List.set_cons_zero]
          refine Y_take (i := 3) (v := ?_) rfl (by kernel_rfl) (by kernel_rfl) (by kernel_rfl) (by kernel_rfl) (fun _ _ _ h => h) (by rfl) hS1 ?_ ?_
          rotate_left
          · (intro w' hSw; have p0 := hSw; have f0 := cellB p0 0 _ rfl; have f1 := cellB p0 1 _ rfl; have f2 := cellB p0 2 _ rfl; have f3 := cellB p0 3 _ rfl; have f4 := cellB p0 4 _ rfl; have f5 := cellB p0 5 _ rfl; (try go_simp); (try with_reducible rfl))
          simp only [Act.put, List.setIfInBounds_toArray, List.getElem_toArray, List.getElem_cons_succ, List.getElem_cons_zero, List.set_cons_succ, List.set_cons_zero]
          refine Y_take (i := 4) (v := ?_) rfl (by kernel_rfl) (by kernel_rfl) (by kernel_rfl) (by kernel_rfl) (fun _ _ _ h => h) (by rfl) hS1 ?_ ?_
          rotate_left
          · (intro w' hSw; have p0 := hSw; have f0 := cellB p0 0 _ rfl; have f1 := cellB p0 1 _ rfl; have f2 := cellB p0 2 _ rfl; have f3 := cellB p0 3 _ rfl; have f4 := cellB p0 4 _ rfl; have f5 := cellB p0 5 _ rfl; (try go_simp); (try with_reducible rfl))
          simp only [Act.put, List.setIfInBounds_toArray, List.getElem_toArray, List.getElem_cons_succ, List.getElem_cons_zero, List.set_cons_succ, List.set_cons_zero]
          refine Y_take (i := 5) (v := ?_) rfl (by kernel_rfl) (by kernel_rfl) (by kernel_rfl) (by kernel_rfl) (fun _ _ _ h => h) (by rfl) hS1 ?_ ?_
          rotate_left
          · (intro w' hSw; have p0 := hSw; have f0 := cellB p0 0 _ rfl; have f1 := cellB p0 1 _ rfl; have f2 := cellB p0 2 _ rfl; have f3 := cellB p0 3 _ rfl; have f4 := cellB p0 4 _ rfl; have f5 := cellB p0 5 _ rfl; (try go_simp); (try with_reducible rfl))
          simp only [Act.put, List.setIfInBounds_toArray, List.getElem_toArray, List.getElem_cons_succ, List.getElem_cons_zero, List.set_cons_succ, List.set_cons_zero]
          refine Y_take (i := 6) (v := ?_) rfl (by kernel_rfl) (by kernel_rfl) (by kernel_rfl) (by kernel_rfl) (fun _ _ _ h => h) (by rfl) hS1 ?_ ?_
          rotate_left
          · (intro w' hSw; have p0 := hSw; have f0 := cellB p0 0 _ rfl; have f1 := cellB p0 1 _ rfl; have f2 := cellB p0 2 _ rfl; have f3 := cellB p0 3 _ rfl; have f4 := cellB p0 4 _ rfl; have f5 := cellB p0 5 _ rfl; (try go_simp); (try with_reducible rfl))
          simp only [Act.put, List.setIfInBounds_toArray, List.getElem_toArray, List.getElem_cons_succ, List.getElem_cons_zero, List.set_cons_succ, List.set_cons_zero]
          refine Y_skip (i := 7) rfl (by kernel_rfl) (by kernel_rfl) (by kernel_rfl) (by kernel_rfl) (fun _ _ _ h => h) (by rfl) hS1 ?_
          simp only [Act.put, List.setIfInBounds_toArray, List.getElem_toArray, List.getElem_cons_succ, List.getElem_cons_zero, List.set_cons_succ, List.set_cons_zero]
          refine Y_skip (i := 8) rfl (by kernel_rfl) (by kernel_rfl) (by kernel_rfl) (by kernel_rfl) (fun _ _ _ h => h) (by rfl) hS1 ?_
          simp only [Act.put, List.setIfInBounds_toArray, List.getElem_toArray, List.getElem_cons_succ, List.getElem_cons_zero, List.set_cons_succ, List.set_cons_zero]
          refine Y_skip (i := 9) rfl (by kernel_rfl) (by kernel_rfl) (by kernel_rfl) (by kernel_rfl) (fun _ _ _ h => h) (by rfl) hS1 ?_
          simp only [Act.put, List.setIfInBounds_toArray, List.getElem_toArray, List.getElem_cons_succ, List.getElem_cons_zero, List.set_cons_succ, List.set_cons_zero]
          refine Y_skip (i := 10) rfl (by kernel_rfl) (by kernel_rfl) (by kernel_rfl) (by kernel_rfl) (fun _ _ _ h => h) (by rfl) hS1 ?_
          simp only [Act.put, List.setIfInBounds_toArray, List.getElem_toArray, List.getElem_cons_succ, List.getElem_cons_zero, List.set_cons_succ, List.set_cons_zero]
          refine Y_skip (i := 11) rfl (by kernel_rfl) (by kernel_rfl) (by kernel_rfl) (by kernel_rfl) (fun _ _ _ h => h) (by rfl) hS1 ?_
          simp only [Act.put, List.setIfInBounds_toArray, List.getElem_toArray, List.getElem_cons_succ, List.getElem_cons_zero, List.set_cons_succ, List.set_cons_zero]
          refine Y_skip (i := 12) rfl (by kernel_rfl) (by kernel_rfl) (by kernel_rfl) (by kernel_rfl) (fun _ _ _ h => h) (by rfl) hS1 ?_
          simp only [Act.put, List.setIfInBounds_toArray, List.getElem_toArray, List.getElem_cons_succ, List.getElem_cons_zero, List.set_cons_succ, List.set_cons_zero]
          refine Y_skip (i := 13) rfl (by kernel_rfl) (by kernel_rfl) (by kernel_rfl) (by kernel_rfl) (fun _ _ _ h => h) (by rfl) hS1 ?_
          simp only [Act.put, List.setIfInBounds_toArray, List.getElem_toArray, List.getElem_cons_succ, List.getElem_cons_zero, List.set_cons_succ, List.set_cons_zero]
          refine Y_skip (i := 14) rfl (by kernel_rfl) (by kernel_rfl) (by kernel_rfl) (by kernel_rfl) (fun _ _ _ h => h) (by rfl) hS1 ?_
          simp only [Act.put, List.setIfInBounds_toArray, List.getElem_toArray, List.getElem_cons_succ, List.getElem_cons_zero, List.set_cons_succ, List.set_cons_zero]
          refine Y_skip (i := 15) rfl (by kernel_rfl) (by kernel_rfl) (by kernel_rfl) (by kernel_rfl) (fun _ _ _ h => h) (by rfl) hS1 ?_
          simp only [Act.put, List.setIfInBounds_toArray, List.getElem_toArray, List.getElem_cons_succ, List.getElem_cons_zero, List.set_cons_succ, List.set_cons_zero]
          refine Y_skip (i := 16) rfl (by kernel_rfl) (by kernel_rfl) (by kernel_rfl) (by kernel_rfl) (fun _ _ _ h => h) (by rfl) hS1 ?_
          simp only [Act.put, List.setIfInBounds_toArray, List.getElem_toArray, List.getElem_cons_succ, List.getElem_cons_zero, List.set_cons_succ, List.set_cons_zero]
          refine Y_take (i := 17) (v := ?_) rfl (by kernel_rfl) (by kernel_rfl) (by kernel_rfl) (by kernel_rfl) (fun _ _ _ h => h) (by rfl) hS1 ?_ ?_
          rotate_left
          · (intro w' hSw; have p0 := hSw; have f0 := cellB p0 0 _ rfl; have f1 := cellB p0 1 _ rfl; have f2 := cellB p0 2 _ rfl; have f3 := cellB p0 3 _ rfl; have f4 := cellB p0 4 _ rfl; have f5 := cellB p0 5 _ rfl; (try go_simp); (try with_reducible rfl))
          simp only [Act.put, List.setIfInBounds_toArray, List.getElem_toArray, List.getElem_cons_succ, List.getElem_cons_zero, List.set_cons_succ, List.set_cons_zero]
          refine Y_take (i := 18) (v := ?_) rfl (by kernel_rfl) (by kernel_rfl) (by kernel_rfl) (by kernel_rfl) (fun _ _ _ h => h) (by rfl) hS1 ?_ ?_
          rotate_left
          · (intro w' hSw; have p0 := hSw; have f0 := cellB p0 0 _ rfl; have f1 := cellB p0 1 _ rfl; have f2 := cellB p0 2 _ rfl; have f3 := cellB p0 3 _ rfl; have f4 := cellB p0 4 _ rfl; have f5 := cellB p0 5 _ rfl; (try go_simp); (try with_reducible rfl))
          simp only [Act.put, List.setIfInBounds_toArray, List.getElem_toArray, List.getElem_cons_succ, List.getElem_cons_zero, List.set_cons_succ, List.set_cons_zero]
          refine Z_done (by kernel_rfl) ?_ _
          clear hS1
          go_wp2_with fail
          go_roundg (l.length - (n + 1))
          case measure => omega
          case rel => exact ⟨n + 1, by omega, by go_num, HOK1.out, hB2⟩
        · obtain ⟨im, him⟩ : ∃ im, n - 1 = im := ⟨_, rfl⟩
          have him2 : (n : Int) - 1 = (im : Int) := by omega
          have hni : n = im + 1 := by omega
          obtain ⟨q, hq⟩ : ∃ q, l[im]? = some q := ⟨_, List.getElem?_eq_getElem (by omega)⟩
          have hqn := okC_num (foB_ok hok (by omega) hq).1
          have hnx : nxN l n num = decide (num = q.num + 1) := by rw [hni, nxN, hq]
          obtain ⟨g1, e1', gv1, hg1, -, -, z⟩ := (HV.out _ hB).at hq
          injection hg1 with hg1
          injection hg1 with hga hgb'
          subst hga
          subst hgb'
          obtain ⟨pn, pgs, q0, q1, q2, q3⟩ := q
          have z0 : wr.cell? ⟨g0, e' + im * 6, none⟩ = some (.int .i64 pn) := z 0 _ rfl
          have z1 : WA.cell? ⟨g0, e' + im * 6, none⟩ = some (.int .i64 pn) := (hbA.cell (p := ⟨g0, e' + im * 6, none⟩) (by show g0 < D; omega)).trans z0
          have hz1 : (0 : Int) < (n : Int) := by omega
          have hz2 : 0 < n := by omega
          have dm0 : (0 : Int) ≤ (im : Int) := by omega
          have dm1 : (im : Int) < (l.length : Int) := by omega
          have dm5 : im ≤ 1000 := by omega
          have dmw : IntKind.i64.wrap (im : Int) = (im : Int) := wrap_small _ (by omega) (by omega)
          obtain ⟨pm, hpm⟩ : ∃ pm, pn + 1 = pm := ⟨_, rfl⟩
          have hpw : IntKind.i64.wrap pm = pm := wrap_small _ (by simp only at hqn; omega) (by simp only at hqn; omega)
          rw [show (⟨pn, pgs, q0, q1, q2, q3⟩ : Cg).num + 1 = pm from hpm] at hnx
          have HC : Hid (∀ W, Below (D + 1) WA W → Calls Try.prog 29 #[.agg (cf num (.slice pa gs.length pc) o0 o1 o2 o3)] W fun e W' => e = .returned (.int .i64 0) ∧ Below N w W' ∧ (fun W => W.heap[D]? = some (.cells (cf num (.slice pa gs.length pc) o0 o1 o2 o3) 50) ∧ W.cell? ⟨g0, e' + im * 6, none⟩ = some (.int .i64 pn)) W') := fun W hW => (HCK.out W hW).mono fun e W' h => ⟨h.1, h.2.1, h.2.2.1, h.2.2.2 g0 _ hgN _ z1⟩
          by_cases heq : num = pm
          · have hok1 : foB l (n + 1) = true := by rw [hf2, hnx, Bool.true_and]; simpa using heq
            have HOK1 : Hid (foB l (n + 1) = true) := hok1
            have HZ1 : Hid (WA.cell? ⟨g0, e' + im * 6, none⟩ = some (.int .i64 pn)) := z1
            subst heq
            clear hok hB ho hf hf2 hmon y hD hND rD hbA hWA hilA hil hBA hzA hOK hCk HCK HT HZ HG hgN hz hok1 hq him hni hqn hnx z z0 z1
            go_upto_region 4 with fail
            rw [HWA.out, HD.out]
            clear y0 y1 y2 y3 y4 y5 HWA HD HV
            refine region_Z 99 (fun W => W.heap[D]? = some (.cells (cf num (.slice pa gs.length pc) o0 o1 o2 o3) 50) ∧ W.cell? ⟨g0, e' + im * 6, none⟩ = some (.int .i64 pn)) (by kernel_rfl) ?_
            have hS0 : WA.drew.heap[D]? = some (.cells (cf num (.slice pa gs.length pc) o0 o1 o2 o3) 50) ∧ WA.drew.cell? ⟨g0, e' + im * 6, none⟩ = some (.int .i64 pn) := ⟨HSA.out, HZ1.out⟩
            refine Y_take (i := 0) (v := ?_) rfl (by kernel_rfl) (by kernel_rfl) (by kernel_rfl) (by kernel_rfl) (fun _ _ _ h => h) (by rfl) hS0 ?_ ?_
            rotate_left
            · (intro w' hSw; obtain ⟨p0, p1⟩ := hSw; have f0 := cellB p0 0 _ rfl; have f1 := cellB p0 1 _ rfl; have f2 := cellB p0 2 _ rfl; have f3 := cellB p0 3 _ rfl; have f4 := cellB p0 4 _ rfl; have f5 := cellB p0 5 _ rfl; (try go_simp); (try with_reducible rfl))
            simp only [Act.put, List.setIfInBounds_toArray, List.getElem_toArray, List.getElem_cons_zero, List.set_cons_succ, List.set_cons_zero]
            refine Z_step (i := 1) (by kernel_rfl) rfl (fun K' hK => ?_)
            go_simp
            refine (HC.out _ (below_drew (Below.refl _ _))).mono ?_
            clear HC
            rintro e w2 ⟨rfl, hB2, hS1⟩
            refine hK _ _ (fun _ => hS1) ?_
            clear hK K' hS0
            refine Y_take (i := 2) (v := ?_) rfl (by kernel_rfl) (by kernel_rfl) (by kernel_rfl) (by kernel_rfl) (fun _ _ _ h => h) (by rfl) hS1 ?_ ?_
            rotate_left
            · (intro w' hSw; obtain ⟨p0, p1⟩ := hSw; have f0 := cellB p0 0 _ rfl; have f1 := cellB p0 1 _ rfl; have f2 := cellB p0 2 _ rfl; have f3 := cellB p0 3 _ rfl; have f4 := cellB p0 4 _ rfl; have f5 := cellB p0 5 _ rfl; (try go_simp); (try with_reducible rfl))
            simp only [Act.put, List.setIfInBounds_toArray, List.getElem_toArray, List.getElem_cons_succ, List.getElem_cons_zero, List.set_cons_succ, List.set_cons_zero]
            refine Y_take (i := 3) (v := ?_) rfl (by kernel_rfl) (by kernel_rfl) (by kernel_rfl) (by kernel_rfl) (fun _ _ _ h => h) (by rfl) hS1 ?_ ?_
            rotate_left
            · (intro w' hSw; obtain ⟨p0, p1⟩ := hSw; have f0 := cellB p0 0 _ rfl; have f1 := cellB p0 1 _ rfl; have f2 := cellB p0 2 _ rfl; have f3 := cellB p0 3 _ rfl; have f4 := cellB p0 4 _ rfl; have f5 := cellB p0 5 _ rfl; (try go_simp); (try with_reducible rfl))
            simp only [Act.put, List.setIfInBounds_toArray, List.getElem_toArray, List.getElem_cons_succ, List.getElem_cons_zero, List.set_cons_succ, List.set_cons_zero]
            refine Y_take (i := 4) (v := ?_) rfl (by kernel_rfl) (by kernel_rfl) (by kernel_rfl) (by kernel_rfl) (fun _ _ _ h => h) (by rfl) hS1 ?_ ?_
            rotate_left
            · (intro w' hSw; obtain ⟨p0, p1⟩ := hSw; have f0 := cellB p0 0 _ rfl; have f1 := cellB p0 1 _ rfl; have f2 := cellB p0 2 _ rfl; have f3 := cellB p0 3 _ rfl; have f4 := cellB p0 4 _ rfl; have f5 := cellB p0 5 _ rfl; (try go_simp); (try with_reducible rfl))
            simp only [Act.put, List.setIfInBounds_toArray, List.getElem_toArray, List.getElem_cons_succ, List.getElem_cons_zero, List.set_cons_succ, List.set_cons_zero]
            refine Y_take (i := 5) (v := ?_) rfl (by kernel_rfl) (by kernel_rfl) (by kernel_rfl) (by kernel_rfl) (fun _ _ _ h => h) (by rfl) hS1 ?_ ?_
            rotate_left
            · (intro w' hSw; obtain ⟨p0, p1⟩ := hSw; have f0 := cellB p0 0 _ rfl; have f1 := cellB p0 1 _ rfl; have f2 := cellB p0 2 _ rfl; have f3 := cellB p0 3 _ rfl; have f4 := cellB p0 4 _ rfl; have f5 := cellB p0 5 _ rfl; (try go_simp); (try with_reducible rfl))
            simp only [Act.put, List.setIfInBounds_toArray, List.getElem_toArray, List.getElem_cons_succ, List.getElem_cons_zero, List.set_cons_succ, List.set_cons_zero]
            refine Y_take (i := 6) (v := ?_) rfl (by kernel_rfl) (by kernel_rfl) (by kernel_rfl) (by kernel_rfl) (fun _ _ _ h => h) (by rfl) hS1 ?_ ?_
            rotate_left
            · (intro w' hSw; obtain ⟨p0, p1⟩ := hSw; have f0 := cellB p0 0 _ rfl; have f1 := cellB p0 1 _ rfl; have f2 := cellB p0 2 _ rfl; have f3 := cellB p0 3 _ rfl; have f4 := cellB p0 4 _ rfl; have f5 := cellB p0 5 _ rfl; (try go_simp); (try with_reducible rfl))
            simp only [Act.put, List.setIfInBounds_toArray, List.getElem_toArray, List.getElem_cons_succ, List.getElem_cons_zero, List.set_cons_succ, List.set_cons_zero]
            refine Y_take (i := 7) (v := ?_) rfl (by kernel_rfl) (by kernel_rfl) (by kernel_rfl) (by kernel_rfl) (fun _ _ _ h => h) (by rfl) hS1 ?_ ?_
            rotate_left
            · (intro w' hSw; obtain ⟨p0, p1⟩ := hSw; have f0 := cellB p0 0 _ rfl; have f1 := cellB p0 1 _ rfl; have f2 := cellB p0 2 _ rfl; have f3 := cellB p0 3 _ rfl; have f4 := cellB p0 4 _ rfl; have f5 := cellB p0 5 _ rfl; (try go_simp); (try with_reducible rfl))
            simp only [Act.put, List.setIfInBounds_toArray, List.getElem_toArray, List.getElem_cons_succ, List.getElem_cons_zero, List.set_cons_succ, List.set_cons_zero]
            refine Y_take (i := 8) (v := ?_) rfl (by kernel_rfl) (by kernel_rfl) (by kernel_rfl) (by kernel_rfl) (fun _ _ _ h => h) (by rfl) hS1 ?_ ?_
            rotate_left
            · (intro w' hSw; obtain ⟨p0, p1⟩ := hSw; have f0 := cellB p0 0 _ rfl; have f1 := cellB p0 1 _ rfl; have f2 := cellB p0 2 _ rfl; have f3 := cellB p0 3 _ rfl; have f4 := cellB p0 4 _ rfl; have f5 := cellB p0 5 _ rfl; (try go_simp); (try with_reducible rfl))
            simp only [Act.put, List.setIfInBounds_toArray, List.getElem_toArray, List.getElem_cons_succ, List.getElem_cons_zero, List.set_cons_succ, List.set_cons_zero]
            refine Y_take (i := 9) (v := ?_) rfl (by kernel_rfl) (by kernel_rfl) (by kernel_rfl) (by kernel_rfl) (fun _ _ _ h => h) (by rfl) hS1 ?_ ?_
            rotate_left
            · (intro w' hSw; obtain ⟨p0, p1⟩ := hSw; have f0 := cellB p0 0 _ rfl; have f1 := cellB p0 1 _ rfl; have f2 := cellB p0 2 _ rfl; have f3 := cellB p0 3 _ rfl; have f4 := cellB p0 4 _ rfl; have f5 := cellB p0 5 _ rfl; (try go_simp); (try with_reducible rfl))
            simp only [Act.put, List.setIfInBounds_toArray, List.getElem_toArray, List.getElem_cons_succ, List.getElem_cons_zero, List.set_cons_succ, List.set_cons_zero]
            refine Y_take (i := 10) (v := ?_) rfl (by kernel_rfl) (by kernel_rfl) (by kernel_rfl) (by kernel_rfl) (fun _ _ _ h => h) (by rfl) hS1 ?_ ?_
            rotate_left
            · (intro w' hSw; obtain ⟨p0, p1⟩ := hSw; have f0 := cellB p0 0 _ rfl; have f1 := cellB p0 1 _ rfl; have f2 := cellB p0 2 _ rfl; have f3 := cellB p0 3 _ rfl; have f4 := cellB p0 4 _ rfl; have f5 := cellB p0 5 _ rfl; (try go_simp); (try with_reducible rfl))
            simp only [Act.put, List.setIfInBounds_toArray, List.getElem_toArray, List.getElem_cons_succ, List.getElem_cons_zero, List.set_cons_succ, List.set_cons_zero]
            refine Y_take (i := 11) (v := ?_) rfl (by kernel_rfl) (by kernel_rfl) (by kernel_rfl) (by kernel_rfl) (fun _ _ _ h => h) (by rfl) hS1 ?_ ?_
            rotate_left
            · (intro w' hSw; obtain ⟨p0, p1⟩ := hSw; have f0 := cellB p0 0 _ rfl; have f1 := cellB p0 1 _ rfl; have f2 := cellB p0 2 _ rfl; have f3 := cellB p0 3 _ rfl; have f4 := cellB p0 4 _ rfl; have f5 := cellB p0 5 _ rfl; (try go_simp); (try with_reducible rfl))
            simp only [Act.put, List.setIfInBounds_toArray, List.getElem_toArray, List.getElem_cons_succ, List.getElem_cons_zero, List.set_cons_succ, List.set_cons_zero]
            refine Y_take (i := 12) (v := ?_) rfl (by kernel_rfl) (by kernel_rfl) (by kernel_rfl) (by kernel_rfl) (fun _ _ _ h => h) (by rfl) hS1 ?_ ?_
            rotate_left
            · (intro w' hSw; obtain ⟨p0, p1⟩ := hSw; have f0 := cellB p0 0 _ rfl; have f1 := cellB p0 1 _ rfl; have f2 := cellB p0 2 _ rfl; have f3 := cellB p0 3 _ rfl; have f4 := cellB p0 4 _ rfl; have f5 := cellB p0 5 _ rfl; (try go_simp); (try with_reducible rfl))
            simp only [Act.put, List.setIfInBounds_toArray, List.getElem_toArray, List.getElem_cons_succ, List.getElem_cons_zero, List.set_cons_succ, List.set_cons_zero]
            refine Y_take (i := 13) (v := ?_) rfl (by kernel_rfl) (by kernel_rfl) (by kernel_rfl) (by kernel_rfl) (fun _ _ _ h => h) (by rfl) hS1 ?_ ?_
            rotate_left
            · (intro w' hSw; obtain ⟨p0, p1⟩ := hSw; have f0 := cellB p0 0 _ rfl; have f1 := cellB p0 1 _ rfl; have f2 := cellB p0 2 _ rfl; have f3 := cellB p0 3 _ rfl; have f4 := cellB p0 4 _ rfl; have f5 := cellB p0 5 _ rfl; (try go_simp); (try with_reducible rfl))
            simp only [Act.put, List.setIfInBounds_toArray, List.getElem_toArray, List.getElem_cons_succ, List.getElem_cons_zero, List.set_cons_succ, List.set_cons_zero]
            refine Y_take (i := 14) (v := ?_) rfl (by kernel_rfl) (by kernel_rfl) (by kernel_rfl) (by kernel_rfl) (fun _ _ _ h => h) (by rfl) hS1 ?_ ?_
            rotate_left
            · (intro w' hSw; obtain ⟨p0, p1⟩ := hSw; have f0 := cellB p0 0 _ rfl; have f1 := cellB p0 1 _ rfl; have f2 := cellB p0 2 _ rfl; have f3 := cellB p0 3 _ rfl; have f4 := cellB p0 4 _ rfl; have f5 := cellB p0 5 _ rfl; (try go_simp); (try with_reducible rfl))
            simp only [Act.put, List.setIfInBounds_toArray, List.getElem_toArray, List.getElem_cons_succ, List.getElem_cons_zero, List.set_cons_succ, List.set_cons_zero]
            refine Y_take (i := 15) (v := ?_) rfl (by kernel_rfl) (by kernel_rfl) (by kernel_rfl) (by kernel_rfl) (fun _ _ _ h => h) (by rfl) hS1 ?_ ?_
            rotate_left
            · (intro w' hSw; obtain ⟨p0, p1⟩ := hSw; have f0 := cellB p0 0 _ rfl; have f1 := cellB p0 1 _ rfl; have f2 := cellB p0 2 _ rfl; have f3 := cellB p0 3 _ rfl; have f4 := cellB p0 4 _ rfl; have f5 := cellB p0 5 _ rfl; (try go_simp); (try with_reducible rfl))
            simp only [Act.put, List.setIfInBounds_toArray, List.getElem_toArray, List.getElem_cons_succ, List.getElem_cons_zero, List.set_cons_succ, List.set_cons_zero]
            refine Y_take (i := 16) (v := ?_) rfl (by kernel_rfl) (by kernel_rfl) (by kernel_rfl) (by kernel_rfl) (fun _ _ _ h => h) (by rfl) hS1 ?_ ?_
            rotate_left
            · (intro w' hSw; obtain ⟨p0, p1⟩ := hSw; have f0 := cellB p0 0 _ rfl; have f1 := cellB p0 1 _ rfl; have f2 := cellB p0 2 _ rfl; have f3 := cellB p0 3 _ rfl; have f4 := cellB p0 4 _ rfl; have f5 := cellB p0 5 _ rfl; (try go_simp); (try with_reducible rfl))
            simp only [Act.put, List.setIfInBounds_toArray, List.getElem_toArray, List.getElem_cons_succ, List.getElem_cons_zero, List.set_cons_succ, List.set_cons_zero]
            refine Y_take (i := 17) (v := ?_) rfl (by kernel_rfl) (by kernel_rfl) (by kernel_rfl) (by kernel_rfl) (fun _ _ _ h => h) (by rfl) hS1 ?_ ?_
            rotate_left
            · (intro w' hSw; obtain ⟨p0, p1⟩ := hSw; have f0 := cellB p0 0 _ rfl; have f1 := cellB p0 1 _ rfl; have f2 := cellB p0 2 _ rfl; have f3 := cellB p0 3 _ rfl; have f4 := cellB p0 4 _ rfl; have f5 := cellB p0 5 _ rfl; (try go_simp); (try with_reducible rfl))
            simp only [Act.put, List.setIfInBounds_toArray, List.getElem_toArray, List.getElem_cons_succ, List.getElem_cons_zero, List.set_cons_succ, List.set_cons_zero]
            refine Y_take (i := 18) (v := ?_) rfl (by kernel_rfl) (by kernel_rfl) (by kernel_rfl) (by kernel_rfl) (fun _ _ _ h => h) (by rfl) hS1 ?_ ?_
            rotate_left
            · (intro w' hSw; obtain ⟨p0, p1⟩ := hSw; have f0 := cellB p0 0 _ rfl; have f1 := cellB p0 1 _ rfl; have f2 := cellB p0 2 _ rfl; have f3 := cellB p0 3 _ rfl; have f4 := cellB p0 4 _ rfl; have f5 := cellB p0 5 _ rfl; (try go_simp); (try with_reducible rfl))
            simp only [Act.put, List.setIfInBounds_toArray, List.getElem_toArray, List.getElem_cons_succ, List.getElem_cons_zero, List.set_cons_succ, List.set_cons_zero]
            refine Z_done (by kernel_rfl) ?_ _
            clear hS1
            go_wp2_with fail
            go_roundg (l.length - (n + 1))
            case measure => omega
            case rel => exact ⟨n + 1, by omega, by go_num, HOK1.out, hB2⟩
          · have hT2 : T = false := hmon (by rw [hf2, hnx, Bool.true_and]; simpa using heq)
            subst hT2
            have HZ1 : Hid (WA.cell? ⟨g0, e' + im * 6, none⟩ = some (.int .i64 pn)) := z1
            have hne : (num != pm) = true := by simpa using heq
            clear hok hB ho hf hf2 hmon y hD hND rD hbA hWA hilA hil hBA hzA hOK hCk HCK HT HZ HG hgN hz hq him hni hqn hnx z z0 z1
            go_upto_region 4 with fail
            rw [HWA.out, HD.out]
            clear y0 y1 y2 y3 y4 y5 HWA HD HV
            refine region_Z 99 (fun W => W.heap[D]? = some (.cells (cf num (.slice pa gs.length pc) o0 o1 o2 o3) 50) ∧ W.cell? ⟨g0, e' + im * 6, none⟩ = some (.int .i64 pn)) (by kernel_rfl) ?_
            have hS0 : WA.drew.heap[D]? = some (.cells (cf num (.slice pa gs.length pc) o0 o1 o2 o3) 50) ∧ WA.drew.cell? ⟨g0, e' + im * 6, none⟩ = some (.int .i64 pn) := ⟨HSA.out, HZ1.out⟩
            refine Y_take (i := 0) (v := ?_) rfl (by kernel_rfl) (by kernel_rfl) (by kernel_rfl) (by kernel_rfl) (fun _ _ _ h => h) (by rfl) hS0 ?_ ?_
            rotate_left
            · (intro w' hSw; obtain ⟨p0, p1⟩ := hSw; have f0 := cellB p0 0 _ rfl; have f1 := cellB p0 1 _ rfl; have f2 := cellB p0 2 _ rfl; have f3 := cellB p0 3 _ rfl; have f4 := cellB p0 4 _ rfl; have f5 := cellB p0 5 _ rfl; (try go_simp); (try with_reducible rfl))
            simp only [Act.put, List.setIfInBounds_toArray, List.getElem_toArray, List.getElem_cons_zero, List.set_cons_succ, List.set_cons_zero]
            refine Z_step (i := 1) (by kernel_rfl) rfl (fun K' hK => ?_)
            go_simp
            refine (HC.out _ (below_drew (Below.refl _ _))).mono ?_
            clear HC
            rintro e w2 ⟨rfl, hB2, hS1⟩
            refine hK _ _ (fun _ => hS1) ?_
            clear hK K' hS0
            refine Y_take (i := 2) (v := ?_) rfl (by kernel_rfl) (by kernel_rfl) (by kernel_rfl) (by kernel_rfl) (fun _ _ _ h => h) (by rfl) hS1 ?_ ?_
            rotate_left
            · (intro w' hSw; obtain ⟨p0, p1⟩ := hSw; have f0 := cellB p0 0 _ rfl; have f1 := cellB p0 1 _ rfl; have f2 := cellB p0 2 _ rfl; have f3 := cellB p0 3 _ rfl; have f4 := cellB p0 4 _ rfl; have f5 := cellB p0 5 _ rfl; (try go_simp); (try with_reducible rfl))
            simp only [Act.put, List.setIfInBounds_toArray, List.getElem_toArray, List.getElem_cons_succ, List.getElem_cons_zero, List.set_cons_succ, List.set_cons_zero]
            refine Y_take (i := 3) (v := ?_) rfl (by kernel_rfl) (by kernel_rfl) (by kernel_rfl) (by kernel_rfl) (fun _ _ _ h => h) (by rfl) hS1 ?_ ?_
            rotate_left
            · (intro w' hSw; obtain ⟨p0, p1⟩ := hSw; have f0 := cellB p0 0 _ rfl; have f1 := cellB p0 1 _ rfl; have f2 := cellB p0 2 _ rfl; have f3 := cellB p0 3 _ rfl; have f4 := cellB p0 4 _ rfl; have f5 := cellB p0 5 _ rfl; (try go_simp); (try with_reducible rfl))
            simp only [Act.put, List.setIfInBounds_toArray, List.getElem_toArray, List.getElem_cons_succ, List.getElem_cons_zero, List.set_cons_succ, List.set_cons_zero]
            refine Y_take (i := 4) (v := ?_) rfl (by kernel_rfl) (by kernel_rfl) (by kernel_rfl) (by kernel_rfl) (fun _ _ _ h => h) (by rfl) hS1 ?_ ?_
            rotate_left
            · (intro w' hSw; obtain ⟨p0, p1⟩ := hSw; have f0 := cellB p0 0 _ rfl; have f1 := cellB p0 1 _ rfl; have f2 := cellB p0 2 _ rfl; have f3 := cellB p0 3 _ rfl; have f4 := cellB p0 4 _ rfl; have f5 := cellB p0 5 _ rfl; (try go_simp); (try with_reducible rfl))
            simp only [Act.put, List.setIfInBounds_toArray, List.getElem_toArray, List.getElem_cons_succ, List.getElem_cons_zero, List.set_cons_succ, List.set_cons_zero]
            refine Y_take (i := 5) (v := ?_) rfl (by kernel_rfl) (by kernel_rfl) (by kernel_rfl) (by kernel_rfl) (fun _ _ _ h => h) (by rfl) hS1 ?_ ?_
            rotate_left
            · (intro w' hSw; obtain ⟨p0, p1⟩ := hSw; have f0 := cellB p0 0 _ rfl; have f1 := cellB p0 1 _ rfl; have f2 := cellB p0 2 _ rfl; have f3 := cellB p0 3 _ rfl; have f4 := cellB p0 4 _ rfl; have f5 := cellB p0 5 _ rfl; (try go_simp); (try with_reducible rfl))
            simp only [Act.put, List.setIfInBounds_toArray, List.getElem_toArray, List.getElem_cons_succ, List.getElem_cons_zero, List.set_cons_succ, List.set_cons_zero]
            refine Y_take (i := 6) (v := ?_) rfl (by kernel_rfl) (by kernel_rfl) (by kernel_rfl) (by kernel_rfl) (fun _ _ _ h => h) (by rfl) hS1 ?_ ?_
            rotate_left
            · (intro w' hSw; obtain ⟨p0, p1⟩ := hSw; have f0 := cellB p0 0 _ rfl; have f1 := cellB p0 1 _ rfl; have f2 := cellB p0 2 _ rfl; have f3 := cellB p0 3 _ rfl; have f4 := cellB p0 4 _ rfl; have f5 := cellB p0 5 _ rfl; (try go_simp); (try with_reducible rfl))
            simp only [Act.put, List.setIfInBounds_toArray, List.getElem_toArray, List.getElem_cons_succ, List.getElem_cons_zero, List.set_cons_succ, List.set_cons_zero]
            refine Y_take (i := 7) (v := ?_) rfl (by kernel_rfl) (by kernel_rfl) (by kernel_rfl) (by kernel_rfl) (fun _ _ _ h => h) (by rfl) hS1 ?_ ?_
            rotate_left
            · (intro w' hSw; obtain ⟨p0, p1⟩ := hSw; have f0 := cellB p0 0 _ rfl; have f1 := cellB p0 1 _ rfl; have f2 := cellB p0 2 _ rfl; have f3 := cellB p0 3 _ rfl; have f4 := cellB p0 4 _ rfl; have f5 := cellB p0 5 _ rfl; (try go_simp); (try with_reducible rfl))
            simp only [Act.put, List.setIfInBounds_toArray, List.getElem_toArray, List.getElem_cons_succ, List.getElem_cons_zero, List.set_cons_succ, List.set_cons_zero]
            refine Y_take (i := 8) (v := ?_) rfl (by kernel_rfl) (by kernel_rfl) (by kernel_rfl) (by kernel_rfl) (fun _ _ _ h => h) (by rfl) hS1 ?_ ?_
            rotate_left
            · (intro w' hSw; obtain ⟨p0, p1⟩ := hSw; have f0 := cellB p0 0 _ rfl; have f1 := cellB p0 1 _ rfl; have f2 := cellB p0 2 _ rfl; have f3 := cellB p0 3 _ rfl; have f4 := cellB p0 4 _ rfl; have f5 := cellB p0 5 _ rfl; (try go_simp); (try with_reducible rfl))
            simp only [Act.put, List.setIfInBounds_toArray, List.getElem_toArray, List.getElem_cons_succ, List.getElem_cons_zero, List.set_cons_succ, List.set_cons_zero]
            refine Y_take (i := 9) (v := ?_) rfl (by kernel_rfl) (by kernel_rfl) (by kernel_rfl) (by kernel_rfl) (fun _ _ _ h => h) (by rfl) hS1 ?_ ?_
            rotate_left
            · (intro w' hSw; obtain ⟨p0, p1⟩ := hSw; have f0 := cellB p0 0 _ rfl; have f1 := cellB p0 1 _ rfl; have f2 := cellB p0 2 _ rfl; have f3 := cellB p0 3 _ rfl; have f4 := cellB p0 4 _ rfl; have f5 := cellB p0 5 _ rfl; (try go_simp); (try with_reducible rfl))
            simp only [Act.put, List.setIfInBounds_toArray, List.getElem_toArray, List.getElem_cons_succ, List.getElem_cons_zero, List.set_cons_succ, List.set_cons_zero]
            refine Y_take (i := 10) (v := ?_) rfl (by kernel_rfl) (by kernel_rfl) (by kernel_rfl) (by kernel_rfl) (fun _ _ _ h => h) (by rfl) hS1 ?_ ?_
            rotate_left
            · (intro w' hSw; obtain ⟨p0, p1⟩ := hSw; have f0 := cellB p0 0 _ rfl; have f1 := cellB p0 1 _ rfl; have f2 := cellB p0 2 _ rfl; have f3 := cellB p0 3 _ rfl; have f4 := cellB p0 4 _ rfl; have f5 := cellB p0 5 _ rfl; (try go_simp); (try with_reducible rfl))
            simp only [Act.put, List.setIfInBounds_toArray, List.getElem_toArray, List.getElem_cons_succ, List.getElem_cons_zero, List.set_cons_succ, List.set_cons_zero]
            refine Y_take (i := 11) (v := ?_) rfl (by kernel_rfl) (by kernel_rfl) (by kernel_rfl) (by kernel_rfl) (fun _ _ _ h => h) (by rfl) hS1 ?_ ?_
            rotate_left
            · (intro w' hSw; obtain ⟨p0, p1⟩ := hSw; have f0 := cellB p0 0 _ rfl; have f1 := cellB p0 1 _ rfl; have f2 := cellB p0 2 _ rfl; have f3 := cellB p0 3 _ rfl; have f4 := cellB p0 4 _ rfl; have f5 := cellB p0 5 _ rfl; (try go_simp); (try with_reducible rfl))
            simp only [Act.put, List.setIfInBounds_toArray, List.getElem_toArray, List.getElem_cons_succ, List.getElem_cons_zero, List.set_cons_succ, List.set_cons_zero]
            refine Y_take (i := 12) (v := ?_) rfl (by kernel_rfl) (by kernel_rfl) (by kernel_rfl) (by kernel_rfl) (fun _ _ _ h => h) (by rfl) hS1 ?_ ?_
            rotate_left
            · (intro w' hSw; obtain ⟨p0, p1⟩ := hSw; have f0 := cellB p0 0 _ rfl; have f1 := cellB p0 1 _ rfl; have f2 := cellB p0 2 _ rfl; have f3 := cellB p0 3 _ rfl; have f4 := cellB p0 4 _ rfl; have f5 := cellB p0 5 _ rfl; (try go_simp); (try with_reducible rfl))
            simp only [Act.put, List.setIfInBounds_toArray, List.getElem_toArray, List.getElem_cons_succ, List.getElem_cons_zero, List.set_cons_succ, List.set_cons_zero]
            refine Y_take (i := 13) (v := ?_) rfl (by kernel_rfl) (by kernel_rfl) (by kernel_rfl) (by kernel_rfl) (fun _ _ _ h => h) (by rfl) hS1 ?_ ?_
            rotate_left
            · (intro w' hSw; obtain ⟨p0, p1⟩ := hSw; have f0 := cellB p0 0 _ rfl; have f1 := cellB p0 1 _ rfl; have f2 := cellB p0 2 _ rfl; have f3 := cellB p0 3 _ rfl; have f4 := cellB p0 4 _ rfl; have f5 := cellB p0 5 _ rfl; (try go_simp); (try with_reducible rfl))
            simp only [Act.put, List.setIfInBounds_toArray, List.getElem_toArray, List.getElem_cons_succ, List.getElem_cons_zero, List.set_cons_succ, List.set_cons_zero]
            refine Y_take (i := 14) (v := ?_) rfl (by kernel_rfl) (by kernel_rfl) (by kernel_rfl) (by kernel_rfl) (fun _ _ _ h => h) (by rfl) hS1 ?_ ?_
            rotate_left
            · (intro w' hSw; obtain ⟨p0, p1⟩ := hSw; have f0 := cellB p0 0 _ rfl; have f1 := cellB p0 1 _ rfl; have f2 := cellB p0 2 _ rfl; have f3 := cellB p0 3 _ rfl; have f4 := cellB p0 4 _ rfl; have f5 := cellB p0 5 _ rfl; (try go_simp); (try with_reducible rfl))
            simp only [Act.put, List.setIfInBounds_toArray, List.getElem_toArray, List.getElem_cons_succ, List.getElem_cons_zero, List.set_cons_succ, List.set_cons_zero]
            refine Y_take (i := 15) (v := ?_) rfl (by kernel_rfl) (by kernel_rfl) (by kernel_rfl) (by kernel_rfl) (fun _ _ _ h => h) (by rfl) hS1 ?_ ?_
            rotate_left
            · (intro w' hSw; obtain ⟨p0, p1⟩ := hSw; have f0 := cellB p0 0 _ rfl; have f1 := cellB p0 1 _ rfl; have f2 := cellB p0 2 _ rfl; have f3 := cellB p0 3 _ rfl; have f4 := cellB p0 4 _ rfl; have f5 := cellB p0 5 _ rfl; (try go_simp); (try with_reducible rfl))
            simp only [Act.put, List.setIfInBounds_toArray, List.getElem_toArray, List.getElem_cons_succ, List.getElem_cons_zero, List.set_cons_succ, List.set_cons_zero]
            refine Y_take (i := 16) (v := ?_) rfl (by kernel_rfl) (by kernel_rfl) (by kernel_rfl) (by kernel_rfl) (fun _ _ _ h => h) (by rfl) hS1 ?_ ?_
            rotate_left
            · (intro w' hSw; obtain ⟨p0, p1⟩ := hSw; have f0 := cellB p0 0 _ rfl; have f1 := cellB p0 1 _ rfl; have f2 := cellB p0 2 _ rfl; have f3 := cellB p0 3 _ rfl; have f4 := cellB p0 4 _ rfl; have f5 := cellB p0 5 _ rfl; (try go_simp); (try with_reducible rfl))
            simp only [Act.put, List.setIfInBounds_toArray, List.getElem_toArray, List.getElem_cons_succ, List.getElem_cons_zero, List.set_cons_succ, List.set_cons_zero]
            refine Y_take (i := 17) (v := ?_) rfl (by kernel_rfl) (by kernel_rfl) (by kernel_rfl) (by kernel_rfl) (fun _ _ _ h => h) (by rfl) hS1 ?_ ?_
            rotate_left
            · (intro w' hSw; obtain ⟨p0, p1⟩ := hSw; have f0 := cellB p0 0 _ rfl; have f1 := cellB p0 1 _ rfl; have f2 := cellB p0 2 _ rfl; have f3 := cellB p0 3 _ rfl; have f4 := cellB p0 4 _ rfl; have f5 := cellB p0 5 _ rfl; (try go_simp); (try with_reducible rfl))
            simp only [Act.put, List.setIfInBounds_toArray, List.getElem_toArray, List.getElem_cons_succ, List.getElem_cons_zero, List.set_cons_succ, List.set_cons_zero]
            refine Y_take (i := 18) (v := ?_) rfl (by kernel_rfl) (by kernel_rfl) (by kernel_rfl) (by kernel_rfl) (fun _ _ _ h => h) (by rfl) hS1 ?_ ?_
            rotate_left
            · (intro w' hSw; obtain ⟨p0, p1⟩ := hSw; have f0 := cellB p0 0 _ rfl; have f1 := cellB p0 1 _ rfl; have f2 := cellB p0 2 _ rfl; have f3 := cellB p0 3 _ rfl; have f4 := cellB p0 4 _ rfl; have f5 := cellB p0 5 _ rfl; (try go_simp); (try with_reducible rfl))
            simp only [Act.put, List.setIfInBounds_toArray, List.getElem_toArray, List.getElem_cons_succ, List.getElem_cons_zero, List.set_cons_succ, List.set_cons_zero]
            refine Z_done (by kernel_rfl) ?_ _
            clear hS1
            go_wp2_with fail
            go_ret
            exact ⟨rfl, hB2⟩
end Go.Proofs.Ytcehmaegnfelhaa
