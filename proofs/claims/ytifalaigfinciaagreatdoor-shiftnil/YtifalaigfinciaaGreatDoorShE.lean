/- From where to where the plan goes. -/
import Derived.Test.YtifalaigfinciaaGreatDoorShD
namespace Go.Proofs.YtifalaigfinciaaGreatDoor
open Go.RowKit Go.Shelf
attribute [local go_sem] Oper.semAt_some

theorem cells_own {β : Type} (B : Nat) (cs : Array Value) (t : TypeId) : Own (fun (_ : β) W => W.heap[B]? = some (.cells cs t)) := fun _ X _ row hs hg hrow =>
  (hg.block B (Array.getElem?_eq_some_iff.1 hs).1 (fun e' => by obtain ⟨o, ho, hc⟩ := hrow B e'.symm; rw [show X.heap[B]? = _ from hs] at ho; cases ho; cases hc)).trans hs
theorem keepsFrom_below {B : Nat} {W W' : World} (h : Below W.heap.size W W') : KeepsFrom B W W' := ⟨h.size, fun k _ _ h0 _ => (h.block k (Array.getElem?_eq_some_iff.1 h0).1).trans h0⟩
theorem maxL_take {L : List Cv} {k : Nat} {c : Cv} (h : L[k]? = some c) (a : Int) : maxL a (L.take (k + 1)) = max (maxL a (L.take k)) c.low := by
  unfold maxL
  rw [List.take_add_one, h]
  simp
theorem maxN_snoc (a : Int) (l : List Bv) (x : Bv) : maxN a (l ++ [x]) = max (maxN a l) x.n := by simp [maxN]

set_option maxRecDepth 100000 in
set_option maxHeartbeats 2000000 in
theorem span_any (L : List Cv) (v : Value) (w : World) (hL : L.length ≤ 1000) (hbl : ∀ c ∈ L, c.bl.length ≤ 1000) (hv : Cl w.heap.size w v L) :
    Calls Tryz.prog 14 #[v] w fun e W' => e = .returned (.tuple #[.int .i64 (lowL L), .int .i64 (lastL L)]) ∧ Below w.heap.size w W' := by
  obtain ⟨va, vc, rfl⟩ := hv.slice
  refine (callsIn_wide (n := 4)).1 ?_
  obtain ⟨n, hn⟩ : ∃ n, n = 4 := ⟨_, rfl⟩
  rw [← hn]
  have h1 : 1 ≤ n := by omega
  refine callsIn_of_wp_marks Tryz.func14 rfl trivial ?_ rfl
  simp only [Tryz.ntmps14, List.size_toArray, List.length_cons, List.length_nil, Nat.reduceAdd, Nat.reduceSub, Array.replicate_succ, Array.replicate_zero, List.push_toArray, List.append_toArray, List.nil_append, List.cons_append]
  have b0 := Boxed.new w 3 (.int .i64 0)
  have hB0 : Below w.heap.size w (w.alloc (.cells #[.int .i64 0] 3)) := (Below.refl _ w).alloc (Nat.le_refl _) _
  gi_wp2
  gi_loopw [4, 11] (fun p q wr => ∃ k : Nat, p = .int .i64 (maxL 0 (L.take k)) ∧ q = .int .i64 k ∧ k ≤ L.length ∧ Boxed wr w.heap.size 3 (.int .i64 0) ∧ Below w.heap.size w wr)
    (fun _ q _ => L.length - (intOf q).toNat)
  case atStart => exact ⟨0, rfl, rfl, Nat.zero_le _, b0, hB0⟩
  case round =>
    obtain ⟨k, rfl, rfl, hk, hbx, hB⟩ := hrel
    by_cases hk1 : k = L.length
    · subst hk1
      rw [List.take_length]
      have hlt : w.heap.size < wr.heap.size := (Array.getElem?_eq_some_iff.1 hbx).1
      gi_wp2
      refine ⟨trivial, (callsIn_wide.2 (bests_any _ _ _ _ rfl _)).mono ?_⟩
      rintro e w' ⟨rfl, rfl⟩
      gi_wp2
      have hB1 : Below w.heap.size w (wr.alloc (.cells #[.slice va L.length vc] 40)) := hB.alloc hB.size _
      have hbx1 := hbx.alloc (.cells #[.slice va L.length vc] 40)
      have b1 := Boxed.new wr 40 (.slice va L.length vc)
      refine wpIn_rangeFunc_ownH rfl h1 (gf := 37) (lb := #[.pointer (some ⟨wr.heap.size, 0, none⟩)]) rfl trivial (enters_of Tryz.func37 (by kernel_rfl) rfl)
        (bests_stops (n - 1) (by omega) wr.heap.size w.heap.size L _ hL hbl _ (by simp) hB1.size b1.cell (hv.below hB1 (Nat.le_refl _))) belowK_t (belowK_b hB1.size) (Below.refl _ _) (fun _ => rfl)
        (fun pre W => Boxed W w.heap.size 3 (.int .i64 (maxN 0 pre)) ∧ Below w.heap.size w W)
        (fun _ _ _ => False)
        (OwnFrom.and (Own.from (boxed_own _ _ _) _) (ownFrom_below (Nat.le_refl _) hB1.size))
        (fun _ => ownFrom_pure _ _)
        ⟨hbx1, hB1⟩
        (fun x a' W => ∃ Bx, W.heap[Bx]? = some (.cells #[.int .i64 x.n, .int .i64 x.v, .string (bs x.t), .int .i64 x.g, .slice x.ta x.tn x.tc] 34) ∧ a' = { tmps := #[.slice va L.length vc, undef, .int .i64 0, .int .i64 0, .int .i64 (maxL 0 L), .pointer (some ⟨w.heap.size, 0, none⟩), undef, u7, .pointer (some ⟨Bx, 0, none⟩), .slice va L.length vc, .int .i64 L.length, .int .i64 L.length, .bool false, u13, u14, u15, u16, u17, u18, u19, .slice va L.length vc, .func (.func 37) #[] #[.pointer (some ⟨wr.heap.size, 0, none⟩)], .agg #[.int .i64 x.n, .int .i64 x.v, .string (bs x.t), .int .i64 x.g, .slice x.ta x.tn x.tc], undef, undef, undef, undef, undef, undef, undef, undef, undef, undef, undef], defers := [] })
        (fun x a' s X Y row hs hg hr => by
          obtain ⟨Bx, h1, h2⟩ := hs
          exact ⟨Bx, (Own.from (cells_own (β := Unit) Bx _ _) _) () X Y row h1 hg hr, h2⟩)
        ?assign ?body ?done ?stop
      case assign =>
        rintro l pre x W K ⟨hb, hBw⟩ hK
        have hba := (Below.refl W.heap.size W).alloc (Nat.le_refl _) (.cells #[.int .i64 x.n, .int .i64 x.v, .string (bs x.t), .int .i64 x.g, .slice x.ta x.tn x.tc] 34)
        gi_wp2
        exact hK _ _ (keepsFrom_below hba) (hba.mono hBw.size) ⟨hb.alloc _, hBw.alloc hBw.size _⟩ ⟨W.heap.size, heap_alloc_new _ _, rfl⟩
      case body =>
        rintro l pre x a' W hl - ⟨hb, hBw⟩ ⟨Bx, hBx, rfl⟩ hlt
        have hc := hb.cell
        have hf := hb.frozen
        have hx0 := cellB hBx 0 _ rfl
        gi_wp2
        refine ⟨(KeepsOthers.setCell _ _ _).from _, (Below.refl _ _).setCell (p := ⟨w.heap.size, 0, none⟩) (Nat.le_refl _) _, ?_, hBw.setCell (p := ⟨w.heap.size, 0, none⟩) (Nat.le_refl _) _⟩
        rw [maxN_snoc]
        exact hb.set _
      case done =>
        rintro D ys W hD rfl ⟨hb, hBw⟩ hK
        have hc := hb.cell
        have hl0 : 0 ≤ min (maxL 0 L) 1099511627776 := by have := maxL_ge 0 L; omega
        have hl1 : min (maxL 0 L) 1099511627776 ≤ 1099511627776 := by omega
        have hlow : lowL L = min (maxL 0 L) 1099511627776 := rfl
        have hlast : lastL L = min (maxN 0 (allB L)) (min (maxL 0 L) 1099511627776 + 8) := rfl
        have hcd : W.drew.cell? ⟨w.heap.size, 0, none⟩ = some (.int .i64 (maxN 0 (allB L))) := hc
        have hKd : W.drew.heap[D]? = some (.deferred (some [])) := hK
        have hBd := below_drew hBw
        have hBB := hBd.trans (belowK_b (w := w) (Nat.le_refl _) _ D _ (.deferred none) (by have := hB1.size; omega) hKd rfl rfl)
        gi_wp2
        obtain ⟨LO, hLO⟩ : ∃ x, min (maxL 0 L) 1099511627776 = x := ⟨_, rfl⟩
        rw [hLO] at hl0 hl1 hlow hlast ⊢
        gi_region
        gi_wp2
        refine ⟨by simp, .inl ⟨_, _, rfl, run_takeDeferred hKd, ?_⟩⟩
        refine ⟨.tuple #[.int .i64 LO, .int .i64 (min (maxN 0 (allB L)) (LO + 8))], ?_, by rw [hlow, hlast], hBB⟩
        simp [results, Tryz.f14, go_sem]
      case stop => rintro D c pre W hD _ h hK; exact h.elim
    · have hk2 : k < L.length := by omega
      obtain ⟨c, hc⟩ : ∃ c, L[k]? = some c := ⟨_, List.getElem?_eq_getElem hk2⟩
      obtain ⟨vb, vo, rfl, hvl, ⟨c0, c1, c2, c3, c4, c5⟩, hbv⟩ := (hv.below hB (Nat.le_refl _)).cells hc
      have htk := maxL_take hc 0
      obtain ⟨cv, clow, cmt, cmg, cma, cmn, cmc, cbv, cbl⟩ := c
      simp only at c0 c1 c2 c3 c4 c5 hbv htk
      obtain ⟨ba, bc, rfl⟩ := hbv.slice
      have hB1 : Below w.heap.size w (wr.alloc (.cells #[.int .i64 cv, .int .i64 clow, .string (bs cmt), .int .i64 cmg, .slice cma cmn cmc, .slice ba cbl.length bc] 27)) := hB.alloc hB.size _
      have hbx1 := hbx.alloc (.cells #[.int .i64 cv, .int .i64 clow, .string (bs cmt), .int .i64 cmg, .slice cma cmn cmc, .slice ba cbl.length bc] 27)
      gi_wp2
      go_roundw
      case rel => exact ⟨k + 1, by rw [htk], by go_num, hk2, hbx1, hB1⟩
      case measure => simp [intOf]; omega
end Go.Proofs.YtifalaigfinciaaGreatDoor
