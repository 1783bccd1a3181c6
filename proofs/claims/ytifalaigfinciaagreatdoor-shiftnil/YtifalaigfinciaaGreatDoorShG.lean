/- What a view begins with: the program's, walked. -/
import Derived.Test.YtifalaigfinciaaGreatDoorShR
namespace Go.Proofs.YtifalaigfinciaaGreatDoor
open Go.RowKit Go.Shelf
attribute [local go_sem] Oper.semAt_some

def fcs (l : List (Int × List UInt8)) : List Value := l.flatMap fun f => [.int .i64 f.1, .string (bs f.2)]
theorem fcs_len (l : List (Int × List UInt8)) : (fcs l).length = l.length * 2 := by
  induction l with
  | nil => rfl
  | cons a l ih => simp only [fcs, List.flatMap_cons, List.length_append, List.length_cons, List.length_nil] at ih ⊢; omega
theorem fcs_snoc (l : List (Int × List UInt8)) (x : Int × List UInt8) : fcs (l ++ [x]) = fcs l ++ [.int .i64 x.1, .string (bs x.2)] := by simp [fcs]
theorem Tryz.info42 : (Tryz.prog.info? 42).map (fun i => (i.zero, i.size, i.bytes)) = some (some (.agg #[.int .i64 0, .string ⟨#[]⟩]), 2, 24) := by kernel_rfl
theorem owns_after {w w' : World} {base n : Nat} {e : TypeId} {s : Nat} {v : Value} {xs : List Value} (h : w.ownsRow base e s v n xs) (hb : Below w.heap.size w w') : w'.ownsRow base e s v n xs := by
  obtain ⟨hl, h | ⟨g, cap, cur, h1, h2, h3, h4⟩⟩ := h
  · exact ⟨hl, .inl h⟩
  · exact ⟨hl, .inr ⟨g, cap, cur, h1, h2, (hb.block g (Array.getElem?_eq_some_iff.1 h3).1).trans h3, h4⟩⟩
theorem lowL_ge (L : List Cv) : 0 ≤ lowL L := by have := maxL_ge 0 L; unfold lowL; omega
theorem lowL_le (L : List Cv) : lowL L ≤ 1099511627776 := by unfold lowL; omega
theorem lastL_le (L : List Cv) : lastL L ≤ lowL L + 8 := by unfold lastL; omega

set_option maxRecDepth 100000 in
set_option maxHeartbeats 2000000 in
theorem Plan_any (L : List Cv) (v : Value) (w : World) (hL : L.length ≤ 1000) (hbl : ∀ c ∈ L, c.bl.length ≤ 1000) (he : Env w) (hv : Cl w.heap.size w v L) :
    Calls Tryz.prog 8 #[v] w fun e W' => ∃ u, e = .returned (.tuple #[.int .i64 (lowL L), u]) ∧ W'.ownsRow w.heap.size 42 2 u (fillsL L).length (fcs (fillsL L)) ∧ Below w.heap.size w W' := by
  obtain ⟨va, vc, rfl⟩ := hv.slice
  have hl0 := lowL_ge L
  have hl1 := lowL_le L
  have hl2 := lastL_le L
  refine (callsIn_wide (n := 4)).1 ?_
  obtain ⟨n, hn⟩ : ∃ n, n = 4 := ⟨_, rfl⟩
  rw [← hn]
  have h1 : 1 ≤ n := by omega
  obtain ⟨i0, hi, hz0, hz1, hz2⟩ := info_parts Tryz.info42
  obtain ⟨Q, hQ⟩ : ∃ Q, w.heap.size = Q := ⟨_, rfl⟩
  have hB0 : Below Q w (w.alloc (.cells #[.slice va L.length vc] 40)) := by rw [← hQ]; exact (Below.refl _ w).alloc (Nat.le_refl _) _
  have b0 : Boxed (w.alloc (.cells #[.slice va L.length vc] 40)) Q 40 (.slice va L.length vc) := by rw [← hQ]; exact Boxed.new w 40 _
  have hv0 : Cl Q (w.alloc (.cells #[.slice va L.length vc] 40)) (.slice va L.length vc) L := by rw [hQ] at hv; exact hv.below hB0 (Nat.le_refl _)
  have hS := span_any L (.slice va L.length vc) (w.alloc (.cells #[.slice va L.length vc] 40)) hL hbl (hv0.mono (by simp; omega))
  obtain ⟨f, hf⟩ : ∃ f : Int → Int × List UInt8, f = fun m => (m, batchL L m) := ⟨_, rfl⟩
  have hfl : fillsL L = (numsL (lowL L) (lastL L)).map f := by rw [hf]; rfl
  obtain ⟨LO, hLO⟩ : ∃ x, lowL L = x := ⟨_, rfl⟩
  obtain ⟨LA, hLA⟩ : ∃ x, lastL L = x := ⟨_, rfl⟩
  rw [hLO, hLA] at hS hfl hl2
  rw [hLO] at hl0 hl1
  rw [hLO, hfl, hQ]
  clear hLO hLA hfl
  refine callsIn_of_wp_marks Tryz.func8 rfl trivial ?_ rfl
  simp only [Tryz.ntmps8, List.size_toArray, List.length_cons, List.length_nil, Nat.reduceAdd, Nat.reduceSub, Array.replicate_succ, Array.replicate_zero, List.push_toArray, List.append_toArray, List.nil_append, List.cons_append]
  gi_wp2
  refine ⟨trivial, (callsIn_wide.2 hS).mono ?_⟩
  rintro e w1 ⟨rfl, hb1⟩
  have hB1 := hB0.trans (hb1.mono (by simp; omega))
  have b1 : Boxed w1 Q 40 (.slice va L.length vc) := (hb1.block Q (by simp; omega)).trans b0
  have hs1 := hb1.size
  rw [World.size_alloc, hQ] at hs1
  clear hS b0 hB0 hb1
  gi_wp2
  refine ⟨trivial, (callsIn_wide.2 (numbers_any _ _ _)).mono ?_⟩
  rintro e w' ⟨rfl, rfl⟩
  gi_wp2
  obtain ⟨R, hR⟩ : ∃ R, w1.heap.size = R := ⟨_, rfl⟩
  have hRs : (((w1.alloc (.cells #[.slice none 0 0] 37)).alloc (.cells #[.int .i64 LO] 3)).alloc (.cells #[.int .i64 LA] 3)).heap.size = R + 3 := by simp [hR]
  have bR : Boxed (((w1.alloc (.cells #[.slice none 0 0] 37)).alloc (.cells #[.int .i64 LO] 3)).alloc (.cells #[.int .i64 LA] 3)) R 37 (.slice none 0 0) := by
    rw [← hR]; exact ((Boxed.new w1 37 _).alloc _).alloc _
  have bA : Boxed (((w1.alloc (.cells #[.slice none 0 0] 37)).alloc (.cells #[.int .i64 LO] 3)).alloc (.cells #[.int .i64 LA] 3)) (R + 1) 3 (.int .i64 LO) := by
    have h0 := (Boxed.new (w1.alloc (.cells #[.slice none 0 0] 37)) 3 (.int .i64 LO)).alloc (.cells #[.int .i64 LA] 3)
    simp only [World.size_alloc, hR] at h0
    exact h0
  have bL : Boxed (((w1.alloc (.cells #[.slice none 0 0] 37)).alloc (.cells #[.int .i64 LO] 3)).alloc (.cells #[.int .i64 LA] 3)) (R + 1 + 1) 3 (.int .i64 LA) := by
    have h0 := Boxed.new ((w1.alloc (.cells #[.slice none 0 0] 37)).alloc (.cells #[.int .i64 LO] 3)) 3 (.int .i64 LA)
    simp only [World.size_alloc, hR] at h0
    exact h0
  have bQ : Boxed (((w1.alloc (.cells #[.slice none 0 0] 37)).alloc (.cells #[.int .i64 LO] 3)).alloc (.cells #[.int .i64 LA] 3)) Q 40 (.slice va L.length vc) := ((b1.alloc _).alloc _).alloc _
  have hBW : Below Q w (((w1.alloc (.cells #[.slice none 0 0] 37)).alloc (.cells #[.int .i64 LO] 3)).alloc (.cells #[.int .i64 LA] 3)) := ((hB1.alloc (by omega) _).alloc (by simp; omega) _).alloc (by simp; omega) _
  rw [hR] at hs1
  rw [hR]
  obtain ⟨W0, hW0⟩ : ∃ W0, (((w1.alloc (.cells #[.slice none 0 0] 37)).alloc (.cells #[.int .i64 LO] 3)).alloc (.cells #[.int .i64 LA] 3)) = W0 := ⟨_, rfl⟩
  rw [hW0] at hRs bR bA bL bQ hBW
  rw [hW0]
  clear hW0 hB1 b1 hR
  have hNl : (numsL LO LA).length ≤ 8 := by rw [numsL_len]; omega
  refine wpIn_rangeFunc_ownG rfl h1 (gf := 24) (lb := #[.pointer (some ⟨R + 1, 0, none⟩), .pointer (some ⟨R + 1 + 1, 0, none⟩)]) rfl trivial (enters_of Tryz.func24 (by kernel_rfl) rfl)
    (numbers_stops (n - 1) (by omega) (R + 1) (R + 1 + 1) LO LA hl0 hl1 (by omega) _ (by omega) (by omega) bA bL) kpB_t (kpB_b (by omega)) (Below.refl _ _) (fun _ => rfl)
    (fun pre W => ((∃ u, Boxed W R 37 u ∧ W.ownsRow Q 42 2 u pre.length (fcs (pre.map f)) ∧ True) ∧ Boxed W Q 40 (.slice va L.length vc)) ∧ (Below Q w W ∧ R + 3 ≤ W.heap.size))
    (fun _ _ _ => False)
    (OwnFrom.and (OwnFrom.and (Own.from (holdsRow_own Q R 37 42 2 (fun (pre : List Int) => pre.length) (fun (pre : List Int) => fcs (pre.map f)) (fun _ _ => True)) _) (Own.from (boxed_own _ _ _) _)) (OwnFrom.and (ownFrom_below (by omega) (by omega)) (Own.from (size_own _) _)))
    (fun _ => ownFrom_pure _ _)
    ⟨⟨⟨_, bR, World.ownsRow_nil _ _ _ _, trivial⟩, bQ⟩, hBW, by omega⟩
    (fun x => { tmps := #[.slice va L.length vc, .pointer (some ⟨Q, 0, none⟩), .int .i64 0, .slice none 0 0, .int .i64 LO, .int .i64 LA, .pointer (some ⟨R, 0, none⟩), .int .i64 x, .tuple #[.int .i64 LO, .int .i64 LA], .slice va L.length vc, .tuple #[.int .i64 LO, .int .i64 LA], .int .i64 LO, .int .i64 LA, .int .i64 LO, .int .i64 LA, .func (.func 24) #[] #[.pointer (some ⟨R + 1, 0, none⟩), .pointer (some ⟨R + 1 + 1, 0, none⟩)], .int .i64 x, undef, undef, undef, undef, undef, undef, undef, undef, undef, undef], defers := [] }) ?assign ?body ?done ?stop
  case assign =>
    intro l x W K hK
    gi_wp2
    exact hK
  case body =>
    rintro l pre x W ⟨⟨⟨u, hbu, hrow, _⟩, hbq⟩, hBw, hsz⟩ hlt
    have hd : 1 ≤ n - 1 - 1 := by omega
    have hmx : Tryz.prog.follows .mixedOrders = true := by kernel_rfl
    have hc := hbu.cell
    have hcq := hbq.cell
    have hBd : Below Q w W.drew := below_drew hBw
    have hbat := batchOf_any L (.slice va L.length vc) x W.drew hL hbl (he.next (by rw [hQ]; exact hBd)) (((show Cl Q w _ L by rw [← hQ]; exact hv).below hBd (Nat.le_refl _)).mono (by show Q ≤ W.heap.size; omega))
    have hml : pre.length + 1 ≤ maxLen := by unfold maxLen; omega
    have hfx : f x = (x, batchL L x) := by rw [hf]
    obtain ⟨BT, hBT⟩ : ∃ b, batchL L x = b := ⟨_, rfl⟩
    rw [hBT] at hbat hfx
    clear hBT
    obtain ⟨G, hG⟩ : ∃ G : World → Prop, G = fun W' => KeepsFrom W0.heap.size W W' ∧ KpB (R + 1 + 1) W W' ∧ (((∃ u, Boxed W' R 37 u ∧ W'.ownsRow Q 42 2 u (pre ++ [x]).length (fcs ((pre ++ [x]).map f)) ∧ True) ∧ Boxed W' Q 40 (.slice va L.length vc)) ∧ (Below Q w W' ∧ R + 3 ≤ W'.heap.size)) := ⟨_, rfl⟩
    have hap : ∀ w3, Below W.heap.size W.drew w3 → ∃ g' k' cap' w', (Builtin.append_ #[37, 37] 37 #[u, .slice (some ⟨w3.heap.size, 0, none⟩) 1 1]).run Tryz.prog (w3.alloc (.cells #[.int .i64 x, .string (bs BT)] 42)) = .ok (.slice (some ⟨g', 0, none⟩) k' cap') w' ∧
        w'.cell? ⟨R, 0, none⟩ = some u ∧ w'.frozen? ⟨R, 0, none⟩ = false ∧
        G (w'.setCell ⟨R, 0, none⟩ (.slice (some ⟨g', 0, none⟩) k' cap')) := by
      intro w3 hb3
      have hb3' : Below W.heap.size W w3 := (below_drew (Below.refl W.heap.size W)).trans hb3
      have hrow3 : w3.ownsRow Q 42 2 u pre.length (fcs (pre.map f)) := owns_after hrow hb3'
      have hs3 := hb3'.size
      have hbu3 : Boxed w3 R 37 u := (hb3'.block R (by omega)).trans hbu
      have hbq3 : Boxed w3 Q 40 (.slice va L.length vc) := (hb3'.block Q (by omega)).trans hbq
      have hcw := heap_alloc_new w3 (.cells #[.int .i64 x, .string (bs BT)] 42)
      obtain ⟨v', w', hrun, hown', hgrow, _⟩ := run_append_own (P := Tryz.prog) (w3.alloc (.cells #[.int .i64 x, .string (bs BT)] 42)) Q 37 37 42 i0 (.agg #[.int .i64 0, .string ⟨#[]⟩]) 2 24 Tryz.underlying37 hi hz0 hz1 hz2 rfl (by decide) u pre.length (fcs (pre.map f)) (hrow3.alloc _) ⟨w3.heap.size, 0, none⟩ 1 1 [.int .i64 x, .string (bs BT)] rfl
        (fun j y hy => by
          match j, hy with
          | 0, hy => simp at hy; subst hy; exact cellB hcw 0 _ rfl
          | 1, hy => simp at hy; subst hy; exact cellB hcw 1 _ rfl
          | j + 2, hy => simp at hy) (by simp [Value.oneCell']) hml (by omega) (by simp; omega)
      obtain ⟨g', cap', rfl⟩ := ownsRow_succ hown'
      obtain ⟨hv1, hv2, hr2, hk2, hb2⟩ := hbu3.appended (by decide) hrow3 (by omega) (by omega) hown' hgrow
      have hBz := hBw.trans ((hb3'.mono (by omega)).trans hb2)
      refine ⟨g', _, cap', w', hrun, hv1.cell, hv1.frozen, ?_⟩
      rw [hG]
      refine ⟨(keepsFrom_below hb3').trans (hk2.from _), fun y hy => ?_, ⟨⟨_, hv2, ?_, trivial⟩, ?_⟩, hBz, Nat.le_trans hsz (Nat.le_trans hs3 hb2.size)⟩
      · have hy3 : Boxed w3 (R + 1 + 1) 3 y := (hb3'.block _ (by omega)).trans hy
        exact ((hy3.alloc _).kept hgrow (hy3.not_row (by decide) hrow3)).other (by omega) _
      · have e1 : fcs ((pre ++ [x]).map f) = fcs (pre.map f) ++ [.int .i64 x, .string (bs BT)] := by rw [List.map_append, List.map_singleton, fcs_snoc, hfx]
        rw [e1, List.length_append]
        exact hr2
      · exact ((hbq3.alloc _).kept hgrow (hbq3.not_row (by decide) hrow3)).other (by omega) _
    have HAP : Hid (_) := hap
    have hRW : R < W.heap.size := by omega
    clear hap hf hfx hi hz0 hz1 hz2 hml hlt hrow hbu hbq hBw hNl
    gi_wp2
    refine wpIn_region_any hmx ?_
    refine any_round (ops := planOps) l planOps_plain _ _ _ _ ?_
    refine plan_region (n - 1 - 1) hd _ G Q R x u (.slice va L.length vc) BT W _ _ _ _ _ _ _ _ _ _ _ _ _ _ ?_ hRW hc hcq hbat HAP ?_
    · intro c a v d w h; exact h
    · intro a w4 _ h
      rw [hG] at h
      exact h
  case done =>
    rintro D ys W hD rfl ⟨⟨⟨u, hbu, hrow, _⟩, hbq⟩, hBw, hsz⟩ hK
    obtain ⟨ua, uc, rfl⟩ := owns_slice hrow
    have hc := hbu.cell
    have hKd : W.drew.heap[D]? = some (.deferred (some [])) := hK
    have hBd : Below Q w W.drew := below_drew hBw
    have hrd : W.drew.ownsRow Q 42 2 (.slice ua (numsL LO LA).length uc) (numsL LO LA).length (fcs ((numsL LO LA).map f)) := owns_after hrow (below_drew (Below.refl _ _))
    have hBB := hBd.trans (belowK_b (w := W0) (by omega) _ D _ (.deferred none) (by omega) hKd rfl rfl)
    have r2 := ownsRow_putObj hrd (.deferred none) hKd rfl
    gi_wp2
    gi_region
    gi_wp2
    refine ⟨by simp, .inl ⟨_, _, rfl, run_takeDeferred hKd, ?_⟩⟩
    refine ⟨.tuple #[.int .i64 LO, .slice ua (numsL LO LA).length uc], ?_, _, rfl, ?_, hBB⟩
    · simp [results, Tryz.f8, go_sem]
    · rw [List.length_map]; exact r2
  case stop => rintro D c pre W hD _ h hK; exact h.elim
end Go.Proofs.YtifalaigfinciaaGreatDoor
