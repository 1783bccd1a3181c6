/- The plain marks' Adopt, walked. -/
import Derived.Test.YtmggfkhfiggloaaDoorMsE
import Derived.Test.YtmggfkhfiggloaaDoorMtB
namespace Go.Proofs.YtmggfkhfiggloaaDoor
open Go.RowKit
attribute [local go_sem ↓] Go.wp_at_zero Go.wp_at_succ

/-- Six cells of a block, written anew. -/
def putA (W : World) (R : Nat) (a b c d e x : Value) : World := (((((W.setCell ⟨R, 3, none⟩ a).setCell ⟨R, 4, none⟩ b).setCell ⟨R, 5, none⟩ c).setCell ⟨R, 6, none⟩ d).setCell ⟨R, 7, none⟩ e).setCell ⟨R, 8, none⟩ x
theorem putA_blk {W : World} {R : Nat} {p0 p1 p2 p3 p4 p5 p6 p7 p8 : Value} {t : TypeId} (h : W.heap[R]? = some (.cells #[p0, p1, p2, p3, p4, p5, p6, p7, p8] t)) (a b c d e x : Value) : (putA W R a b c d e x).heap[R]? = some (.cells #[p0, p1, p2, a, b, c, d, e, x] t) := setB (setB (setB (setB (setB (setB h 3 a) 4 b) 5 c) 6 d) 7 e) 8 x
theorem putA_mv (W : World) (R : Nat) (a b c d e x : Value) : Mv R W (putA W R a b c d e x) := (((((Mv.set1 W R _ a).trans (Mv.set1 _ R _ b)).trans (Mv.set1 _ R _ c)).trans (Mv.set1 _ R _ d)).trans (Mv.set1 _ R _ e)).trans (Mv.set1 _ R _ x)
set_option maxRecDepth 20000 in
set_option maxHeartbeats 8000000 in
theorem rAdopt_any {w : World} {R : Nat} {g : Int} {f : Nat} {r : Rs} {lv cv : Value} (h : RefAt w R g f r lv cv) (ct : List UInt8) (cg : Int) (T : List Tg) (u : Value) (hu : Tp w u T) (huR : ∀ k, u.ownBlock = some k → k ≠ R) (hs : ct.length ≤ 4000000) (b : Bool) (E : Int) (r' : Rs) (hR : radoptR g r ct cg T = (b, E, r')) :
    Calls Tryd.prog 18 #[.pointer (some ⟨R, 0, none⟩), .agg #[.string (bs ct), .int .i64 cg, u]] w fun e W' => e = .returned (.tuple #[.bool b, .int .i64 E]) ∧ ∃ lv' cv', RefAt W' R g f r' lv' cv' ∧ Mv R w W' ∧ lv' = lv ∧ (cv' = cv ∨ cv' = u) := by
  obtain ⟨L, rn, rs, rt, rg, rT⟩ := r
  obtain ⟨ua, uc, rfl⟩ := hu.slice
  have hba := (Below.refl w.heap.size w).alloc (Nat.le_refl _) (.cells #[.string (bs ct), .int .i64 cg, .slice ua T.length uc] 44)
  have rQ := heap_alloc_new w (.cells #[.string (bs ct), .int .i64 cg, .slice ua T.length uc] 44)
  have hF := rRead_any ct (w.alloc (.cells #[.string (bs ct), .int .i64 cg, .slice ua T.length uc] 44)) hs
  have q0 := cellB rQ 0 _ rfl
  have hRl := h.lt
  have hsz : (w.alloc (.cells #[.string (bs ct), .int .i64 cg, .slice ua T.length uc] 44)).heap.size = w.heap.size + 1 := by simp
  unfold radoptR at hR
  dsimp only at hR
  have hec := readE_cases ct
  obtain ⟨⟨G, M, S⟩, hG⟩ : ∃ x, readV ct = x := ⟨_, rfl⟩
  obtain ⟨RE, hRE⟩ : ∃ x, readE ct = x := ⟨_, rfl⟩
  rw [hG, hRE] at hR hF
  rw [hRE] at hec
  simp only at hR hF
  have HC : Hid (∀ w1, Below (w.alloc (.cells #[.string (bs ct), .int .i64 cg, .slice ua T.length uc] 44)).heap.size (w.alloc (.cells #[.string (bs ct), .int .i64 cg, .slice ua T.length uc] 44)) w1 → RefAt w1 R g f ⟨L, rn, rs, rt, rg, rT⟩ lv cv ∧ Below w.heap.size w w1 ∧ w1.heap[w.heap.size]? = some (.cells #[.string (bs ct), .int .i64 cg, .slice ua T.length uc] 44) ∧ Tp w1 (.slice ua T.length uc) T ∧ w.heap.size + 1 ≤ w1.heap.size) := by
    intro w1 hb1
    have hB1 := hba.trans (hb1.mono hba.size)
    exact ⟨h.on hB1, hB1, (hb1.block _ (by omega)).trans rQ, hu.on hB1, by have := hb1.size; omega⟩
  have HU : Hid (∀ k, (Value.slice ua T.length uc).ownBlock = some k → k ≠ R) := huR
  have HR : Hid (_) := hR
  clear rQ hba h hu hsz hG hRE huR hR
  by_cases hbad : RE ≠ 0 ∨ G ≠ g ∨ cg ≠ g
  · have hR := HR.out
    rw [if_pos hbad] at hR
    simp only [Prod.mk.injEq] at hR
    obtain ⟨rfl, rfl, rfl⟩ := hR
    have hcase : RE = 4 ∨ (RE = 0 ∧ (G != g) = true) ∨ (RE = 0 ∧ (G != g) = false ∧ (cg != g) = true) := by
      rcases hec with e | e
      · by_cases e2 : G = g
        · right; right
          refine ⟨e, by simp [e2], ?_⟩
          rcases hbad with h | h | h
          · exact absurd e h
          · exact absurd e2 h
          · simpa using h
        · right; left; exact ⟨e, by simpa using e2⟩
      · exact .inl e
    clear hbad hec HR
    rcases hcase with rfl | ⟨rfl, e1⟩ | ⟨rfl, e1, e2⟩
    all_goals
      go_enter Tryd.func18, Tryd.ntmps18
      go_upto_region 2 with (first | (go_at_call 11; refine hF.mono ?_; rintro e w1 ⟨rfl, hb⟩))
      have hb2 := hb.alloc hb.size (.cells #[.int .i64 G, .int .i64 M, .string (bs S)] 30)
      have rS := heap_alloc_new w1 (.cells #[.int .i64 G, .int .i64 M, .string (bs S)] 30)
      obtain ⟨h1, hB1, rQ1, hv1, hs1⟩ := HC.out _ hb2
      obtain ⟨sg, hblk⟩ := h1.blk
      have c0 := cellB hblk 0 _ rfl
      have q1 := cellB rQ1 1 _ rfl
      have s0 := cellB rS 0 _ rfl
      have HZ : Hid (_ ∧ _) := ⟨h1, hB1⟩
      clear HC h1 hB1 rQ1 hv1 hb hF rS hb2 hblk
      go_quiet (fail)
      go_wp2
      obtain ⟨h1, hB1⟩ := HZ.out
      have hdr := below_drewN (Below.refl (w1.alloc (.cells #[.int .i64 G, .int .i64 M, .string (bs S)] 30)).heap.size (w1.alloc (.cells #[.int .i64 G, .int .i64 M, .string (bs S)] 30))) nq
      exact bodyPost_ret (v := .tuple #[.bool false, .int .i64 4]) (by simp [results, Tryd.f18, go_sem]) rfl ⟨rfl, _, _, h1.on hdr, (Mv.of_below hB1 R).trans (Mv.of_below hdr R), rfl, .inl rfl⟩
  · have hR := HR.out
    rw [if_neg hbad] at hR
    obtain ⟨rfl, rfl, rfl⟩ : RE = 0 ∧ G = g ∧ cg = g := by
      refine ⟨?_, ?_, ?_⟩
      · by_cases e : RE = 0
        · exact e
        · exact absurd (.inl e) hbad
      · by_cases e : G = g
        · exact e
        · exact absurd (.inr (.inl e)) hbad
      · by_cases e : cg = g
        · exact e
        · exact absurd (.inr (.inr e)) hbad
    have e1 : (cg != cg) = false := by simp
    have HR2 : Hid (_) := hR
    clear hbad hec hR HR
    go_enter Tryd.func18, Tryd.ntmps18
    go_upto_region 2 with (first | (go_at_call 11; refine hF.mono ?_; rintro e w1 ⟨rfl, hb⟩))
    have hb2 := hb.alloc hb.size (.cells #[.int .i64 cg, .int .i64 M, .string (bs S)] 30)
    have rS := heap_alloc_new w1 (.cells #[.int .i64 cg, .int .i64 M, .string (bs S)] 30)
    obtain ⟨h1, hB1, rQ1, hv1, hs1⟩ := HC.out _ hb2
    obtain ⟨sg, hblk⟩ := h1.blk
    have hls := hb.size
    have hszW : (w.alloc (.cells #[.string (bs ct), .int .i64 cg, .slice ua T.length uc] 44)).heap.size = w.heap.size + 1 := by simp
    obtain ⟨W2, hW2⟩ : ∃ W, w1.alloc (.cells #[.int .i64 cg, .int .i64 M, .string (bs S)] 30) = W := ⟨_, rfl⟩
    obtain ⟨Sb, hSb⟩ : ∃ x, w1.heap.size = x := ⟨_, rfl⟩
    obtain ⟨Q, hQ⟩ : ∃ x, w.heap.size = x := ⟨_, rfl⟩
    have HQ : Hid (w.heap.size = Q) := hQ
    rw [hW2] at rS h1 hB1 rQ1 hv1 hs1 hblk ⊢
    rw [hszW] at hls
    rw [hSb] at rS hls ⊢
    have hSR : ¬ Sb = R := by omega
    have hRS : ¬ R = Sb := by omega
    have hQR : ¬ Q = R := by omega
    have hRQ : ¬ R = Q := by omega
    rw [hQ] at rQ1 ⊢
    have c0 := cellB hblk 0 _ rfl
    have q1 := cellB rQ1 1 _ rfl
    have s0 := cellB rS 0 _ rfl
    have HZ : Hid (_ ∧ _ ∧ _ ∧ _ ∧ _ ∧ _) := ⟨h1, hB1, rQ1, hv1, rS, hblk⟩
    clear HC h1 hB1 rQ1 hv1 hb hF rS hb2 hblk hW2 hSb hQ hszW hls hs1
    go_quiet (fail)
    go_upto_region 4 with fail
    obtain ⟨h1, hB1, rQ1, hv1, rS, hblk⟩ := HZ.out
    have hdr := below_drewN (Below.refl W2.heap.size W2) nq
    have h3 := h1.on hdr
    have hB3 := hB1.trans (hdr.mono hB1.size)
    have hv3 := hv1.on hdr
    have rQ3 : (W2.drewN nq).heap[Q]? = some (.cells #[.string (bs ct), .int .i64 cg, .slice ua T.length uc] 44) := rQ1
    have rS3 : (W2.drewN nq).heap[Sb]? = some (.cells #[.int .i64 cg, .int .i64 M, .string (bs S)] 30) := rS
    have hbl3 : (W2.drewN nq).heap[R]? = some (.cells #[.int .i64 cg, .int .i64 f, lv, .int .i64 sg, .int .i64 rn, .string (bs rs), .string (bs rt), .int .i64 rg, cv] 46) := hblk
    obtain ⟨W3, hW3⟩ : ∃ W, W2.drewN nq = W := ⟨_, rfl⟩
    rw [hW3] at h3 hB3 hv3 rQ3 rS3 hbl3 ⊢
    have s1 := cellB rS3 1 _ rfl
    have d4 := cellB hbl3 4 _ rfl
    have HY : Hid (_ ∧ _ ∧ _ ∧ _ ∧ _ ∧ _) := ⟨h3, hB3, hv3, rQ3, rS3, hbl3⟩
    clear HZ h1 hB1 rQ1 hv1 rS hblk hdr h3 hB3 hv3 rQ3 rS3 hbl3 hW3 c0 q1 s0 q0
    by_cases hn : M ≤ rn
    · have hR := HR2.out
      rw [if_pos hn] at hR
      simp only [Prod.mk.injEq] at hR
      obtain ⟨rfl, rfl, rfl⟩ := hR
      have e5 : decide (M ≤ rn) = true := by simpa using hn
      go_quiet (fail)
      go_wp2
      obtain ⟨h3, hB3, _⟩ := HY.out
      have hdr := below_drewN (Below.refl W3.heap.size W3)
      exact bodyPost_ret (v := .tuple #[.bool false, .int .i64 0]) (by simp [results, Tryd.f18, go_sem]) rfl ⟨rfl, _, _, h3.on (hdr _), (Mv.of_below hB3 R).trans (Mv.of_below (hdr _) R), rfl, .inl rfl⟩
    · have hR := HR2.out
      rw [if_neg hn] at hR
      simp only [Prod.mk.injEq] at hR
      have e5 : decide (M ≤ rn) = false := by simpa using hn
      have HR3 : Hid (_) := hR
      clear hR HR2 hn
      go_quiet (fail)
      go_upto_region 6 with fail
      obtain ⟨h3, hB3, hv3, rQ3, rS3, hbl3⟩ := HY.out
      obtain ⟨rfl, rfl, rfl⟩ := HR3.out
      have hdr := below_drewN (Below.refl W3.heap.size W3) nq
      have h4 := h3.on hdr
      have hB4 := hB3.trans (hdr.mono hB3.size)
      have hv4 := hv3.on hdr
      have rQ4 : (W3.drewN nq).heap[Q]? = some (.cells #[.string (bs ct), .int .i64 cg, .slice ua T.length uc] 44) := rQ3
      have rS4 : (W3.drewN nq).heap[Sb]? = some (.cells #[.int .i64 cg, .int .i64 M, .string (bs S)] 30) := rS3
      have hbl4 : (W3.drewN nq).heap[R]? = some (.cells #[.int .i64 cg, .int .i64 f, lv, .int .i64 sg, .int .i64 rn, .string (bs rs), .string (bs rt), .int .i64 rg, cv] 46) := hbl3
      obtain ⟨W4, hW4⟩ : ∃ W, W3.drewN nq = W := ⟨_, rfl⟩
      rw [hW4] at h4 hB4 hv4 rQ4 rS4 hbl4 ⊢
      have y3 := cellB hbl4 3 _ rfl
      have y4 := cellB hbl4 4 _ rfl
      have y5 := cellB hbl4 5 _ rfl
      have y6 := cellB hbl4 6 _ rfl
      have y7 := cellB hbl4 7 _ rfl
      have y8 := cellB hbl4 8 _ rfl
      have z3 := frozenB hbl4 3
      have z4 := frozenB hbl4 4
      have z5 := frozenB hbl4 5
      have z6 := frozenB hbl4 6
      have z7 := frozenB hbl4 7
      have z8 := frozenB hbl4 8
      have t0 := cellB rS4 0 _ rfl
      have t1 := cellB rS4 1 _ rfl
      have t2 := cellB rS4 2 _ rfl
      have u0 := cellB rQ4 0 _ rfl
      have u1 := cellB rQ4 1 _ rfl
      have u2 := cellB rQ4 2 _ rfl
      have HV : Hid (_ ∧ _ ∧ _ ∧ _) := ⟨h4, hB4, hv4, hbl4⟩
      clear HY h3 hB3 hv3 rQ3 rS3 hbl3 hdr h4 hB4 hv4 rQ4 rS4 hbl4 hW4 s1 d4 HR3
      go_wp2
      obtain ⟨h4, hB4, hv4, hbl4⟩ := HV.out
      have hmp := putA_mv W4 R (.int .i64 cg) (.int .i64 M) (.string (bs S)) (.string (bs ct)) (.int .i64 cg) (.slice ua T.length uc)
      have hrp := putA_blk hbl4 (.int .i64 cg) (.int .i64 M) (.string (bs S)) (.string (bs ct)) (.int .i64 cg) (.slice ua T.length uc)
      have hP : RefAt (putA W4 R (.int .i64 cg) (.int .i64 M) (.string (bs S)) (.string (bs ct)) (.int .i64 cg) (.slice ua T.length uc)) R cg f ⟨L, M, S, ct, cg, T⟩ lv (.slice ua T.length uc) :=
        ⟨⟨cg, hrp⟩, h4.f3, h4.rows.keep hmp.size (fun q hq hl hlt => hmp.block q hlt (h4.ownL q hq hl)), hv4.keep hmp.size (fun q hq _ hlt => hmp.block q hlt (HU.out q hq)), h4.ownL, fun q hq _ => HU.out q hq⟩
      have hM := (Mv.of_below hB4 R).trans hmp
      unfold putA at hP hM
      exact bodyPost_ret (v := .tuple #[.bool true, .int .i64 0]) (by simp [results, Tryd.f18, go_sem]) rfl ⟨rfl, _, _, hP, hM, rfl, .inr rfl⟩
end Go.Proofs.YtmggfkhfiggloaaDoor
