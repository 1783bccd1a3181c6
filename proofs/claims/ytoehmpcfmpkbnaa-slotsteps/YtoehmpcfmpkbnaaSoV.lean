/- The document's gather, walked. -/
import Derived.Test.YtoehmpcfmpkbnaaSoS
namespace Go.Proofs.Ytoehmpcfmpkbnaa
open Go.RowKit
attribute [local go_sem ↓] Go.wp_at_zero Go.wp_at_succ

theorem rVote_any {base : Nat} {w : World} {R : Nat} {v : Value} {gr : Int} {f p : Nat} {l : List Vo} {V V' : Vs} (h : RefAt base w R v gr f p l) (hlen : l.length ≤ 1000) (ht : Tie f l V) (kind no : Int) (t g : List UInt8) (b : Bool) (E : Int) (hR : voteR V f kind no t g = (b, E, V')) : Calls Try.prog 12 #[.pointer (some ⟨R, 0, none⟩), .agg #[.int .i64 kind, .int .i64 no, .string (bs t), .string (bs g)]] w (VoteRet base R v gr f p l (kind, no, t, g) b E w) := by
  unfold voteR at hR
  split at hR
  · rename_i hE
    simp only [Prod.mk.injEq] at hR
    obtain ⟨rfl, rfl, _⟩ := hR
    exact rVote_bad h kind no t g hE
  · rename_i hE
    have hE : faultE (okV f kind no) false t g = 0 := by simpa using hE
    have := rVote_ok h hlen ht kind no t g hE
    split at hR
    · rename_i hv
      simp only [Prod.mk.injEq] at hR
      obtain ⟨rfl, rfl, _⟩ := hR
      rw [hv] at this
      exact this
    · rename_i hv
      simp only [Prod.mk.injEq] at hR
      obtain ⟨rfl, rfl, _⟩ := hR
      rw [show isV (ownV V f kind no).2 = false by simpa using hv] at this
      exact this
theorem Try.info84 : (Try.prog.info? 84).map (fun i => (i.zero, i.size, i.bytes)) = some (some (.agg #[.int .i64 0, .string ⟨#[]⟩]), 2, 24) := by kernel_rfl
set_option maxRecDepth 20000 in
set_option maxHeartbeats 8000000 in
theorem gather_any {base : Nat} {w : World} {R : Nat} {v : Value} {gr : Int} {f p : Nat} {l : List Vo} {V : Vs} (h : RefAt base w R v gr f p l) (hlen : l.length ≤ 1000) (ht : Tie f l V) {k : Nat} (hk : k < 2) (t : List UInt8) : Calls Try.prog 27 #[.pointer (some ⟨R, 0, none⟩), .int .i64 ((k : Int) + 1), .string (bs t)] w fun e W' =>
    (∃ u, e = .returned (.agg #[.string (bs t), .int .i64 gr, u]) ∧ W'.ownsRow w.heap.size 84 2 u (tagsTo V k t (3 * f + 1)).length (tcs (tagsTo V k t (3 * f + 1)))) ∧ Below w.heap.size w W' := by
  have f3 := h.f3
  obtain ⟨W0, hW0⟩ : ∃ W, (w.alloc (.cells #[.string ⟨#[]⟩, .int .i64 0, .slice none 0 0] 54)).alloc (.cells #[.string (bs t), .int .i64 gr, .slice none 0 0] 54) = W := ⟨_, rfl⟩
  have hb1 : Below w.heap.size w (w.alloc (.cells #[.string ⟨#[]⟩, .int .i64 0, .slice none 0 0] 54)) := (Below.refl _ w).alloc (Nat.le_refl _) _
  have hb0 : Below w.heap.size w W0 := by rw [← hW0]; exact hb1.alloc hb1.size _
  have rX : W0.heap[w.heap.size]? = some (.cells #[.string ⟨#[]⟩, .int .i64 0, .slice none 0 0] 54) := by
    rw [← hW0]; exact (Below.heap_alloc _ _ _ (by simp)).trans (heap_alloc_new w _)
  have rY : W0.heap[w.heap.size + 1]? = some (.cells #[.string (bs t), .int .i64 gr, .slice none 0 0] 54) := by
    have := heap_alloc_new (w.alloc (.cells #[.string ⟨#[]⟩, .int .i64 0, .slice none 0 0] 54)) (.cells #[.string (bs t), .int .i64 gr, .slice none 0 0] 54)
    rw [hW0] at this
    simpa using this
  have hs0 : w.heap.size + 2 ≤ W0.heap.size := by rw [← hW0]; simp
  have c0 := (h.on hb1).c.1
  have HK : Hid (∀ W, Below w.heap.size w W → W.cell? ⟨R, 1, none⟩ = some (.int .i64 f)) := fun W hW => (h.on hW).c.2.1
  have HO : Hid (∀ (W : World) (j : Nat), Below w.heap.size w W → j ≤ 3 * f → Calls Try.prog 14 #[.pointer (some ⟨R, 0, none⟩), .int .i64 ((k : Int) + 1), .int .i64 j] W fun e W' => (∃ kk nn : Int, e = .returned (.tuple #[.agg #[.int .i64 kk, .int .i64 nn, .string (bs (V k j).1), .string (bs (V k j).2)], .bool (isV (V k j).2)])) ∧ Below W.heap.size W W') := fun W j hW hj => by
    have := rOwn_tie (h.on hW) hlen ht ((k : Int) + 1) j
    rw [ownV_at hk hj] at this
    exact this
  obtain ⟨i0, hi, hz0, hz1, hz2⟩ := info_parts Try.info84
  obtain ⟨n, hn⟩ : ∃ n, 3 * f + 1 = n := ⟨_, rfl⟩
  have n10 : n ≤ 10 := by omega
  rw [hn]
  obtain ⟨L, hL⟩ : ∃ L, tagsTo V k t n = L := ⟨_, rfl⟩
  have HL : Hid (tagsTo V k t n = L) := hL
  rw [hL]
  have HW0 : Hid (_ = W0) := hW0
  clear hL h ht hb1 hW0
  go_enter Try.func27, Try.ntmps27
  go_wp2_with fail
  rw [HW0.out]
  clear HW0 c0
  go_loopg [8] n (fun gk i wr => ∃ (j : Nat) (u : Value), j + gk = n ∧ i = .int .i64 j ∧ wr.ownsRow (w.heap.size + 2) 84 2 u (tagsTo V k t j).length (tcs (tagsTo V k t j)) ∧ wr.heap[w.heap.size]? = some (.cells #[.string ⟨#[]⟩, .int .i64 0, .slice none 0 0] 54) ∧ wr.heap[w.heap.size + 1]? = some (.cells #[.string (bs t), .int .i64 gr, u] 54) ∧ Below w.heap.size w wr ∧ w.heap.size + 2 ≤ wr.heap.size)
  case atStart => exact ⟨0, .slice none 0 0, by omega, rfl, World.ownsRow_nil _ _ _ _, rX, rY, hb0, hs0⟩
  case round =>
    clear rX rY hb0 hs0
    obtain ⟨j, u, hj, rfl, hown, rr, ry, hB, hs⟩ := hrel
    have c1 := HK.out _ hB
    have ff : (f : Int) ≤ 3 := by omega
    by_cases hlt : j < n
    · have m0 : (j : Int) ≤ 3 * (f : Int) := by omega
      have m2 : (j : Int) ≤ 10 := by omega
      have hO := HO.out _ j hB (by omega)
      have hcl := tagsTo_le V k t j
      have HS : Hid (tagsTo V k t (j + 1) = tagsTo V k t j ++ if hasT (V k j) t = true then [((j : Int), (V k j).2)] else []) := rfl
      obtain ⟨M, hM⟩ : ∃ L, tagsTo V k t j = L := ⟨_, rfl⟩
      rw [hM] at HS hcl hown
      obtain ⟨⟨vt, vg⟩, hV⟩ : ∃ v, V k j = v := ⟨_, rfl⟩
      rw [hV] at HS hO
      simp only at HS hO
      obtain ⟨ua, uc, rfl⟩ := owns_slice hown
      clear hV hM
      have HX : Hid (_ ∧ _ ∧ _ ∧ _) := ⟨hown, rr, ry, hB⟩
      clear hown rr ry hB
      cases hv : isV vg
      · rw [hv] at hO
        have HS2 : Hid (tagsTo V k t (j + 1) = M) := by show _ = _; rw [HS.out, show hasT (vt, vg) t = false by simp [hasT, hv]]; simp
        clear hv HS
        go_wp2_with (first | (go_at_call 14; refine hO.mono ?_; rintro e w2 ⟨⟨kk, nn, rfl⟩, hb2⟩))
        go_roundg (n - (j + 1))
        case measure => omega
        case rel =>
          obtain ⟨hown, rr, ry, hB⟩ := HX.out
          have hb3 := hb2.alloc hb2.size (.cells #[.int .i64 kk, .int .i64 nn, .string (bs vt), .string (bs vg)] 39)
          exact ⟨j + 1, _, by omega, by go_num, by rw [HS2.out]; exact owns_next hown hb3, (hb3.block _ (by omega)).trans rr, (hb3.block _ (by omega)).trans ry, hB.trans (hb3.mono hB.size), Nat.le_trans hs hb3.size⟩
      · rw [hv] at hO
        by_cases hvt : vt = t
        · have HS2 : Hid (tagsTo V k t (j + 1) = M ++ [((j : Int), vg)]) := by show _ = _; rw [HS.out, show hasT (vt, vg) t = true by simp [hasT, hv, hvt]]; simp
          have hst := str_same t
          subst hvt
          clear hv HS
          have hml : M.length + 1 ≤ maxLen := by unfold maxLen; omega
          have hkb : (M.length + 1) * 24 ≤ 140737488355328 := by omega
          go_upto_region 7 with (first | (go_at_call 14; refine hO.mono ?_; rintro e w2 ⟨⟨kk, nn, rfl⟩, hb2⟩))
          obtain ⟨hown, rr, ry, hB⟩ := HX.out
          have hb3 := hb2.alloc hb2.size (.cells #[.int .i64 kk, .int .i64 nn, .string (bs vt), .string (bs vg)] 39)
          have rN := heap_alloc_new w2 (.cells #[.int .i64 kk, .int .i64 nn, .string (bs vt), .string (bs vg)] 39)
          have hown2 := owns_next hown hb3
          have rr2 := (hb3.block _ (by omega)).trans rr
          have ry2 := (hb3.block _ (by omega)).trans ry
          have hB2 := hB.trans (hb3.mono hB.size)
          have hs2 := Nat.le_trans hs hb3.size
          obtain ⟨W3, hW3⟩ : ∃ W, w2.alloc (.cells #[.int .i64 kk, .int .i64 nn, .string (bs vt), .string (bs vg)] 39) = W := ⟨_, rfl⟩
          rw [hW3] at rN hown2 rr2 ry2 hB2 hs2 ⊢
          have y3 := cellB rN 3 _ rfl
          have z2 := cellB ry2 2 _ rfl
          have HTk : Hid (tcs (M ++ [((j : Int), vg)]) = tcs M ++ [.int .i64 j, .string (bs vg)]) := tcs_append M _
          obtain ⟨Q, hQ⟩ : ∃ Q, tcs M = Q := ⟨_, rfl⟩
          rw [hQ] at hown2 HTk
          clear HX hb2 hb3 rN hown rr ry hB hQ hO hW3
          go_wp2_with (first
            | (at_builtin; refine wpList_append_lies _ rfl _ _ 52 rfl (w.heap.size + 2) 84 i0 (.agg #[.int .i64 0, .string ⟨#[]⟩]) 2 24 Try.underlying52 hi hz0 hz1 hz2 rfl (by decide) (.slice ua M.length uc) M.length Q rfl (hown2.alloc _) ⟨W3.heap.size, 0, none⟩ 1 1 [.int .i64 j, .string (bs vg)] rfl rfl (World.news_of_block (heap_alloc_new _ _)) (by simp [Value.oneCell']) (by decide) hml hkb (by simp; omega) _ rfl ?_; intro ga ca w' h1 h2 hat hlt6; have hg : Below (w.heap.size + 2) W3 w' := ((Below.refl _ W3).alloc hs2 _).grown h2 (by simp; omega) (fun q hq => (hown2.lt q hq).1); have ry6 := (hg.block _ (by omega)).trans ry2; have q2 := cellB ry6 2 _ rfl; have p2 := frozenB ry6 2))
          go_roundg (n - (j + 1))
          case measure => omega
          case rel =>
            have hb7 := hB2.trans (hg.mono (by omega))
            refine ⟨j + 1, _, by omega, by go_num, ?_, ?_, setB ry6 2 _, hb7.setCell (p := ⟨w.heap.size + 1, 2, none⟩) (by show w.heap.size ≤ w.heap.size + 1; omega) _, ?_⟩
            · rw [HS2.out, HTk.out, List.length_append]
              exact owns_kept h1 (fun q hq => set_far (by have := (h1.lt q hq).1; omega) _ _)
            · exact (set_far (by omega) _ _).trans ((hg.block _ (by omega)).trans rr2)
            · simp only [World.setCell, Array.size_modify]; exact Nat.le_trans hs2 hg.size
        · have HS2 : Hid (tagsTo V k t (j + 1) = M) := by show _ = _; rw [HS.out, show hasT (vt, vg) t = false by simp [hasT, hvt]]; simp
          have hst := str_other hvt
          clear hv HS hvt
          go_wp2_with (first | (go_at_call 14; refine hO.mono ?_; rintro e w2 ⟨⟨kk, nn, rfl⟩, hb2⟩))
          go_roundg (n - (j + 1))
          case measure => omega
          case rel =>
            obtain ⟨hown, rr, ry, hB⟩ := HX.out
            have hb3 := hb2.alloc hb2.size (.cells #[.int .i64 kk, .int .i64 nn, .string (bs vt), .string (bs vg)] 39)
            exact ⟨j + 1, _, by omega, by go_num, by rw [HS2.out]; exact owns_next hown hb3, (hb3.block _ (by omega)).trans rr, (hb3.block _ (by omega)).trans ry, hB.trans (hb3.mono hB.size), Nat.le_trans hs hb3.size⟩
    · have hjn : j = n := by omega
      subst hjn
      have m0 : 3 * (f : Int) < (j : Int) := by omega
      rw [HL.out] at hown
      obtain ⟨ua, uc, rfl⟩ := owns_slice hown
      have q0 := cellB rr 0 _ rfl
      have q1 := cellB rr 1 _ rfl
      have q2 := cellB rr 2 _ rfl
      have p0 := frozenB rr 0
      have p1 := frozenB rr 1
      have p2 := frozenB rr 2
      have y0 := cellB ry 0 _ rfl
      have y1 := cellB ry 1 _ rfl
      have y2 := cellB ry 2 _ rfl
      have HX : Hid (_ ∧ _ ∧ _) := ⟨hown, rr, hB⟩
      clear hown rr ry hB
      go_wp2
      obtain ⟨hown, rr, hB⟩ := HX.out
      have hr := put3_blk rr (.string (bs t)) (.int .i64 gr) (.slice ua L.length uc)
      have z1 := cellB hr 0 _ rfl
      have z2 := cellB hr 1 _ rfl
      have z3 := cellB hr 2 _ rfl
      unfold put3 at z1 z2 z3
      exact bodyPost_ret (v := .agg #[.string (bs t), .int .i64 gr, .slice ua L.length uc]) (by simp [results, Try.f27, go_sem, z1, z2, z3]) rfl ⟨⟨_, rfl, owns_base (put3_owns hown (by omega) (.string (bs t)) (.int .i64 gr) (.slice ua L.length uc)) (by omega)⟩, put3_below hB (Nat.le_refl _) (.string (bs t)) (.int .i64 gr) (.slice ua L.length uc)⟩
end Go.Proofs.Ytoehmpcfmpkbnaa
