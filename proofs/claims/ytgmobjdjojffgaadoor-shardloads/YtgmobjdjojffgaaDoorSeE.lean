/- The document's shard in memory; what it knows of a client, walked. -/
import Derived.Test.YtgmobjdjojffgaaDoorSdV
import Derived.Test.YtgmobjdjojffgaaDoorTdF
import Derived.Test.YtgmobjdjojffgaaDoorSeA
import Derived.Test.YtgmobjdjojffgaaDoorSeB
namespace Go.Proofs.YtgmobjdjojffgaaDoor
section
open Go.RowKit
attribute [local go_sem ↓] Go.wp_at_zero Go.wp_at_succ

theorem lcs_len (E : List Le) : (lcs E).length = E.length * 4 := by
  induction E with
  | nil => rfl
  | cons y E ih => simp only [lcs, List.flatMap_cons, List.length_append, List.length_cons, List.length_nil] at ih ⊢; omega
theorem lcs_at {E : List Le} {n : Nat} {y : Le} (h : E[n]? = some y) {r : Nat} (hr : r < 4) : (lcs E)[n * 4 + r]? = [Value.int .i64 y.1, .int .i64 y.2.1, .int .i64 y.2.2.1, .string (bs y.2.2.2)][r]? := by
  obtain ⟨hi, e⟩ := List.getElem?_eq_some_iff.1 h
  have hs : E = E.take n ++ y :: E.drop (n + 1) := by rw [← e]; simp
  have hn : (lcs (E.take n)).length = n * 4 := by rw [lcs_len, List.length_take, Nat.min_eq_left (by omega)]
  rw [hs, lcs_append, List.getElem?_append_right (by omega), hn, show n * 4 + r - n * 4 = r by omega, show lcs (y :: E.drop (n + 1)) = [Value.int .i64 y.1, .int .i64 y.2.1, .int .i64 y.2.2.1, .string (bs y.2.2.2)] ++ lcs (E.drop (n + 1)) by simp [lcs], List.getElem?_append_left (by simpa using hr)]
/-- The document's shard. -/
structure RsAt (w : World) (B : Nat) (st : Int) (L : List Rw) (E : List Le) (u x : Value) : Prop where
  blk : ∃ t, w.heap[B]? = some (.cells #[.int .i64 st, u, x] t)
  rows : w.ownsRow 0 120 2 u L.length (rcs L)
  lasts : w.ownsRow 0 89 4 x E.length (lcs E)
  ou : ∀ k, u.ownBlock = some k → k ≠ B
  ox : ∀ k, x.ownBlock = some k → k ≠ B
theorem RsAt.lt {w : World} {B : Nat} {st : Int} {L : List Rw} {E : List Le} {u x : Value} (h : RsAt w B st L E u x) : B < w.heap.size := by
  obtain ⟨t, h⟩ := h.blk
  exact (Array.getElem?_eq_some_iff.1 h).1
theorem RsAt.on {w W : World} {B : Nat} {st : Int} {L : List Rw} {E : List Le} {u x : Value} (h : RsAt w B st L E u x) (hb : Below w.heap.size w W) : RsAt W B st L E u x := by
  obtain ⟨t, hh⟩ := h.blk
  exact ⟨⟨t, (hb.block B h.lt).trans hh⟩, own_kept h.rows hb, own_kept h.lasts hb, h.ou, h.ox⟩
theorem own4 {w : World} {a : Option Addr} {c : Nat} {E : List Le} (h : w.ownsRow 0 89 4 (.slice a E.length c) E.length (lcs E)) {n : Nat} {y : Le} (hy : E[n]? = some y) : ∃ g, a = some ⟨g, 0, none⟩ ∧ g < w.heap.size ∧ w.cell? ⟨g, n * 4, none⟩ = some (.int .i64 y.1) ∧ w.cell? ⟨g, n * 4 + 1, none⟩ = some (.int .i64 y.2.1) ∧ w.cell? ⟨g, n * 4 + 2, none⟩ = some (.int .i64 y.2.2.1) ∧ w.cell? ⟨g, n * 4 + 3, none⟩ = some (.string (bs y.2.2.2)) := by
  have hn : n < E.length := (List.getElem?_eq_some_iff.1 hy).1
  obtain ⟨hl, h⟩ := h
  rcases h with ⟨e, h0⟩ | ⟨g, cap, cur, e, hb, hh, h1, h2, h3, h4⟩
  · omega
  · injection e with e1 _ _
    have key : ∀ r, r < 4 → w.cell? ⟨g, n * 4 + r, none⟩ = [Value.int .i64 y.1, .int .i64 y.2.1, .int .i64 y.2.2.1, .string (bs y.2.2.2)][r]? := fun r hr => by
      have e2 : (cur.toList.take (E.length * 4))[n * 4 + r]? = (lcs E)[n * 4 + r]? := by rw [h4]
      rw [List.getElem?_take_of_lt (by omega), lcs_at hy hr] at e2
      rw [← e2]
      unfold World.cell?
      simp only [hh]
      simp
    exact ⟨g, e1, (Array.getElem?_eq_some_iff.1 hh).1, key 0 (by decide), key 1 (by decide), key 2 (by decide), key 3 (by decide)⟩
theorem four_read {W : World} {Q : Nat} {ob : Array Value} {t : TypeId} (hq : W.heap[Q]? = some (.cells ob t)) (ho : ob.size = 4) (a b c d : Value) : (W.setCells Q 0 [a, b, c, d]).cell? ⟨Q, 0, none⟩ = some a ∧ (W.setCells Q 0 [a, b, c, d]).cell? ⟨Q, 1, none⟩ = some b ∧ (W.setCells Q 0 [a, b, c, d]).cell? ⟨Q, 2, none⟩ = some c ∧ (W.setCells Q 0 [a, b, c, d]).cell? ⟨Q, 3, none⟩ = some d := by
  have hr := World.rangeAt_setCells_same W Q 0 [a, b, c, d] (fun j hj => by
    have hj' : j < ob.size := by rw [ho]; simpa using hj
    rw [Nat.zero_add]
    refine ⟨?_, frozenB hq j⟩
    rw [cellB hq j _ (Array.getElem?_eq_getElem hj')]
    rfl)
  exact ⟨hr 0 a rfl, hr 1 b rfl, hr 2 c rfl, hr 3 d rfl⟩
theorem ofE_found {E : List Le} {n i : Nat} {y : Le} (h : E[n]? = some y) (hy : y.1 = i) (hb : ∀ (m : Nat) (z : Le), E[m]? = some z → m < n → z.1 ≠ i) : ofE E i = y.2 := by
  obtain ⟨hi, e⟩ := List.getElem?_eq_some_iff.1 h
  have hs : E = E.take n ++ y :: E.drop (n + 1) := by rw [← e]; simp
  unfold ofE
  rw [hs, List.find?_append, List.find?_eq_none.2 (fun z hz => by
    obtain ⟨m, hm, e2⟩ := List.mem_iff_getElem.1 hz
    have hm' : m < n := by simp at hm; omega
    have := hb m z (by rw [← e2]; simp [List.getElem?_eq_getElem (by omega : m < E.length)]) hm'
    simpa using this)]
  simp [hy]
theorem ofE_none {E : List Le} {i : Nat} (hb : ∀ (m : Nat) (z : Le), E[m]? = some z → z.1 ≠ i) : ofE E i = la0 := by
  unfold ofE
  rw [List.find?_eq_none.2 (fun z hz => by
    obtain ⟨m, hm, e2⟩ := List.mem_iff_getElem.1 hz
    have := hb m z (by rw [← e2]; exact List.getElem?_eq_getElem hm)
    simpa using this)]
  rfl
/-- What 'of' gives. -/
def OfPost (w : World) (E : List Le) (i : Nat) (e : Ending) (W' : World) : Prop := ∃ k : Int, e = .returned (.agg #[.int .i64 k, .int .i64 (ofE E i).1, .int .i64 (ofE E i).2.1, .string (bs (ofE E i).2.2)]) ∧ Below w.heap.size w W'
abbrev WO (w : World) : World := w.alloc (.cells #[.int .i64 0, .int .i64 0, .int .i64 0, .string ⟨#[]⟩] 89)
set_option maxRecDepth 20000 in
set_option maxHeartbeats 1000000 in
theorem rOf_any {w : World} {B : Nat} {st : Int} {L : List Rw} {E : List Le} {u x : Value} (h : RsAt w B st L E u x) (hE : E.length ≤ 1000000) (i : Nat) : Calls Tryd.prog 51 #[.pointer (some ⟨B, 0, none⟩), .int .i64 (i : Int)] w fun e W' => OfPost w E i e W' := by
  have hb1 : Below w.heap.size w (WO w) := (Below.refl _ _).alloc (Nat.le_refl _) _
  obtain ⟨t, hblk⟩ := h.blk
  have hlt := h.lt
  have y2 := cellB hblk 2 x rfl
  obtain ⟨xa, xc, rfl⟩ := owns_slice h.lasts
  have HL : Hid (∀ W, Below (WO w).heap.size (WO w) W → W.ownsRow 0 89 4 (.slice xa E.length xc) E.length (lcs E)) := fun W hb => own_kept h.lasts (hb1.trans (hb.mono hb1.size))
  have HR : Hid (∀ W, Below (WO w).heap.size (WO w) W → W.heap[w.heap.size]? = some (.cells #[.int .i64 0, .int .i64 0, .int .i64 0, .string ⟨#[]⟩] 89) ∧ w.heap.size < W.heap.size ∧ Below w.heap.size w W) := fun W hb => ⟨(hb.block _ (by simp)).trans (heap_alloc_new w _), by have := hb.size; simp at this; omega, hb1.trans (hb.mono hb1.size)⟩
  have hWb : Below (WO w).heap.size (WO w) (WO w) := Below.refl _ _
  clear h hblk hb1
  go_enter Tryd.func51, Tryd.ntmps51
  go_wp2
  go_loopg [12] E.length (fun gk p wr => ∃ n : Nat, n + gk = E.length ∧ p = .int .i64 (n : Int) ∧ Below (WO w).heap.size (WO w) wr ∧ (∀ m z, E[m]? = some z → m < n → z.1 ≠ i))
  case atStart => exact ⟨0, by omega, rfl, hWb, fun m z _ hm => by omega⟩
  case round =>
    clear hWb
    obtain ⟨n, hn, rfl, hB, hno⟩ := hrel
    obtain ⟨hq, hqs, hBw⟩ := HR.out _ hB
    have q0 := cellB hq 0 _ rfl
    have q1 := cellB hq 1 _ rfl
    have q2 := cellB hq 2 _ rfl
    have q3 := cellB hq 3 _ rfl
    have z0 := frozenB hq 0
    have z1 := frozenB hq 1
    have z2 := frozenB hq 2
    have z3 := frozenB hq 3
    by_cases hne : n = E.length
    · subst hne
      have HF : Hid (ofE E i = la0) := ofE_none fun m z hz => hno m z hz (List.getElem?_eq_some_iff.1 hz).1
      have HT : Hid (_) := four_read hq rfl (.int .i64 0) (.int .i64 0) (.int .i64 0) (.string ⟨#[]⟩)
      have HB : Hid (Below w.heap.size w (wr.setCells w.heap.size 0 [.int .i64 0, .int .i64 0, .int .i64 0, .string ⟨#[]⟩])) := below_sets hBw (Nat.le_refl _) _ _
      clear hno hq hBw hB HR HL
      go_wp2
      obtain ⟨r0, r1, r2, r3⟩ := HT.out
      simp only [World.setCells] at r0 r1 r2 r3
      refine bodyPost_ret (v := .agg #[.int .i64 0, .int .i64 0, .int .i64 0, .string ⟨#[]⟩]) (by simp [results, Tryd.f51, go_sem, r0, r1, r2, r3]) rfl ⟨0, ?_, HB.out⟩
      rw [HF.out]
      rfl
    · obtain ⟨y, hy⟩ : ∃ y, E[n]? = some y := ⟨_, List.getElem?_eq_getElem (by omega)⟩
      obtain ⟨g, rfl, hg, c0, c1, c2, c3⟩ := own4 (HL.out _ hB) hy
      have hni : (n : Int) < (E.length : Int) := by omega
      have hwn : IntKind.i64.wrap ((n : Int) + 1) = ((n + 1 : Nat) : Int) := wrap_to (by omega) (by omega) (by omega)
      obtain ⟨k, a, b, d⟩ := y
      by_cases hk : k = i
      · subst hk
        have HF : Hid (ofE E k = (a, b, d)) := ofE_found hy rfl hno
        have HT : Hid (_) := four_read hq rfl (.int .i64 (k : Int)) (.int .i64 a) (.int .i64 b) (.string (bs d))
        have HB : Hid (Below w.heap.size w (wr.setCells w.heap.size 0 [.int .i64 (k : Int), .int .i64 a, .int .i64 b, .string (bs d)])) := below_sets hBw (Nat.le_refl _) _ _
        clear hno hq hBw hB HR HL hy
        go_wp2
        obtain ⟨r0, r1, r2, r3⟩ := HT.out
        simp only [World.setCells] at r0 r1 r2 r3
        refine bodyPost_ret (v := .agg #[.int .i64 (k : Int), .int .i64 a, .int .i64 b, .string (bs d)]) (by simp [results, Tryd.f51, go_sem, r0, r1, r2, r3, hqs]) rfl ⟨k, ?_, HB.out.alloc HB.out.size _⟩
        rw [HF.out]
      · have hkb : ((k : Int) == (i : Int)) = false := by rw [beq_eq_false_iff_ne]; omega
        have HB2 : Hid (Below (WO w).heap.size (WO w) (wr.alloc (.cells #[.int .i64 (k : Int), .int .i64 a, .int .i64 b, .string (bs d)] 89))) := hB.alloc hB.size _
        have HNo : Hid (∀ m z, E[m]? = some z → m < n + 1 → z.1 ≠ i) := fun m z hz hm => by
          by_cases e : m = n
          · subst e
            rw [hy] at hz
            cases hz
            exact hk
          · exact hno m z hz (by omega)
        clear hno hq hBw hB HR HL hy
        go_wp2
        go_roundg (E.length - (n + 1))
        case measure => omega
        case rel => exact ⟨n + 1, by omega, rfl, HB2.out, HNo.out⟩
end
section
open Go.RowKit
attribute [local go_sem ↓] Go.wp_at_zero Go.wp_at_succ

theorem RsAt.rf {w : World} {B : Nat} {st : Int} {L l : List Rw} {E : List Le} {u x : Value} (h : RsAt w B st L E u x) (hp : L.Perm l) (hok : Ok l) : RfAt w B 1 L u := by
  obtain ⟨t, hb⟩ := h.blk
  exact ⟨cellB hb 1 u rfl, frozenB hb 1, h.rows, h.ou, by rw [hp.length_eq]; exact hok.len, fun r hr => by have := (hok.row r (hp.mem_iff.1 hr)).2; simpa [isV] using this⟩
set_option maxRecDepth 20000 in
set_option maxHeartbeats 2000000 in
theorem rContent_any {w : World} {B : Nat} {st : Int} {L l : List Rw} {E : List Le} {u x : Value} {c : Nat → La} (h : RsAt w B st L E u x) (hp : L.Perm l) (hokl : Ok l) (hec : ∀ i, ofE E i = c i) (hok : OkC c) (hE : E.length ≤ 1000000) : Calls Tryd.prog 35 #[.pointer (some ⟨B, 0, none⟩)] w fun e W' => e = .returned (.string (bs (if hasC st = true then contT l c else []))) ∧ Below w.heap.size w W' := by
  have hT := rTextT_any (h.rf hp hokl) hp hokl
  obtain ⟨tb, hblk⟩ := h.blk
  have hlt := h.lt
  have y0 := cellB hblk 0 (.int .i64 st) rfl
  cases hst : hasC st with
  | false =>
    have h1 : (st != 1) = true := by simp [hasC] at hst; simpa using hst.1
    have h2 : (st != 2) = true := by simp [hasC] at hst; simpa using hst.2
    rw [if_neg (by simp)]
    clear h hT hblk hst
    go_enter Tryd.func35, Tryd.ntmps35
    go_wp2
    go_ret
    exact ⟨rfl, Below.refl _ _⟩
  | true =>
  rw [if_pos rfl]
  have hcase : st = 1 ∨ (st = 2 ∧ (st != 1) = true) := by
    simp [hasC] at hst
    rcases hst with h | h
    · exact .inl h
    · exact .inr ⟨h, by rw [h]; decide⟩
  obtain ⟨tt, htt⟩ : ∃ t, textT l = t := ⟨_, rfl⟩
  have HP : Hid (∀ W u, Below w.heap.size w W → W.ownsRow w.heap.size 9 1 u (contTo tt c 8).length (strs (contTo tt c 8)) → Calls Tryd.prog 33 #[u] W fun e W' => e = .returned (.string (bs (contT l c))) ∧ Below w.heap.size w W') := fun W u hb ho => by
    have e : contTo tt c 8 = contL l c := by rw [contTo, contL, htt]; rfl
    rw [e] at ho
    obtain ⟨a1, a2, _⟩ := cont_tot hokl hok
    refine (rPack_any (contL l c) u W (by omega) (by omega) (Sl.of_owns ho)).mono ?_
    rintro e W' ⟨rfl, h2⟩
    exact ⟨rfl, hb.trans (h2.mono hb.size)⟩
  have HOf : Hid (∀ W, Below w.heap.size w W → ∀ j : Nat, Calls Tryd.prog 51 #[.pointer (some ⟨B, 0, none⟩), .int .i64 (j : Int)] W fun e W' => ∃ k : Int, e = .returned (.agg #[.int .i64 k, .int .i64 (c j).1, .int .i64 (c j).2.1, .string (bs (c j).2.2)]) ∧ Below W.heap.size W W') := fun W hb j => by
    refine (rOf_any (h.on hb) hE j).mono ?_
    rintro e W' ⟨k, rfl, hb2⟩
    exact ⟨k, by rw [hec j], hb2⟩
  have HOk : Hid (OkC c) := hok
  obtain ⟨Z, hZ⟩ : ∃ Z, contT l c = Z := ⟨_, rfl⟩
  rw [hZ] at HP
  rw [hZ]
  rw [htt] at hT
  clear h hok hZ htt hblk hst hp hokl hec
  rcases hcase with rfl | ⟨rfl, h12⟩
  all_goals
    go_enter Tryd.func35, Tryd.ntmps35
    go_upto_region 4 with (first | (go_at_call 50; refine hT.mono ?_; clear hT; rintro e w1 ⟨rfl, hb1⟩))
    have hbA : Below w.heap.size w (w1.alloc (.cells #[.string (bs tt)] 9)) := hb1.alloc hb1.size _
    have hown0 : (w1.alloc (.cells #[.string (bs tt)] 9)).ownsRow w.heap.size 9 1 (.slice (some ⟨w1.heap.size, 0, none⟩) 1 1) (contTo tt c 0).length (strs (contTo tt c 0)) := own_base (owns_new w1 #[.string (bs tt)] 9 1 1 rfl (by decide)) hb1.size
    obtain ⟨WA, hWA⟩ : ∃ W, w1.alloc (.cells #[.string (bs tt)] 9) = W := ⟨_, rfl⟩
    rw [hWA] at hbA hown0
    rw [hWA]
    clear hWA hb1 y0
    go_wp2
    go_loopg [3, 4] 8 (fun gk l i wr => ∃ (j : Nat) (u : Value), j + gk = 8 ∧ i = .int .i64 (j : Int) ∧ l = u ∧ wr.ownsRow w.heap.size 9 1 u (contTo tt c j).length (strs (contTo tt c j)) ∧ Below w.heap.size w wr)
    case atStart => exact ⟨0, _, by omega, rfl, rfl, hown0, hbA⟩
    case round =>
    clear hown0 hbA
    obtain ⟨j, u, hj, rfl, rfl, hown, hB⟩ := hrel
    by_cases hj8 : j = 8
    · subst hj8
      have hp := HP.out _ _ hB hown
      obtain ⟨ua, uc, rfl⟩ := owns_slice hown
      clear HP hown
      go_wp2_with (first | (go_at_call 33; refine hp.mono ?_; clear hp; rintro e w9 ⟨rfl, hb9⟩))
      go_ret
      exact ⟨rfl, hb9⟩
    have hlt8 : j < 8 := by omega
    have j0 : (0 : Int) ≤ (j : Int) := by omega
    have j1 : (j : Int) < 8 := by omega
    have hof := HOf.out _ hB j
    have hwj : IntKind.i64.wrap ((j : Int) + 1) = ((j + 1 : Nat) : Int) := wrap_to (by omega) (by omega) (by omega)
    have hoj := HOk.out.ok j
    have hlen := contTo_len (c := c) tt j
    have HS : Hid (contTo tt c (j + 1) = contTo tt c j ++ cl1 j (c j)) := contTo_succ tt c j
    obtain ⟨⟨N, F, V⟩, hcj⟩ : ∃ x, c j = x := ⟨_, rfl⟩
    rw [hcj] at hof hoj HS
    simp only at hof
    have n0 : 0 ≤ N := hoj.n0
    have n1 : N ≤ 1099511627776 := hoj.n1
    have f0 : 0 ≤ F := hoj.e0
    have f1 : F ≤ 999 := hoj.e1
    obtain ⟨ua, uc, rfl⟩ := owns_slice hown
    have HOW : Hid (wr.ownsRow w.heap.size 9 1 (.slice ua (contTo tt c j).length uc) (contTo tt c j).length (strs (contTo tt c j))) := hown
    have HBW : Hid (Below w.heap.size w wr) := hB
    clear hcj hoj hown hB
    go_upto_region 8 with (first | (go_at_call 51; refine hof.mono ?_; clear hof; rintro e wo ⟨kk, rfl, hbo⟩))
    have hbX := (Below.refl wo.heap.size wo).alloc (Nat.le_refl _) (.cells #[.int .i64 kk, .int .i64 N, .int .i64 F, .string (bs V)] 89)
    have rX := heap_alloc_new wo (.cells #[.int .i64 kk, .int .i64 N, .int .i64 F, .string (bs V)] 89)
    obtain ⟨W2, hW2⟩ : ∃ W, wo.alloc (.cells #[.int .i64 kk, .int .i64 N, .int .i64 F, .string (bs V)] 89) = W := ⟨_, rfl⟩
    obtain ⟨X, hX⟩ : ∃ X, wo.heap.size = X := ⟨_, rfl⟩
    rw [hW2] at hbX rX
    rw [hW2, hX]
    rw [hX] at rX
    have hlX : X < W2.heap.size := (Array.getElem?_eq_some_iff.1 rX).1
    have hB2 : Below w.heap.size w W2 := (HBW.out.trans (hbo.mono HBW.out.size)).trans (hbX.mono (Nat.le_trans HBW.out.size hbo.size))
    have x1 := cellB rX 1 (.int .i64 N) rfl
    have hown2 := own_kept (own_kept HOW.out hbo) hbX
    have HOX : Hid (∀ k, (Value.slice ua (contTo tt c j).length uc).ownBlock = some k → k < X) := fun k hk => by
      have := ((own_kept HOW.out hbo).lt k hk).2
      omega
    obtain ⟨M, hM⟩ : ∃ M, contTo tt c j = M := ⟨_, rfl⟩
    rw [hM] at hown2 hlen HS HOX
    rw [hM]
    clear hW2 hX hbX hM HOW HBW hbo
    by_cases hN0 : 0 < N
    case neg =>
      have HM : Hid (contTo tt c (j + 1) = M) := by
        show _ = _
        rw [HS.out, cl1, if_neg hN0, List.append_nil]
      have hN2 : N ≤ 0 := by omega
      clear HS
      go_wp2
      go_roundg (8 - (j + 1))
      case measure => omega
      case rel => exact ⟨j + 1, _, by omega, rfl, rfl, by rw [HM.out]; exact hown2, hB2⟩
    have HM : Hid (contTo tt c (j + 1) = M ++ [Lib.itoa j, Lib.itoa N, Lib.itoa F, V]) := by
      show _ = _
      rw [HS.out, cl1, if_pos hN0]
    have hN1 := rNum_any (j : Int) W2.drew (by omega) (by omega)
    have HC : Hid (∀ W, Below W2.heap.size W2 W → W.cell? ⟨X, 1, none⟩ = some (.int .i64 N) ∧ W.cell? ⟨X, 2, none⟩ = some (.int .i64 F) ∧ W.cell? ⟨X, 3, none⟩ = some (.string (bs V))) := fun W hb => by
      have := (hb.block X hlX).trans rX
      exact ⟨cellB this 1 _ rfl, cellB this 2 _ rfl, cellB this 3 _ rfl⟩
    have HN2 : Hid (∀ W, Calls Tryd.prog 34 #[.int .i64 N] W fun e W' => e = .returned (.string (bs (Lib.itoa N))) ∧ Below W.heap.size W W') := fun W => rNum_any N W (by omega) (by omega)
    have HN3 : Hid (∀ W, Calls Tryd.prog 34 #[.int .i64 F] W fun e W' => e = .returned (.string (bs (Lib.itoa F))) ∧ Below W.heap.size W W') := fun W => rNum_any F W (by omega) (by omega)
    obtain ⟨I1, hI1⟩ : ∃ x, Lib.itoa (j : Int) = x := ⟨_, rfl⟩
    obtain ⟨I2, hI2⟩ : ∃ x, Lib.itoa N = x := ⟨_, rfl⟩
    obtain ⟨I3, hI3⟩ : ∃ x, Lib.itoa F = x := ⟨_, rfl⟩
    rw [hI1] at hN1 HM
    rw [hI2] at HN2 HM
    rw [hI3] at HN3 HM
    obtain ⟨i0, hi, hy0, hy1, hy2⟩ := info_parts Tryd.info9
    have HI : Hid (Tryd.prog.info? 9 = some i0 ∧ i0.zero = some (.string ⟨#[]⟩) ∧ i0.size = 1 ∧ i0.bytes = 16) := ⟨hi, hy0, hy1, hy2⟩
    have hS0 := HC.out _ (below_drew (Below.refl W2.heap.size W2))
    have hml : M.length + 4 ≤ maxLen := by unfold maxLen; omega
    have hmb : (M.length + 4) * 16 ≤ 140737488355328 := by omega
    have HOw : Hid (∀ W, Below W2.heap.size W2 W → W.ownsRow w.heap.size 9 1 (.slice ua M.length uc) M.length (strs M)) := fun W hb => own_kept hown2 hb
    have HB2 : Hid (Below w.heap.size w W2) := hB2
    clear hI1 hI2 hI3 HS hi hy0 hy1 hy2 hown2 hB2 rX
    go_upto_region 9 with fail
    clear x1
    refine region_Z 13 (fun w' => w'.cell? ⟨X, 1, none⟩ = some (.int .i64 N) ∧ w'.cell? ⟨X, 2, none⟩ = some (.int .i64 F) ∧ w'.cell? ⟨X, 3, none⟩ = some (.string (bs V))) (by kernel_rfl) ?_
    refine Z_take (i := 0) (v := ?_) rfl (by kernel_rfl) (by kernel_rfl) (by kernel_rfl) (by kernel_rfl) (fun _ _ _ h => h) (by rfl) hS0 ?_ ?_
    rotate_left
    · (intro w' hSw; obtain ⟨e0, e1, e2⟩ := hSw; go_simp; (try with_reducible rfl))
    simp only [Act.put, List.setIfInBounds_toArray]
    refine Z_take (i := 1) (v := ?_) rfl (by kernel_rfl) (by kernel_rfl) (by kernel_rfl) (by kernel_rfl) (fun _ _ _ h => h) (by rfl) hS0 ?_ ?_
    rotate_left
    · (intro w' hSw; obtain ⟨e0, e1, e2⟩ := hSw; go_simp; (try with_reducible rfl))
    simp only [Act.put]
    refine Z_take (i := 3) (v := ?_) rfl (by kernel_rfl) (by kernel_rfl) (by kernel_rfl) (by kernel_rfl) (fun _ _ _ h => h) (by rfl) hS0 ?_ ?_
    rotate_left
    · (intro w' hSw; obtain ⟨e0, e1, e2⟩ := hSw; go_simp; (try with_reducible rfl))
    simp only [Act.put]
    refine Z_take (i := 4) (v := ?_) rfl (by kernel_rfl) (by kernel_rfl) (by kernel_rfl) (by kernel_rfl) (fun _ _ _ h => h) (by rfl) hS0 ?_ ?_
    rotate_left
    · (intro w' hSw; obtain ⟨e0, e1, e2⟩ := hSw; go_simp; (try with_reducible rfl))
    simp only [Act.put]
    refine Z_take (i := 6) (v := ?_) rfl (by kernel_rfl) (by kernel_rfl) (by kernel_rfl) (by kernel_rfl) (fun _ _ _ h => h) (by rfl) hS0 ?_ ?_
    rotate_left
    · (intro w' hSw; obtain ⟨e0, e1, e2⟩ := hSw; go_simp; (try with_reducible rfl))
    simp only [Act.put]
    refine Z_take (i := 7) (v := ?_) rfl (by kernel_rfl) (by kernel_rfl) (by kernel_rfl) (by kernel_rfl) (fun _ _ _ h => h) (by rfl) hS0 ?_ ?_
    rotate_left
    · (intro w' hSw; obtain ⟨e0, e1, e2⟩ := hSw; go_simp; (try with_reducible rfl))
    simp only [Act.put]
    refine Z_take (i := 9) (v := ?_) rfl (by kernel_rfl) (by kernel_rfl) (by kernel_rfl) (by kernel_rfl) (fun _ _ _ h => h) (by rfl) hS0 ?_ ?_
    rotate_left
    · (intro w' hSw; obtain ⟨e0, e1, e2⟩ := hSw; go_simp; (try with_reducible rfl))
    simp only [Act.put]
    refine Z_take (i := 10) (v := ?_) rfl (by kernel_rfl) (by kernel_rfl) (by kernel_rfl) (by kernel_rfl) (fun _ _ _ h => h) (by rfl) hS0 ?_ ?_
    rotate_left
    · (intro w' hSw; obtain ⟨e0, e1, e2⟩ := hSw; go_simp; (try with_reducible rfl))
    simp only [Act.put]
    refine Z_step (i := 2) (by kernel_rfl) rfl (fun K hK => ?_)
    go_simp
    refine hN1.mono ?_
    clear hN1
    rintro e w4 ⟨rfl, hw4⟩
    have bw4 : Below W2.heap.size W2 w4 := ⟨hw4.os, hw4.tape, hw4.output, hw4.size, hw4.block⟩
    have hS4 := HC.out _ bw4
    have hN2 := HN2.out w4; clear HN2; refine hK _ _ (fun _ => hS4) ?_
    clear hK K
    refine Z_step (i := 5) (by kernel_rfl) rfl (fun K hK => ?_)
    go_simp
    refine hN2.mono ?_
    clear hN2
    rintro e w5 ⟨rfl, hw5⟩
    have bw5 : Below W2.heap.size W2 w5 := bw4.trans (hw5.mono bw4.size)
    have hS5 := HC.out _ bw5
    have hN3 := HN3.out w5; clear HN3; refine hK _ _ (fun _ => hS5) ?_
    clear hK K
    refine Z_step (i := 8) (by kernel_rfl) rfl (fun K hK => ?_)
    go_simp
    refine hN3.mono ?_
    clear hN3
    rintro e w6 ⟨rfl, hw6⟩
    have bw6 : Below W2.heap.size W2 w6 := bw5.trans (hw6.mono bw5.size)
    have hS6 := HC.out _ bw6
    refine hK _ _ (fun _ => hS6) ?_
    clear hK K
    have hbN : Below W2.heap.size W2 (w6.alloc (.cells #[.string (bs I1), .string (bs I2), .string (bs I3), .string (bs V)] 9)) := bw6.alloc bw6.size _
    have hownN := HOw.out _ hbN
    have hSN := HC.out _ hbN
    have hwN : w.heap.size ≤ (w6.alloc (.cells #[.string (bs I1), .string (bs I2), .string (bs I3), .string (bs V)] 9)).heap.size := Nat.le_trans HB2.out.size hbN.size
    refine Z_step (i := 11) (by kernel_rfl) rfl (fun K hK => ?_)
    go_simp
    refine hK _ _ (fun _ => hSN) ?_
    clear hK K
    refine Z_step (i := 12) (by kernel_rfl) rfl (fun K hK => ?_)
    refine step_append_lies _ (by rfl) _ _ 57 (by rfl) w.heap.size 9 i0 (.string ⟨#[]⟩) 1 16 Tryd.underlying57 HI.out.1 HI.out.2.1 HI.out.2.2.1 HI.out.2.2.2 rfl (by decide) _ M.length (strs M) (by rfl) hownN ⟨w6.heap.size, 0, none⟩ 4 4 [.string (bs I1), .string (bs I2), .string (bs I3), .string (bs V)] (by rfl) rfl (World.news_of_block (heap_alloc_new w6 _)) (by simp [Value.oneCell']) (by decide) hml hmb hwN _ rfl ?_
    intro ga ca w7 hown7 hgrow hat hlt7
    have hXo : some X ≠ (Value.slice ua M.length uc).ownBlock := fun h => by
      have := HOX.out X h.symm
      omega
    have hlXN : X < (w6.alloc (.cells #[.string (bs I1), .string (bs I2), .string (bs I3), .string (bs V)] 9)).heap.size := Nat.lt_of_lt_of_le hlX hbN.size
    have hbl := hgrow.block X hlXN hXo
    have hS7 : w7.cell? ⟨X, 1, none⟩ = some (.int .i64 N) ∧ w7.cell? ⟨X, 2, none⟩ = some (.int .i64 F) ∧ w7.cell? ⟨X, 3, none⟩ = some (.string (bs V)) :=
      ⟨(World.cell?_of_block (a := ⟨X, 1, none⟩) hbl).trans hSN.1, (World.cell?_of_block (a := ⟨X, 2, none⟩) hbl).trans hSN.2.1, (World.cell?_of_block (a := ⟨X, 3, none⟩) hbl).trans hSN.2.2⟩
    have HO7 : Hid (w7.ownsRow w.heap.size 9 1 (.slice (some ⟨ga, 0, none⟩) (M.length + 4) ca) (contTo tt c (j + 1)).length (strs (contTo tt c (j + 1)))) := by
      rw [HM.out, strs_append, List.length_append]
      exact hown7
    have HB7 : Hid (Below w.heap.size w w7) := (HB2.out.trans (hbN.mono HB2.out.size)).grown hgrow hwN (fun k hk => (hownN.lt k hk).1)
    refine hK _ _ (fun _ => hS7) ?_
    clear hK K hown7 hgrow hat hlt7 hbl hXo hlXN hownN hSN hwN hbN HOw
    refine Z_step (i := 13) (by kernel_rfl) rfl (fun K hK => ?_)
    go_simp
    refine hK _ _ (fun h => absurd rfl h) (Z_done (by kernel_rfl) ?_ _)
    clear hK K
    go_wp2
    go_roundg (8 - (j + 1))
    case measure => omega
    case rel => exact ⟨j + 1, _, by omega, rfl, rfl, HO7.out, HB7.out⟩
end
section
open Go.RowKit
attribute [local go_sem ↓] Go.wp_at_zero Go.wp_at_succ

set_option maxRecDepth 20000 in
set_option maxHeartbeats 1000000 in
theorem rText_any {w : World} {B : Nat} {L : List Rw} {E : List Le} {u v : Value} {x : Sh} (h : RsAt w B x.st L E u v) (hp : L.Perm x.l) (hok : OkS x) (hec : ∀ i, ofE E i = x.c i) (hE : E.length ≤ 1000000) : Calls Tryd.prog 12 #[.pointer (some ⟨B, 0, none⟩)] w fun e W' => e = .returned (.string (bs (textS x))) ∧ Below w.heap.size w W' := by
  obtain ⟨tb, hblk⟩ := h.blk
  have hlt := h.lt
  have y0 := cellB hblk 0 (.int .i64 x.st) rfl
  have hs0 := hok.s0
  have hs3 := hok.s3
  have hN := rNum_any x.st w (by omega) (by omega)
  have hcl := contS_len hok
  have HC : Hid (∀ W, Below w.heap.size w W → Calls Tryd.prog 35 #[.pointer (some ⟨B, 0, none⟩)] W fun e W' => e = .returned (.string (bs (contS x))) ∧ Below w.heap.size w W') := fun W hb => by
    refine (rContent_any (h.on hb) hp hok.l hec hok.c hE).mono ?_
    rintro e W' ⟨rfl, hb2⟩
    exact ⟨rfl, hb.trans (hb2.mono hb.size)⟩
  have hil : (Lib.itoa x.st).length ≤ 20 := by
    have := itoa_len x.st.toNat (by omega)
    rwa [Int.toNat_of_nonneg hs0] at this
  have HP : Hid (∀ W, Below w.heap.size w W → Calls Tryd.prog 33 #[.slice (some ⟨W.heap.size, 0, none⟩) 2 2] (W.alloc (.cells #[.string (bs (Lib.itoa x.st)), .string (bs (contS x))] 9)) fun e W' => e = .returned (.string (bs (textS x))) ∧ Below w.heap.size w W') := fun W hb => by
    have hb1 : Below w.heap.size w (W.alloc (.cells #[.string (bs (Lib.itoa x.st)), .string (bs (contS x))] 9)) := hb.alloc hb.size _
    refine (rPack_any [Lib.itoa x.st, contS x] _ _ (by simp [tot]; omega) (by simp) (Sl.of_owns (l := [Lib.itoa x.st, contS x]) (owns_new W #[.string (bs (Lib.itoa x.st)), .string (bs (contS x))] 9 1 2 rfl (by decide)))).mono ?_
    rintro e W' ⟨rfl, h2⟩
    exact ⟨rfl, hb1.trans (h2.mono hb1.size)⟩
  obtain ⟨Z, hZ⟩ : ∃ Z, textS x = Z := ⟨_, rfl⟩
  obtain ⟨I, hI⟩ : ∃ I, Lib.itoa x.st = I := ⟨_, rfl⟩
  obtain ⟨C, hCC⟩ : ∃ C, contS x = C := ⟨_, rfl⟩
  rw [hZ, hI, hCC] at HP
  rw [hI] at hN
  rw [hCC] at HC
  rw [hZ]
  clear h hp hok hec hblk hil hcl hZ hI hCC
  go_enter Tryd.func12, Tryd.ntmps12
  go_wp2_with (first
    | (go_at_call 34; refine hN.mono ?_; clear hN; rintro e w1 ⟨rfl, hb⟩; have hc := HC.out _ hb; clear HC)
    | (go_at_call 35; refine hc.mono ?_; clear hc; rintro e w2 ⟨rfl, hb2⟩; have hp := HP.out _ hb2; clear HP)
    | (go_at_call 33; refine hp.mono ?_; clear hp; rintro e w3 ⟨rfl, hb3⟩))
  go_ret
  exact ⟨rfl, hb3⟩
/-- What the document's Load gives. -/
def rLdPost (w : World) (x : Option Sh) (e : Ending) (W' : World) : Prop :=
  match x with
  | none => e = .returned (.tuple #[.agg #[.int .i64 0, .slice none 0 0, .slice none 0 0], .int .i64 4]) ∧ Below w.heap.size w W'
  | some x => ∃ (a : Option Addr) (ca : Nat) (a' : Option Addr) (ca' : Nat) (E : List Le), e = .returned (.tuple #[.agg #[.int .i64 x.st, .slice a x.l.length ca, .slice a' E.length ca'], .int .i64 0]) ∧ W'.ownsRow w.heap.size 120 2 (.slice a x.l.length ca) x.l.length (rcs x.l) ∧ W'.ownsRow w.heap.size 89 4 (.slice a' E.length ca') E.length (lcs E) ∧ (∀ i, ofE E i = x.c i) ∧ E.length ≤ 8 ∧ Below w.heap.size w W'
set_option maxRecDepth 20000 in
set_option maxHeartbeats 1000000 in
theorem rsLoad_bad1 (s : List UInt8) (w : World) (hs : s.length ≤ 1000000) (hbad : ¬ (good s ∧ (texts s).length = 2)) :
    Calls Tryd.prog 10 #[.string (bs s)] w fun e W' => e = .returned (.tuple #[.agg #[.int .i64 0, .slice none 0 0, .slice none 0 0], .int .i64 4]) ∧ Below w.heap.size w W' := by
  have hU := rUnpack_any s (WF w) (by omega)
  have HR : Hid (∀ W, Below (WF w).heap.size (WF w) W → W.heap[w.heap.size]? = some (.cells #[.int .i64 0, .slice none 0 0, .slice none 0 0] 32) ∧ w.heap.size < W.heap.size ∧ Below w.heap.size w W) := fun W hb => ⟨(fill_res hb).1, (fill_res hb).2.2, (fill_res hb).2.1⟩
  have hcase : errOf s = 4 ∨ (errOf s = 0 ∧ (((texts s).length : Int) != 2) = true) := by
    by_cases hg : good s
    · refine .inr ⟨if_pos hg, ?_⟩
      have : ¬ (texts s).length = 2 := fun h => hbad ⟨hg, h⟩
      rw [bne_iff_ne]
      omega
    · exact .inl (if_neg hg)
  clear hbad
  obtain ⟨L, hL⟩ : ∃ L, texts s = L := ⟨_, rfl⟩
  rw [hL] at hU hcase
  obtain ⟨E, hE⟩ : ∃ E, errOf s = E := ⟨_, rfl⟩
  rw [hE] at hU hcase
  clear hE hL hs
  rcases hcase with rfl | ⟨rfl, hm⟩
  all_goals
    go_enter Tryd.func10, Tryd.ntmps10
    go_wp2_with (first
      | (go_at_call 29; refine hU.mono ?_; clear hU; rintro e w1 ⟨v, rfl, hown, hb1⟩; obtain ⟨va, vc, rfl⟩ := owns_slice hown; obtain ⟨hq, hqs, hBw⟩ := HR.out _ hb1; have q0 := cellB hq 0 _ rfl; have q1 := cellB hq 1 _ rfl; have q2 := cellB hq 2 _ rfl; have z0 := frozenB hq 0; have z1 := frozenB hq 1; have z2 := frozenB hq 2; have HT3 : Hid (_) := three_read hq rfl (.int .i64 0) (.slice none 0 0) (.slice none 0 0); have HB : Hid (Below w.heap.size w (w1.setCells w.heap.size 0 [.int .i64 0, .slice none 0 0, .slice none 0 0])) := below_sets hBw (Nat.le_refl _) _ _; clear hq hBw))
    obtain ⟨r0, r1, r2⟩ := HT3.out
    simp only [World.setCells] at r0 r1 r2
    exact bodyPost_ret (v := .tuple #[.agg #[.int .i64 0, .slice none 0 0, .slice none 0 0], .int .i64 4]) (by simp [results, Tryd.f10, go_sem, r0, r1, r2]) rfl ⟨rfl, HB.out⟩
set_option maxRecDepth 20000 in
set_option maxHeartbeats 2000000 in
theorem rsLoad_bad2 (s : List UInt8) (w : World) (hs : s.length ≤ 1000000) (hg : good s) {x y : List UInt8} (hL : texts s = [x, y]) (hf : (decide (tnE x = 0) && inR (tnV x) 0 3) = false) :
    Calls Tryd.prog 10 #[.string (bs s)] w fun e W' => e = .returned (.tuple #[.agg #[.int .i64 0, .slice none 0 0, .slice none 0 0], .int .i64 4]) ∧ Below w.heap.size w W' := by
  have hU := rUnpack_any s (WF w) (by omega)
  rw [show errOf s = 0 from if_pos hg, hL] at hU
  have hU : Calls Tryd.prog 29 #[.string (bs s)] (WF w) fun e W' => ∃ v, e = .returned (.tuple #[v, .int .i64 0]) ∧ W'.ownsRow (WF w).heap.size 9 1 v [x, y].length (strs [x, y]) ∧ Below (WF w).heap.size (WF w) W' := hU
  have hxs : x.length ≤ s.length := text_small (by rw [hL]; simp)
  have hys : y.length ≤ 1000000 := Nat.le_trans (text_small (s := s) (by rw [hL]; simp)) hs
  have HR : Hid (∀ W, Below (WF w).heap.size (WF w) W → W.heap[w.heap.size]? = some (.cells #[.int .i64 0, .slice none 0 0, .slice none 0 0] 32) ∧ w.heap.size < W.heap.size ∧ Below w.heap.size w W) := fun W hb => ⟨(fill_res hb).1, (fill_res hb).2.2, (fill_res hb).2.1⟩
  have HT : Hid (∀ W, Calls Tryd.prog 30 #[.string (bs x)] W fun e W' => e = .returned (.tuple #[.int .i64 (tnV x), .int .i64 (tnE x)]) ∧ Below W.heap.size W W') := fun W => rToNum_any (bs x) W (by rw [bs_size]; omega)
  have h0 : [x, y][0]? = some x := rfl
  have h1 : [x, y][1]? = some y := rfl
  have hcase : (tnE x != 0) = true ∨ (tnE x = 0 ∧ tnV x < 0) ∨ (tnE x = 0 ∧ 0 ≤ tnV x ∧ 3 < tnV x) := by
    by_cases e : tnE x = 0
    · rw [e] at hf
      have := inR_f (by simpa using hf : inR (tnV x) 0 3 = false)
      rcases this with h | h
      · exact .inr (.inl ⟨e, h⟩)
      · exact .inr (.inr ⟨e, h.1, h.2⟩)
    · exact .inl (by simpa using e)
  obtain ⟨E, hE⟩ : ∃ E, tnE x = E := ⟨_, rfl⟩
  obtain ⟨V, hV⟩ : ∃ V, tnV x = V := ⟨_, rfl⟩
  rw [hE, hV] at HT hcase
  clear hE hV hs hg hL hf hxs hys
  rcases hcase with h2 | ⟨rfl, h2⟩ | ⟨rfl, h2, h3⟩
  all_goals
    go_enter Tryd.func10, Tryd.ntmps10
    go_wp2_with (first
      | (go_at_call 29; refine hU.mono ?_; clear hU; rintro e w1 ⟨v, rfl, hown, hb1⟩; obtain ⟨va, vc, rfl⟩ := owns_slice hown; obtain ⟨b, o, rfl, hb0, hcc⟩ := (Sl.of_owns hown).at2 h0; have c0 := hcc 0 _ h0; rw [Nat.add_zero] at c0; have d1 := hcc 1 _ h1; have HD : Hid (b < w1.heap.size ∧ w1.cell? ⟨b, o + 1, none⟩ = some (.string (bs y))) := ⟨hb0, d1⟩; have ht := HT.out w1; clear hown hcc HT d1)
      | (go_at_call 30; refine ht.mono ?_; clear ht; rintro e w2 ⟨rfl, hb2⟩; have hb12 := hb1.trans (hb2.mono hb1.size); have c1 := (hb2.cell (p := ⟨b, o + 1, none⟩) HD.out.1).trans HD.out.2; have hg2 := Nat.lt_of_lt_of_le HD.out.1 hb2.size; clear HD; obtain ⟨hq, hqs, hBw⟩ := HR.out _ hb12; have q0 := cellB hq 0 _ rfl; have q1 := cellB hq 1 _ rfl; have q2 := cellB hq 2 _ rfl; have z0 := frozenB hq 0; have z1 := frozenB hq 1; have z2 := frozenB hq 2; have HT3 : Hid (_) := three_read hq rfl (.int .i64 0) (.slice none 0 0) (.slice none 0 0); have HB : Hid (Below w.heap.size w (w2.setCells w.heap.size 0 [.int .i64 0, .slice none 0 0, .slice none 0 0])) := below_sets hBw (Nat.le_refl _) _ _; clear hq hBw))
    obtain ⟨r0, r1, r2⟩ := HT3.out
    simp only [World.setCells] at r0 r1 r2
    exact bodyPost_ret (v := .tuple #[.agg #[.int .i64 0, .slice none 0 0, .slice none 0 0], .int .i64 4]) (by simp [results, Tryd.f10, go_sem, r0, r1, r2]) rfl ⟨rfl, HB.out⟩
set_option maxRecDepth 20000 in
set_option maxHeartbeats 2000000 in
theorem rsLoad_no (s : List UInt8) (w : World) (hs : s.length ≤ 1000000) (hg : good s) {x y : List UInt8} (hL : texts s = [x, y]) (hf : (decide (tnE x = 0) && inR (tnV x) 0 3) = true) (hh : hasC (tnV x) = false) :
    Calls Tryd.prog 10 #[.string (bs s)] w fun e W' => rLdPost w (if y = [] then some ⟨tnV x, [], fun _ => la0⟩ else none) e W' := by
  have hU := rUnpack_any s (WF w) (by omega)
  rw [show errOf s = 0 from if_pos hg, hL] at hU
  have hU : Calls Tryd.prog 29 #[.string (bs s)] (WF w) fun e W' => ∃ v, e = .returned (.tuple #[v, .int .i64 0]) ∧ W'.ownsRow (WF w).heap.size 9 1 v [x, y].length (strs [x, y]) ∧ Below (WF w).heap.size (WF w) W' := hU
  have hxs : x.length ≤ s.length := text_small (by rw [hL]; simp)
  have hys : y.length ≤ 1000000 := Nat.le_trans (text_small (s := s) (by rw [hL]; simp)) hs
  have HR : Hid (∀ W, Below (WF w).heap.size (WF w) W → W.heap[w.heap.size]? = some (.cells #[.int .i64 0, .slice none 0 0, .slice none 0 0] 32) ∧ w.heap.size < W.heap.size ∧ Below w.heap.size w W) := fun W hb => ⟨(fill_res hb).1, (fill_res hb).2.2, (fill_res hb).2.1⟩
  have HT : Hid (∀ W, Calls Tryd.prog 30 #[.string (bs x)] W fun e W' => e = .returned (.tuple #[.int .i64 (tnV x), .int .i64 (tnE x)]) ∧ Below W.heap.size W W') := fun W => rToNum_any (bs x) W (by rw [bs_size]; omega)
  have h0 : [x, y][0]? = some x := rfl
  have h1 : [x, y][1]? = some y := rfl
  simp only [Bool.and_eq_true] at hf
  have hE := of_decide_eq_true hf.1
  have hR := inR_t hf.2
  rw [hE] at HT
  obtain ⟨V, hV⟩ : ∃ V, tnV x = V := ⟨_, rfl⟩
  rw [hV] at HT hh hR
  rw [hV]
  have hcase : V = 0 ∨ V = 3 := by
    simp [hasC] at hh
    omega
  clear hE hV hs hg hL hf hxs hys hR hh
  by_cases hy : y = []
  · have hem := emp_t hy
    rw [if_pos hy]
    clear hy
    rcases hcase with rfl | rfl
    · go_enter Tryd.func10, Tryd.ntmps10
      go_wp2_with (first
      | (go_at_call 29; refine hU.mono ?_; clear hU; rintro e w1 ⟨v, rfl, hown, hb1⟩; obtain ⟨va, vc, rfl⟩ := owns_slice hown; obtain ⟨b, o, rfl, hb0, hcc⟩ := (Sl.of_owns hown).at2 h0; have c0 := hcc 0 _ h0; rw [Nat.add_zero] at c0; have d1 := hcc 1 _ h1; have HD : Hid (b < w1.heap.size ∧ w1.cell? ⟨b, o + 1, none⟩ = some (.string (bs y))) := ⟨hb0, d1⟩; have ht := HT.out w1; clear hown hcc HT d1)
      | (go_at_call 30; refine ht.mono ?_; clear ht; rintro e w2 ⟨rfl, hb2⟩; have hb12 := hb1.trans (hb2.mono hb1.size); have c1 := (hb2.cell (p := ⟨b, o + 1, none⟩) HD.out.1).trans HD.out.2; have hg2 := Nat.lt_of_lt_of_le HD.out.1 hb2.size; clear HD; obtain ⟨hq, hqs, hBw⟩ := HR.out _ hb12; have q0 := cellB hq 0 _ rfl; have q1 := cellB hq 1 _ rfl; have q2 := cellB hq 2 _ rfl; have z0 := frozenB hq 0; have z1 := frozenB hq 1; have z2 := frozenB hq 2; have HT3 : Hid (_) := three_read hq rfl (.int .i64 0) (.slice none 0 0) (.slice none 0 0); have HB : Hid (Below w.heap.size w (w2.setCells w.heap.size 0 [.int .i64 0, .slice none 0 0, .slice none 0 0])) := below_sets hBw (Nat.le_refl _) _ _; clear hq hBw))
      obtain ⟨r0, r1, r2⟩ := HT3.out
      simp only [World.setCells] at r0 r1 r2
      exact bodyPost_ret (v := .tuple #[.agg #[.int .i64 0, .slice none 0 0, .slice none 0 0], .int .i64 0]) (by simp [results, Tryd.f10, go_sem, r0, r1, r2]) rfl ⟨none, 0, none, 0, [], rfl, World.ownsRow_nil _ _ _ _, World.ownsRow_nil _ _ _ _, fun _ => rfl, by decide, HB.out⟩
    · go_enter Tryd.func10, Tryd.ntmps10
      go_wp2_with (first
      | (go_at_call 29; refine hU.mono ?_; clear hU; rintro e w1 ⟨v, rfl, hown, hb1⟩; obtain ⟨va, vc, rfl⟩ := owns_slice hown; obtain ⟨b, o, rfl, hb0, hcc⟩ := (Sl.of_owns hown).at2 h0; have c0 := hcc 0 _ h0; rw [Nat.add_zero] at c0; have d1 := hcc 1 _ h1; have HD : Hid (b < w1.heap.size ∧ w1.cell? ⟨b, o + 1, none⟩ = some (.string (bs y))) := ⟨hb0, d1⟩; have ht := HT.out w1; clear hown hcc HT d1)
      | (go_at_call 30; refine ht.mono ?_; clear ht; rintro e w2 ⟨rfl, hb2⟩; have hb12 := hb1.trans (hb2.mono hb1.size); have c1 := (hb2.cell (p := ⟨b, o + 1, none⟩) HD.out.1).trans HD.out.2; have hg2 := Nat.lt_of_lt_of_le HD.out.1 hb2.size; clear HD; obtain ⟨hq, hqs, hBw⟩ := HR.out _ hb12; have q0 := cellB hq 0 _ rfl; have q1 := cellB hq 1 _ rfl; have q2 := cellB hq 2 _ rfl; have z0 := frozenB hq 0; have z1 := frozenB hq 1; have z2 := frozenB hq 2; have HT3 : Hid (_) := three_read hq rfl (.int .i64 3) (.slice none 0 0) (.slice none 0 0); have HB : Hid (Below w.heap.size w (w2.setCells w.heap.size 0 [.int .i64 3, .slice none 0 0, .slice none 0 0])) := below_sets hBw (Nat.le_refl _) _ _; clear hq hBw))
      obtain ⟨r0, r1, r2⟩ := HT3.out
      simp only [World.setCells] at r0 r1 r2
      exact bodyPost_ret (v := .tuple #[.agg #[.int .i64 3, .slice none 0 0, .slice none 0 0], .int .i64 0]) (by simp [results, Tryd.f10, go_sem, r0, r1, r2]) rfl ⟨none, 0, none, 0, [], rfl, World.ownsRow_nil _ _ _ _, World.ownsRow_nil _ _ _ _, fun _ => rfl, by decide, HB.out⟩
  · have hem := emp_f hy
    rw [if_neg hy]
    rcases hcase with rfl | rfl
    all_goals
      go_enter Tryd.func10, Tryd.ntmps10
      go_wp2_with (first
      | (go_at_call 29; refine hU.mono ?_; clear hU; rintro e w1 ⟨v, rfl, hown, hb1⟩; obtain ⟨va, vc, rfl⟩ := owns_slice hown; obtain ⟨b, o, rfl, hb0, hcc⟩ := (Sl.of_owns hown).at2 h0; have c0 := hcc 0 _ h0; rw [Nat.add_zero] at c0; have d1 := hcc 1 _ h1; have HD : Hid (b < w1.heap.size ∧ w1.cell? ⟨b, o + 1, none⟩ = some (.string (bs y))) := ⟨hb0, d1⟩; have ht := HT.out w1; clear hown hcc HT d1)
      | (go_at_call 30; refine ht.mono ?_; clear ht; rintro e w2 ⟨rfl, hb2⟩; have hb12 := hb1.trans (hb2.mono hb1.size); have c1 := (hb2.cell (p := ⟨b, o + 1, none⟩) HD.out.1).trans HD.out.2; have hg2 := Nat.lt_of_lt_of_le HD.out.1 hb2.size; clear HD; obtain ⟨hq, hqs, hBw⟩ := HR.out _ hb12; have q0 := cellB hq 0 _ rfl; have q1 := cellB hq 1 _ rfl; have q2 := cellB hq 2 _ rfl; have z0 := frozenB hq 0; have z1 := frozenB hq 1; have z2 := frozenB hq 2; have HT3 : Hid (_) := three_read hq rfl (.int .i64 0) (.slice none 0 0) (.slice none 0 0); have HB : Hid (Below w.heap.size w (w2.setCells w.heap.size 0 [.int .i64 0, .slice none 0 0, .slice none 0 0])) := below_sets hBw (Nat.le_refl _) _ _; clear hq hBw))
      obtain ⟨r0, r1, r2⟩ := HT3.out
      simp only [World.setCells] at r0 r1 r2
      exact bodyPost_ret (v := .tuple #[.agg #[.int .i64 0, .slice none 0 0, .slice none 0 0], .int .i64 4]) (by simp [results, Tryd.f10, go_sem, r0, r1, r2]) rfl ⟨rfl, HB.out⟩
end
section
open Go.RowKit
attribute [local go_sem ↓] Go.wp_at_zero Go.wp_at_succ

theorem own_set1 {w : World} {base B n : Nat} {e : TypeId} {s : Nat} {v : Value} {xs : List Value} (h : w.ownsRow base e s v n xs) (hB : ∀ k, v.ownBlock = some k → k ≠ B) (o : Nat) (u : Value) : (w.setCell ⟨B, o, none⟩ u).ownsRow base e s v n xs := own_sets h hB o [u]
set_option maxRecDepth 20000 in
set_option maxHeartbeats 2000000 in
theorem rsLoad_yes (s : List UInt8) (w : World) (hs : s.length ≤ 1000000) (hg : good s) {x y : List UInt8} (hL : texts s = [x, y]) (hf : (decide (tnE x = 0) && inR (tnV x) 0 3) = true) (hh : hasC (tnV x) = true) :
    Calls Tryd.prog 10 #[.string (bs s)] w fun e W' => rLdPost w ((loadC y).map fun z => ⟨tnV x, z.1, z.2⟩) e W' := by
  have hU := rUnpack_any s (WF w) (by omega)
  rw [show errOf s = 0 from if_pos hg, hL] at hU
  have hU : Calls Tryd.prog 29 #[.string (bs s)] (WF w) fun e W' => ∃ v, e = .returned (.tuple #[v, .int .i64 0]) ∧ W'.ownsRow (WF w).heap.size 9 1 v [x, y].length (strs [x, y]) ∧ Below (WF w).heap.size (WF w) W' := hU
  have hxs : x.length ≤ s.length := text_small (by rw [hL]; simp)
  have hys : y.length ≤ 1000000 := Nat.le_trans (text_small (s := s) (by rw [hL]; simp)) hs
  have HR : Hid (∀ W, Below (WF w).heap.size (WF w) W → W.heap[w.heap.size]? = some (.cells #[.int .i64 0, .slice none 0 0, .slice none 0 0] 32) ∧ w.heap.size < W.heap.size ∧ Below w.heap.size w W) := fun W hb => ⟨(fill_res hb).1, (fill_res hb).2.2, (fill_res hb).2.1⟩
  have HT : Hid (∀ W, Calls Tryd.prog 30 #[.string (bs x)] W fun e W' => e = .returned (.tuple #[.int .i64 (tnV x), .int .i64 (tnE x)]) ∧ Below W.heap.size W W') := fun W => rToNum_any (bs x) W (by rw [bs_size]; omega)
  have h0 : [x, y][0]? = some x := rfl
  have h1 : [x, y][1]? = some y := rfl
  simp only [Bool.and_eq_true] at hf
  have hE := of_decide_eq_true hf.1
  rw [hE] at HT
  have HFi : Hid (∀ W, Calls Tryd.prog 23 #[.string (bs y)] W fun e W' => rFillPost W (loadC y) e W') := fun W => rFill_any y W hys
  obtain ⟨V, hV⟩ : ∃ V, tnV x = V := ⟨_, rfl⟩
  rw [hV] at HT hh
  rw [hV]
  have hcase : V = 1 ∨ V = 2 := by
    simp [hasC] at hh
    omega
  clear hE hV hs hg hL hf hxs hys hh
  cases hl : loadC y with
  | none =>
    rw [hl] at HFi
    have HF3 : Hid (∀ W, Calls Tryd.prog 23 #[.string (bs y)] W fun e W' => e = .returned (.tuple #[.agg #[.int .i64 0, .slice none 0 0, .slice none 0 0], .bool false]) ∧ Below W.heap.size W W') := HFi
    clear HFi hl
    rcases hcase with rfl | rfl
    all_goals
      go_enter Tryd.func10, Tryd.ntmps10
      go_wp2_with (first
      | (go_at_call 29; refine hU.mono ?_; clear hU; rintro e w1 ⟨v, rfl, hown, hb1⟩; obtain ⟨va, vc, rfl⟩ := owns_slice hown; obtain ⟨b, o, rfl, hb0, hcc⟩ := (Sl.of_owns hown).at2 h0; have c0 := hcc 0 _ h0; rw [Nat.add_zero] at c0; have d1 := hcc 1 _ h1; have HD : Hid (b < w1.heap.size ∧ w1.cell? ⟨b, o + 1, none⟩ = some (.string (bs y))) := ⟨hb0, d1⟩; have ht := HT.out w1; clear hown hcc HT d1)
      | (go_at_call 30; refine ht.mono ?_; clear ht; rintro e w2 ⟨rfl, hb2⟩; have hb12 := hb1.trans (hb2.mono hb1.size); have c1 := (hb2.cell (p := ⟨b, o + 1, none⟩) HD.out.1).trans HD.out.2; have hg2 := Nat.lt_of_lt_of_le HD.out.1 hb2.size; clear HD; obtain ⟨hq, hqs, hBw⟩ := HR.out _ hb12; have q0 := cellB hq 0 _ rfl; have q1 := cellB hq 1 _ rfl; have q2 := cellB hq 2 _ rfl; have z0 := frozenB hq 0; have z1 := frozenB hq 1; have z2 := frozenB hq 2; have HT3 : Hid (_) := three_read hq rfl (.int .i64 0) (.slice none 0 0) (.slice none 0 0); have HB : Hid (Below w.heap.size w (w2.setCells w.heap.size 0 [.int .i64 0, .slice none 0 0, .slice none 0 0])) := below_sets hBw (Nat.le_refl _) _ _; clear hq hBw)
      | (go_at_call 23; refine (HF3.out _).mono ?_; clear HF3; rintro e w4 ⟨rfl, hb4⟩; have hb14 := hb12.trans (hb4.mono hb12.size); clear HT3 HB q0 q1 q2 z0 z1 z2 hqs; obtain ⟨hq, hqs, hBw⟩ := HR.out _ hb14; have q0 := cellB hq 0 _ rfl; have q1 := cellB hq 1 _ rfl; have q2 := cellB hq 2 _ rfl; have z0 := frozenB hq 0; have z1 := frozenB hq 1; have z2 := frozenB hq 2; have HT3 : Hid (_) := three_read hq rfl (.int .i64 0) (.slice none 0 0) (.slice none 0 0); have HB : Hid (Below w.heap.size w (w4.setCells w.heap.size 0 [.int .i64 0, .slice none 0 0, .slice none 0 0])) := below_sets hBw (Nat.le_refl _) _ _; clear hq hBw))
      obtain ⟨r0, r1, r2⟩ := HT3.out
      simp only [World.setCells] at r0 r1 r2
      exact bodyPost_ret (v := .tuple #[.agg #[.int .i64 0, .slice none 0 0, .slice none 0 0], .int .i64 4]) (by simp [results, Tryd.f10, go_sem, r0, r1, r2, hqs]) rfl ⟨rfl, HB.out.alloc HB.out.size _⟩
  | some lc =>
    obtain ⟨l, c⟩ := lc
    rw [hl] at HFi
    have HF3 : Hid (∀ W, Calls Tryd.prog 23 #[.string (bs y)] W fun e W' => ∃ (a : Option Addr) (ca : Nat) (a' : Option Addr) (ca' : Nat) (E : List Le), e = .returned (.tuple #[.agg #[.int .i64 0, .slice a l.length ca, .slice a' E.length ca'], .bool true]) ∧ W'.ownsRow W.heap.size 120 2 (.slice a l.length ca) l.length (rcs l) ∧ W'.ownsRow W.heap.size 89 4 (.slice a' E.length ca') E.length (lcs E) ∧ (∀ i, ofE E i = c i) ∧ E.length ≤ 8 ∧ Below W.heap.size W W') := HFi
    clear HFi hl
    rcases hcase with rfl | rfl
    · go_enter Tryd.func10, Tryd.ntmps10
      go_upto_region 12 with (first
      | (go_at_call 29; refine hU.mono ?_; clear hU; rintro e w1 ⟨v, rfl, hown, hb1⟩; obtain ⟨va, vc, rfl⟩ := owns_slice hown; obtain ⟨b, o, rfl, hb0, hcc⟩ := (Sl.of_owns hown).at2 h0; have c0 := hcc 0 _ h0; rw [Nat.add_zero] at c0; have d1 := hcc 1 _ h1; have HD : Hid (b < w1.heap.size ∧ w1.cell? ⟨b, o + 1, none⟩ = some (.string (bs y))) := ⟨hb0, d1⟩; have ht := HT.out w1; clear hown hcc HT d1)
      | (go_at_call 30; refine ht.mono ?_; clear ht; rintro e w2 ⟨rfl, hb2⟩; have hb12 := hb1.trans (hb2.mono hb1.size); have c1 := (hb2.cell (p := ⟨b, o + 1, none⟩) HD.out.1).trans HD.out.2; have hg2 := Nat.lt_of_lt_of_le HD.out.1 hb2.size; clear HD; obtain ⟨hq, hqs, hBw⟩ := HR.out _ hb12; have q0 := cellB hq 0 _ rfl; have q1 := cellB hq 1 _ rfl; have q2 := cellB hq 2 _ rfl; have z0 := frozenB hq 0; have z1 := frozenB hq 1; have z2 := frozenB hq 2; have HT3 : Hid (_) := three_read hq rfl (.int .i64 0) (.slice none 0 0) (.slice none 0 0); have HB : Hid (Below w.heap.size w (w2.setCells w.heap.size 0 [.int .i64 0, .slice none 0 0, .slice none 0 0])) := below_sets hBw (Nat.le_refl _) _ _; clear hq hBw)
      | (go_at_call 23; refine (HF3.out _).mono ?_; clear HF3; rintro e w4 ⟨fa, fc, ga, gc, E, rfl, hou, hol, hec, hel, hb4⟩))
      have hb14 := hb12.trans (hb4.mono hb12.size)
      obtain ⟨hq4, hqs4, hBw4⟩ := HR.out _ hb14
      have hbX := (Below.refl w4.heap.size w4).alloc (Nat.le_refl _) (.cells #[.int .i64 0, .slice fa l.length fc, .slice ga E.length gc] 32)
      have rX := heap_alloc_new w4 (.cells #[.int .i64 0, .slice fa l.length fc, .slice ga E.length gc] 32)
      have hqX := (hbX.block w.heap.size hqs4).trans hq4
      have hu5 := own_kept hou hbX
      have hl5 := own_kept hol hbX
      have hB5 := hBw4.trans (hbX.mono hBw4.size)
      have hlu : ∀ k, (Value.slice fa l.length fc).ownBlock = some k → k ≠ w4.heap.size ∧ k ≠ w.heap.size := fun k e => by have := hou.lt k e; have := hb12.size; simp at this; omega
      have hll : ∀ k, (Value.slice ga E.length gc).ownBlock = some k → k ≠ w4.heap.size ∧ k ≠ w.heap.size := fun k e => by have := hol.lt k e; have := hb12.size; simp at this; omega
      obtain ⟨W5, hW5⟩ : ∃ W, w4.alloc (.cells #[.int .i64 0, .slice fa l.length fc, .slice ga E.length gc] 32) = W := ⟨_, rfl⟩
      obtain ⟨X, hX⟩ : ∃ X, w4.heap.size = X := ⟨_, rfl⟩
      rw [hW5] at rX hqX hu5 hl5 hB5
      rw [hW5, hX]
      rw [hX] at rX hqs4 hlu hll
      have hXR : ¬ X = w.heap.size := by omega
      have hRX : ¬ w.heap.size = X := by omega
      have x0 := cellB rX 0 (.int .i64 0) rfl
      have x1 := cellB rX 1 (.slice fa l.length fc) rfl
      have x2 := cellB rX 2 (.slice ga E.length gc) rfl
      have xf := frozenB rX 0
      have p0 := cellB hqX 0 (.int .i64 0) rfl
      have p1 := cellB hqX 1 (.slice none 0 0) rfl
      have p2 := cellB hqX 2 (.slice none 0 0) rfl
      have k0 := frozenB hqX 0
      have k1 := frozenB hqX 1
      have k2 := frozenB hqX 2
      have hq6 := (set_far (w := W5) (B := X) (k := w.heap.size) hRX 0 (.int .i64 1)).trans hqX
      have HT6 : Hid (_) := three_read hq6 rfl (.int .i64 1) (.slice fa l.length fc) (.slice ga E.length gc)
      have HB6 : Hid (Below w.heap.size w ((W5.setCell ⟨X, 0, none⟩ (.int .i64 1)).setCells w.heap.size 0 [.int .i64 1, .slice fa l.length fc, .slice ga E.length gc])) := below_sets (hB5.setCell (p := ⟨X, 0, none⟩) (by show w.heap.size ≤ X; omega) _) (Nat.le_refl _) _ _
      have HO6 : Hid (((W5.setCell ⟨X, 0, none⟩ (.int .i64 1)).setCells w.heap.size 0 [.int .i64 1, .slice fa l.length fc, .slice ga E.length gc]).ownsRow w.heap.size 120 2 (.slice fa l.length fc) l.length (rcs l) ∧ ((W5.setCell ⟨X, 0, none⟩ (.int .i64 1)).setCells w.heap.size 0 [.int .i64 1, .slice fa l.length fc, .slice ga E.length gc]).ownsRow w.heap.size 89 4 (.slice ga E.length gc) E.length (lcs E)) :=
        ⟨own_sets (own_set1 (own_less hu5 (by have := hb12.size; simp at this; omega)) (fun k e => (hlu k e).1) _ _) (fun k e => (hlu k e).2) _ _, own_sets (own_set1 (own_less hl5 (by have := hb12.size; simp at this; omega)) (fun k e => (hll k e).1) _ _) (fun k e => (hll k e).2) _ _⟩
      have HEc : Hid (_) := hec
      clear hW5 hX rX hqX hq6 hu5 hl5 hB5 hlu hll hq4 hBw4 hbX hou hol hec HT3 HB q0 q1 q2 z0 z1 z2 hqs HR
      go_wp2
      obtain ⟨r0, r1, r2⟩ := HT6.out
      simp only [World.setCells] at r0 r1 r2
      exact bodyPost_ret (v := .tuple #[.agg #[.int .i64 1, .slice fa l.length fc, .slice ga E.length gc], .int .i64 0]) (by simp [results, Tryd.f10, go_sem, r0, r1, r2]) rfl ⟨fa, fc, ga, gc, E, rfl, HO6.out.1, HO6.out.2, HEc.out, hel, HB6.out⟩
    · go_enter Tryd.func10, Tryd.ntmps10
      go_upto_region 12 with (first
      | (go_at_call 29; refine hU.mono ?_; clear hU; rintro e w1 ⟨v, rfl, hown, hb1⟩; obtain ⟨va, vc, rfl⟩ := owns_slice hown; obtain ⟨b, o, rfl, hb0, hcc⟩ := (Sl.of_owns hown).at2 h0; have c0 := hcc 0 _ h0; rw [Nat.add_zero] at c0; have d1 := hcc 1 _ h1; have HD : Hid (b < w1.heap.size ∧ w1.cell? ⟨b, o + 1, none⟩ = some (.string (bs y))) := ⟨hb0, d1⟩; have ht := HT.out w1; clear hown hcc HT d1)
      | (go_at_call 30; refine ht.mono ?_; clear ht; rintro e w2 ⟨rfl, hb2⟩; have hb12 := hb1.trans (hb2.mono hb1.size); have c1 := (hb2.cell (p := ⟨b, o + 1, none⟩) HD.out.1).trans HD.out.2; have hg2 := Nat.lt_of_lt_of_le HD.out.1 hb2.size; clear HD; obtain ⟨hq, hqs, hBw⟩ := HR.out _ hb12; have q0 := cellB hq 0 _ rfl; have q1 := cellB hq 1 _ rfl; have q2 := cellB hq 2 _ rfl; have z0 := frozenB hq 0; have z1 := frozenB hq 1; have z2 := frozenB hq 2; have HT3 : Hid (_) := three_read hq rfl (.int .i64 0) (.slice none 0 0) (.slice none 0 0); have HB : Hid (Below w.heap.size w (w2.setCells w.heap.size 0 [.int .i64 0, .slice none 0 0, .slice none 0 0])) := below_sets hBw (Nat.le_refl _) _ _; clear hq hBw)
      | (go_at_call 23; refine (HF3.out _).mono ?_; clear HF3; rintro e w4 ⟨fa, fc, ga, gc, E, rfl, hou, hol, hec, hel, hb4⟩))
      have hb14 := hb12.trans (hb4.mono hb12.size)
      obtain ⟨hq4, hqs4, hBw4⟩ := HR.out _ hb14
      have hbX := (Below.refl w4.heap.size w4).alloc (Nat.le_refl _) (.cells #[.int .i64 0, .slice fa l.length fc, .slice ga E.length gc] 32)
      have rX := heap_alloc_new w4 (.cells #[.int .i64 0, .slice fa l.length fc, .slice ga E.length gc] 32)
      have hqX := (hbX.block w.heap.size hqs4).trans hq4
      have hu5 := own_kept hou hbX
      have hl5 := own_kept hol hbX
      have hB5 := hBw4.trans (hbX.mono hBw4.size)
      have hlu : ∀ k, (Value.slice fa l.length fc).ownBlock = some k → k ≠ w4.heap.size ∧ k ≠ w.heap.size := fun k e => by have := hou.lt k e; have := hb12.size; simp at this; omega
      have hll : ∀ k, (Value.slice ga E.length gc).ownBlock = some k → k ≠ w4.heap.size ∧ k ≠ w.heap.size := fun k e => by have := hol.lt k e; have := hb12.size; simp at this; omega
      obtain ⟨W5, hW5⟩ : ∃ W, w4.alloc (.cells #[.int .i64 0, .slice fa l.length fc, .slice ga E.length gc] 32) = W := ⟨_, rfl⟩
      obtain ⟨X, hX⟩ : ∃ X, w4.heap.size = X := ⟨_, rfl⟩
      rw [hW5] at rX hqX hu5 hl5 hB5
      rw [hW5, hX]
      rw [hX] at rX hqs4 hlu hll
      have hXR : ¬ X = w.heap.size := by omega
      have hRX : ¬ w.heap.size = X := by omega
      have x0 := cellB rX 0 (.int .i64 0) rfl
      have x1 := cellB rX 1 (.slice fa l.length fc) rfl
      have x2 := cellB rX 2 (.slice ga E.length gc) rfl
      have xf := frozenB rX 0
      have p0 := cellB hqX 0 (.int .i64 0) rfl
      have p1 := cellB hqX 1 (.slice none 0 0) rfl
      have p2 := cellB hqX 2 (.slice none 0 0) rfl
      have k0 := frozenB hqX 0
      have k1 := frozenB hqX 1
      have k2 := frozenB hqX 2
      have hq6 := (set_far (w := W5) (B := X) (k := w.heap.size) hRX 0 (.int .i64 2)).trans hqX
      have HT6 : Hid (_) := three_read hq6 rfl (.int .i64 2) (.slice fa l.length fc) (.slice ga E.length gc)
      have HB6 : Hid (Below w.heap.size w ((W5.setCell ⟨X, 0, none⟩ (.int .i64 2)).setCells w.heap.size 0 [.int .i64 2, .slice fa l.length fc, .slice ga E.length gc])) := below_sets (hB5.setCell (p := ⟨X, 0, none⟩) (by show w.heap.size ≤ X; omega) _) (Nat.le_refl _) _ _
      have HO6 : Hid (((W5.setCell ⟨X, 0, none⟩ (.int .i64 2)).setCells w.heap.size 0 [.int .i64 2, .slice fa l.length fc, .slice ga E.length gc]).ownsRow w.heap.size 120 2 (.slice fa l.length fc) l.length (rcs l) ∧ ((W5.setCell ⟨X, 0, none⟩ (.int .i64 2)).setCells w.heap.size 0 [.int .i64 2, .slice fa l.length fc, .slice ga E.length gc]).ownsRow w.heap.size 89 4 (.slice ga E.length gc) E.length (lcs E)) :=
        ⟨own_sets (own_set1 (own_less hu5 (by have := hb12.size; simp at this; omega)) (fun k e => (hlu k e).1) _ _) (fun k e => (hlu k e).2) _ _, own_sets (own_set1 (own_less hl5 (by have := hb12.size; simp at this; omega)) (fun k e => (hll k e).1) _ _) (fun k e => (hll k e).2) _ _⟩
      have HEc : Hid (_) := hec
      clear hW5 hX rX hqX hq6 hu5 hl5 hB5 hlu hll hq4 hBw4 hbX hou hol hec HT3 HB q0 q1 q2 z0 z1 z2 hqs HR
      go_wp2
      obtain ⟨r0, r1, r2⟩ := HT6.out
      simp only [World.setCells] at r0 r1 r2
      exact bodyPost_ret (v := .tuple #[.agg #[.int .i64 2, .slice fa l.length fc, .slice ga E.length gc], .int .i64 0]) (by simp [results, Tryd.f10, go_sem, r0, r1, r2]) rfl ⟨fa, fc, ga, gc, E, rfl, HO6.out.1, HO6.out.2, HEc.out, hel, HB6.out⟩
theorem rsLoad_any (s : List UInt8) (w : World) (hs : s.length ≤ 1000000) : Calls Tryd.prog 10 #[.string (bs s)] w fun e W' => rLdPost w (loadS s) e W' := by
  unfold loadS
  by_cases hg : good s ∧ (texts s).length = 2
  · rw [if_pos hg]
    obtain ⟨x, y, e⟩ := texts_pair hg.2
    rw [e]
    show Calls Tryd.prog 10 #[.string (bs s)] w fun e W' => rLdPost w (loadAB x y) e W'
    unfold loadAB
    cases hf : (decide (tnE x = 0) && inR (tnV x) 0 3)
    · rw [if_neg (by simp)]
      exact rsLoad_bad2 s w hs hg.1 e hf
    · rw [if_pos rfl]
      cases hh : hasC (tnV x)
      · rw [if_neg (by simp)]
        exact rsLoad_no s w hs hg.1 e hf hh
      · rw [if_pos rfl]
        exact rsLoad_yes s w hs hg.1 e hf hh
  · rw [if_neg hg]
    exact rsLoad_bad1 s w hs hg
set_option maxRecDepth 20000 in
set_option maxHeartbeats 2000000 in
theorem sloads_any (t : List UInt8) (w : World) (he : Env w) : Calls Tryd.prog 3 #[.string (bs t)] w fun e W' => e = .returned (.bool true) ∧ Below w.heap.size w W' := by
  have hts : (bs t).size = t.length := bs_size t
  have HSv : Hid (∀ W, Below w.heap.size w W → Calls Tryd.prog 8 #[] W fun e W' => e = .returned (.bool true) ∧ Below w.heap.size w W') := fun W hb => (serves_any W).mono fun e W' h => ⟨h.1, hb.trans (h.2.mono hb.size)⟩
  by_cases hlt : t.length ≤ 20000
  case neg =>
    have hl1 : (20000 : Int) < (t.length : Int) := by omega
    have hv := HSv.out _ (Below.refl _ _)
    clear he
    go_enter Tryd.func3, Tryd.ntmps3
    go_wp2_with (first | (go_at_call 8; refine hv.mono ?_; clear hv; rintro e w6 ⟨rfl, hb6⟩))
    go_ret
    exact ⟨rfl, hb6⟩
  have hl1 : (t.length : Int) ≤ 20000 := by omega
  have hL := sLoad_any t w (by omega) he
  have HL2 : Hid (∀ W, Calls Tryd.prog 10 #[.string (bs t)] W fun e W' => rLdPost W (loadS t) e W') := fun W => rsLoad_any t W (by omega)
  cases hl : loadS t with
  | none =>
    rw [hl] at hL HL2
    have hL3 : Calls Tryd.prog 9 #[.string (bs t)] w fun e W' => e = .returned (.tuple #[.pointer none, .int .i64 4]) ∧ Below w.heap.size w W' := hL
    have HL3 : Hid (∀ W, Calls Tryd.prog 10 #[.string (bs t)] W fun e W' => e = .returned (.tuple #[.agg #[.int .i64 0, .slice none 0 0, .slice none 0 0], .int .i64 4]) ∧ Below W.heap.size W W') := HL2
    clear hL HL2 hl he
    go_enter Tryd.func3, Tryd.ntmps3
    go_wp2_with (first
      | (go_at_call 9; refine hL3.mono ?_; clear hL3; rintro e w1 ⟨rfl, hb1⟩)
      | (go_at_call 10; refine (HL3.out _).mono ?_; clear HL3; rintro e w2 ⟨rfl, hb2⟩; have hb12 := hb1.trans (hb2.mono hb1.size); have hv := HSv.out _ (hb12.alloc hb12.size (.cells #[.int .i64 0, .slice none 0 0, .slice none 0 0] 32)); clear HSv)
      | (go_at_call 8; refine hv.mono ?_; clear hv; rintro e w6 ⟨rfl, hb6⟩))
    go_ret
    exact ⟨rfl, hb6⟩
  | some x =>
    rw [hl] at hL HL2
    obtain ⟨hok, htx⟩ := text_loadS hl
    have hL3 : Calls Tryd.prog 9 #[.string (bs t)] w fun e W' => ∃ B T v, e = .returned (.tuple #[.pointer (some ⟨B, 0, none⟩), .int .i64 0]) ∧ ShAt W' B x T v ∧ w.heap.size ≤ B ∧ (hasC x.st = true → w.heap.size ≤ T) ∧ Below w.heap.size w W' := hL
    have HL3 : Hid (∀ W, Calls Tryd.prog 10 #[.string (bs t)] W fun e W' => ∃ (a : Option Addr) (ca : Nat) (a' : Option Addr) (ca' : Nat) (E : List Le), e = .returned (.tuple #[.agg #[.int .i64 x.st, .slice a x.l.length ca, .slice a' E.length ca'], .int .i64 0]) ∧ W'.ownsRow W.heap.size 120 2 (.slice a x.l.length ca) x.l.length (rcs x.l) ∧ W'.ownsRow W.heap.size 89 4 (.slice a' E.length ca') E.length (lcs E) ∧ (∀ i, ofE E i = x.c i) ∧ E.length ≤ 8 ∧ Below W.heap.size W W') := HL2
    have HX : Hid (∀ W B T v, Below w.heap.size w W → ShAt W B x T v → Calls Tryd.prog 11 #[.pointer (some ⟨B, 0, none⟩)] W fun e W' => e = .returned (.string (bs t)) ∧ Below W.heap.size W W') := fun W B T v hb h => by
      have := sText_any (he.p.next hb) h hok
      rw [htx] at this
      exact this
    have HY : Hid (∀ (W : World) (E : List Le) (a : Option Addr) (ca : Nat) (a' : Option Addr) (ca' base : Nat), W.ownsRow base 120 2 (.slice a x.l.length ca) x.l.length (rcs x.l) → W.ownsRow base 89 4 (.slice a' E.length ca') E.length (lcs E) → (∀ i, ofE E i = x.c i) → E.length ≤ 8 → ∀ (W' : World), Below (W.alloc (.cells #[.int .i64 x.st, .slice a x.l.length ca, .slice a' E.length ca'] 32)).heap.size (W.alloc (.cells #[.int .i64 x.st, .slice a x.l.length ca, .slice a' E.length ca'] 32)) W' → Calls Tryd.prog 12 #[.pointer (some ⟨W.heap.size, 0, none⟩)] W' fun e W'' => e = .returned (.string (bs t)) ∧ Below W'.heap.size W' W'') := fun W E a ca a' ca' base ho1 ho2 h3 h4 W' hb => by
      have hb0 := (Below.refl W.heap.size W).alloc (Nat.le_refl _) (.cells #[.int .i64 x.st, .slice a x.l.length ca, .slice a' E.length ca'] 32)
      have hr : RsAt (W.alloc (.cells #[.int .i64 x.st, .slice a x.l.length ca, .slice a' E.length ca'] 32)) W.heap.size x.st x.l E (.slice a x.l.length ca) (.slice a' E.length ca') :=
        ⟨⟨32, heap_alloc_new _ _⟩, own_less (own_kept ho1 hb0) (Nat.zero_le _), own_less (own_kept ho2 hb0) (Nat.zero_le _), (fun k e => by have := (ho1.lt k e).2; omega), (fun k e => by have := (ho2.lt k e).2; omega)⟩
      have := rText_any (hr.on hb) (List.Perm.refl _) hok h3 (by omega)
      rw [htx] at this
      exact this
    have hss := str_same t
    obtain ⟨st, hst⟩ : ∃ st, x.st = st := ⟨_, rfl⟩
    rw [hst] at HL3 HY
    clear hL HL2 hl he hok htx hst
    go_enter Tryd.func3, Tryd.ntmps3
    go_wp2_with (first
      | (go_at_call 9; refine hL3.mono ?_; clear hL3; rintro e w1 ⟨B, T, v, rfl, hsh, hBB, _, hb1⟩; have HSH : Hid (ShAt w1 B x T v) := hsh; clear hsh)
      | (go_at_call 10; refine (HL3.out _).mono ?_; clear HL3; rintro e w2 ⟨a, ca, a', ca', E, rfl, o1, o2, hec, hel, hb2⟩; have hb12 := hb1.trans (hb2.mono hb1.size); have hbA := (Below.refl w2.heap.size w2).alloc (Nat.le_refl _) (.cells #[.int .i64 st, .slice a x.l.length ca, .slice a' E.length ca'] 32); have hx := HX.out _ _ _ _ (hb12.trans (hbA.mono hb12.size)) ((HSH.out.on hb2).on hbA); have HY2 : Hid (_) := HY.out w2 E a ca a' ca' _ o1 o2 hec hel; clear HX HY o1 o2 hec HSH)
      | (go_at_call 11; refine hx.mono ?_; clear hx; rintro e w3 ⟨rfl, hb3⟩; have hy := HY2.out _ hb3; have hb13 := (hb12.trans (hbA.mono hb12.size)).trans (hb3.mono (Nat.le_trans hb12.size hbA.size)); clear HY2)
      | (go_at_call 12; refine hy.mono ?_; clear hy; rintro e w4 ⟨rfl, hb4⟩; have hv := HSv.out _ (hb13.trans (hb4.mono hb13.size)); clear HSv)
      | (go_at_call 8; refine hv.mono ?_; clear hv; rintro e w6 ⟨rfl, hb6⟩))
    go_ret
    exact ⟨rfl, hb6⟩
end
end Go.Proofs.YtgmobjdjojffgaaDoor
