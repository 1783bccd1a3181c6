/- Three texts of a list read: the plain one, walked. -/
import Derived.Test.YtifalaigfinciaaDoorSiA
namespace Go.Proofs.YtifalaigfinciaaDoor
open Go.RowKit
attribute [local go_sem ↓] Go.wp_at_zero Go.wp_at_succ

theorem Sl.three {w : World} {v : Value} {l : List (List UInt8)} (h : Sl w v l) {k : Nat} {a b c : List UInt8} (h0 : l[k]? = some a) (h1 : l[k + 1]? = some b) (h2 : l[k + 2]? = some c) : ∃ g o cap, v = .slice (some ⟨g, o, none⟩) l.length cap ∧ g < w.heap.size ∧ w.cell? ⟨g, o + k, none⟩ = some (.string (bs a)) ∧ w.cell? ⟨g, o + (k + 1), none⟩ = some (.string (bs b)) ∧ w.cell? ⟨g, o + (k + 2), none⟩ = some (.string (bs c)) := by
  rcases h with ⟨h, _⟩ | ⟨g, o, cap, rfl, hlt, h⟩
  · rw [h] at h0; cases h0
  · exact ⟨g, o, cap, rfl, hlt, h k a h0, h (k + 1) b h1, h (k + 2) c h2⟩
def okE (a b c : List UInt8) : Bool := decide (tnE a = 0) && (decide (tnE b = 0) && decide (cDecE c = 0))
set_option maxRecDepth 20000 in
set_option maxHeartbeats 2000000 in
theorem three_any (l : List (List UInt8)) (k : Nat) (a b c : List UInt8) (v : Value) (w : World) (ha : a.length ≤ 1000000) (hb : b.length ≤ 1000000) (hc : c.length ≤ 1000000) (hll : l.length ≤ 1000000) (hv : Sl w v l) (h0 : l[k]? = some a) (h1 : l[k + 1]? = some b) (h2 : l[k + 2]? = some c) :
    Calls Tryd.prog 28 #[v, .int .i64 k] w fun e W' => ∃ u, e = .returned (.tuple #[.agg #[.int .i64 (tnV a), .int .i64 (tnV b), .string (bs (cDecV c).1), .int .i64 (cDecV c).2.1, u], .bool (okE a b c)]) ∧ Tp W' u (cDecV c).2.2 ∧ Fr w.heap.size u ∧ Below w.heap.size w W' := by
  have hk2 := (List.getElem?_eq_some_iff.1 h2).1
  obtain ⟨vb, vo, vc, rfl, hvl, c0, c1, c2⟩ := hv.three h0 h1 h2
  have hb0 : Below w.heap.size w (w.alloc (.cells #[.int .i64 0, .int .i64 0, .string ⟨#[]⟩, .int .i64 0, .slice none 0 0] 72)) := (Below.refl _ w).alloc (Nat.le_refl _) _
  have r0 : (w.alloc (.cells #[.int .i64 0, .int .i64 0, .string ⟨#[]⟩, .int .i64 0, .slice none 0 0] 72)).heap[w.heap.size]? = some (.cells #[.int .i64 0, .int .i64 0, .string ⟨#[]⟩, .int .i64 0, .slice none 0 0] 72) := heap_alloc_new _ _
  have hTN : ∀ (t : List UInt8), t.length ≤ 1000000 → ∀ W, Calls Tryd.prog 44 #[.string (bs t)] W fun e W' => e = .returned (.tuple #[.int .i64 (tnV t), .int .i64 (tnE t)]) ∧ Below W.heap.size W W' := by
    intro t hl W
    have := rToNum_any (bs t) W (by rw [bs_size]; omega)
    rw [bs_list] at this
    exact this
  have HD : Hid (∀ W, Calls Tryd.prog 45 #[.string (bs c)] W fun e W' => ∃ u, e = .returned (.tuple #[.agg #[.string (bs (cDecV c).1), .int .i64 (cDecV c).2.1, u], .int .i64 (cDecE c)]) ∧ Tp W' u (cDecV c).2.2 ∧ Fr W.heap.size u ∧ Below W.heap.size W W') := fun W => rDecode4_any c W hc
  have hA := hTN a ha (w.alloc (.cells #[.int .i64 0, .int .i64 0, .string ⟨#[]⟩, .int .i64 0, .slice none 0 0] 72))
  have HB : Hid (_) := hTN b hb
  have hok : okE a b c = (decide (tnE a = 0) && (decide (tnE b = 0) && decide (cDecE c = 0))) := rfl
  obtain ⟨A, hAe⟩ : ∃ x, tnV a = x := ⟨_, rfl⟩
  obtain ⟨AE, hAE⟩ : ∃ x, tnE a = x := ⟨_, rfl⟩
  obtain ⟨B, hBe⟩ : ∃ x, tnV b = x := ⟨_, rfl⟩
  obtain ⟨BE, hBE⟩ : ∃ x, tnE b = x := ⟨_, rfl⟩
  obtain ⟨⟨X, G, T⟩, hX⟩ : ∃ x, cDecV c = x := ⟨_, rfl⟩
  obtain ⟨E, hE⟩ : ∃ x, cDecE c = x := ⟨_, rfl⟩
  obtain ⟨OK, hOK⟩ : ∃ x, okE a b c = x := ⟨_, rfl⟩
  rw [hOK, hAE, hBE, hE] at hok
  rw [hAe, hAE] at hA
  rw [hBe, hBE] at HB
  rw [hX, hE] at HD
  rw [hAe, hBe, hX, hOK]
  have hcs : (OK = true ∧ AE = 0 ∧ BE = 0 ∧ E = 0) ∨ (OK = false ∧ ((AE == 0) = false ∨ ((AE == 0) = true ∧ ((BE == 0) = false ∨ ((BE == 0) = true ∧ (E == 0) = false))))) := by
    rw [hok]
    by_cases e1 : AE = 0 <;> by_cases e2 : BE = 0 <;> by_cases e3 : E = 0 <;> simp [e1, e2, e3]
  have HCS : Hid (_) := hcs
  have d0 := (hb0.cell (p := ⟨vb, vo + k, none⟩) hvl).trans c0
  have d1 := (hb0.cell (p := ⟨vb, vo + (k + 1), none⟩) hvl).trans c1
  have d2 := (hb0.cell (p := ⟨vb, vo + (k + 2), none⟩) hvl).trans c2
  have hvl0 : vb < (w.alloc (.cells #[.int .i64 0, .int .i64 0, .string ⟨#[]⟩, .int .i64 0, .slice none 0 0] 72)).heap.size := Nat.lt_of_lt_of_le hvl hb0.size
  have m0 : (k : Int) < (l.length : Int) := by omega
  have m1 : (k : Int) + 1 < (l.length : Int) := by omega
  have m2 : (k : Int) + 2 < (l.length : Int) := by omega
  have m3 : (k : Int) ≤ 1000000 := by omega
  clear hTN hAe hAE hBe hBE hX hE c0 c1 c2 hv ha hb hc hok hOK hcs h0 h1 h2 hk2
  go_enter Tryd.func28, Tryd.ntmps28
  go_upto_region 4 with (first
    | (go_at_call 44; refine hA.mono ?_; clear hA; rintro e w1 ⟨rfl, hb1⟩; have hB1 := hb0.trans (hb1.mono hb0.size); have hBc := HB.out w1; have f1 := (hb1.cell (p := ⟨vb, vo + (k + 1), none⟩) hvl0).trans d1; have f2 := (hb1.cell (p := ⟨vb, vo + (k + 2), none⟩) hvl0).trans d2; have hvl1 := Nat.lt_of_lt_of_le hvl0 hb1.size; have r1 := (hb1.block w.heap.size (by simp)).trans r0)
    | (go_at_call 44; refine hBc.mono ?_; clear hBc; rintro e w2 ⟨rfl, hb2⟩; have hB2 := hB1.trans (hb2.mono hB1.size); have hDc := HD.out w2; have g2 := (hb2.cell (p := ⟨vb, vo + (k + 2), none⟩) hvl1).trans f2; have r2 := (hb2.block w.heap.size (Array.getElem?_eq_some_iff.1 r1).1).trans r1)
    | (go_at_call 45; refine hDc.mono ?_; clear hDc; rintro e w3 ⟨u, rfl, hT, hFr, hb3⟩; obtain ⟨ua, uc, rfl⟩ := hT.tl.slice; have r3 := (hb3.block w.heap.size (Array.getElem?_eq_some_iff.1 r2).1).trans r2))
  have hB3 := hB2.trans (hb3.mono hB2.size)
  have hlQ2 : w.heap.size < w2.heap.size := (Array.getElem?_eq_some_iff.1 r2).1
  have hb4 := (Below.refl w3.heap.size w3).alloc (Nat.le_refl _) (.cells #[.string (bs X), .int .i64 G, .slice ua T.length uc] 37)
  have rN := heap_alloc_new w3 (.cells #[.string (bs X), .int .i64 G, .slice ua T.length uc] 37)
  have r4 := (hb4.block w.heap.size (Array.getElem?_eq_some_iff.1 r3).1).trans r3
  have hT4 := hT.below hb4 (Nat.le_refl _)
  have hB4 := hB3.trans (hb4.mono hB3.size)
  have hQl : w.heap.size < w3.heap.size := (Array.getElem?_eq_some_iff.1 r3).1
  obtain ⟨W4, hW4⟩ : ∃ W, w3.alloc (.cells #[.string (bs X), .int .i64 G, .slice ua T.length uc] 37) = W := ⟨_, rfl⟩
  rw [hW4] at hb4 rN r4 hT4 hB4 ⊢
  obtain ⟨P4, hP4⟩ : ∃ P, w3.heap.size = P := ⟨_, rfl⟩
  rw [hP4] at rN hQl ⊢
  have hPne : w.heap.size ≠ P4 := by omega
  have q0 := cellB rN 0 _ rfl
  have q1 := cellB rN 1 _ rfl
  have q2 := cellB rN 2 _ rfl
  have f0 := frozenB r4 0
  have f1' := frozenB r4 1
  have f2' := frozenB r4 2
  have f3' := frozenB r4 3
  have f4' := frozenB r4 4
  have s0 := cellB r4 0 _ rfl
  have s1 := cellB r4 1 _ rfl
  have s2 := cellB r4 2 _ rfl
  have s3 := cellB r4 3 _ rfl
  have s4 := cellB r4 4 _ rfl
  have hne : ∀ j, (Value.slice ua T.length uc).ownBlock = some j → T ≠ [] → j ≠ w.heap.size := fun j hj _ => by have := hFr j hj; omega
  have hT5 : Tp (put5 W4 w.heap.size (.int .i64 A) (.int .i64 B) (.string (bs X)) (.int .i64 G) (.slice ua T.length uc)) (.slice ua T.length uc) T := ((((hT4.setB hne 0 _).setB hne 1 _).setB hne 2 _).setB hne 3 _).setB hne 4 _
  have hB5 := put5_below hB4 (Nat.le_refl _) (.int .i64 A) (.int .i64 B) (.string (bs X)) (.int .i64 G) (.slice ua T.length uc)
  have r5 := put5_blk r4 (.int .i64 A) (.int .i64 B) (.string (bs X)) (.int .i64 G) (.slice ua T.length uc)
  have hF5 : Fr w.heap.size (.slice ua T.length uc) := fun j hj => by have := hFr j hj; omega
  have HF : Hid (_ ∧ _ ∧ _ ∧ _) := ⟨r5, hT5, hF5, hB5⟩
  clear hW4 hb4 rN r4 hT4 hB4 hP4 hb3 hB3 hT r3 r2 r1 r0 hb0 hb1 hb2 hB1 hB2 f1 f2 g2 d0 d1 d2 hT5 hB5 r5 hF5 hne hFr
  rcases HCS.out with ⟨rfl, rfl, rfl, rfl⟩ | ⟨rfl, p1 | ⟨p1, p2 | ⟨p2, p3⟩⟩⟩
  · go_wp2
    obtain ⟨r5, hT5, hF5, hB5⟩ := HF.out
    have z0 := cellB r5 0 _ rfl
    have z1 := cellB r5 1 _ rfl
    have z2 := cellB r5 2 _ rfl
    have z3 := cellB r5 3 _ rfl
    have z4 := cellB r5 4 _ rfl
    unfold put5 at z0 z1 z2 z3 z4 hT5 hB5
    exact bodyPost_ret (v := .tuple #[.agg #[.int .i64 A, .int .i64 B, .string (bs X), .int .i64 G, .slice ua T.length uc], .bool true]) (by simp [results, Tryd.f28, go_sem, z0, z1, z2, z3, z4]) rfl ⟨_, rfl, hT5, hF5, hB5⟩
  all_goals
    go_wp2
    obtain ⟨r5, hT5, hF5, hB5⟩ := HF.out
    have z0 := cellB r5 0 _ rfl
    have z1 := cellB r5 1 _ rfl
    have z2 := cellB r5 2 _ rfl
    have z3 := cellB r5 3 _ rfl
    have z4 := cellB r5 4 _ rfl
    unfold put5 at z0 z1 z2 z3 z4 hT5 hB5
    exact bodyPost_ret (v := .tuple #[.agg #[.int .i64 A, .int .i64 B, .string (bs X), .int .i64 G, .slice ua T.length uc], .bool false]) (by simp [results, Tryd.f28, go_sem, z0, z1, z2, z3, z4]) rfl ⟨_, rfl, hT5, hF5, hB5⟩
end Go.Proofs.YtifalaigfinciaaDoor
