/- An entry read: the program's and the plain one, walked; what is wrong with a change's numbers. -/
import Derived.Test.YtifalaigfinciaaDoorShY
namespace Go.Proofs.YtifalaigfinciaaDoor
open Go.RowKit
attribute [local go_sem ↓] Go.wp_at_zero Go.wp_at_succ

theorem Sl.cells3 {w : World} {v : Value} {a b c : List UInt8} (h : Sl w v [a, b, c]) : ∃ g o cap, v = .slice (some ⟨g, o, none⟩) 3 cap ∧ g < w.heap.size ∧ w.cell? ⟨g, o, none⟩ = some (.string (bs a)) ∧ w.cell? ⟨g, o + 1, none⟩ = some (.string (bs b)) ∧ w.cell? ⟨g, o + 2, none⟩ = some (.string (bs c)) := by
  rcases h with ⟨h, _⟩ | ⟨g, o, cap, rfl, hlt, h⟩
  · cases h
  · exact ⟨g, o, cap, rfl, hlt, h 0 a rfl, h 1 b rfl, h 2 c rfl⟩

/-- Tags don't lie where a certificate lies. -/
theorem Tp.not_cert {W : World} {u : Value} {T : List Tg} (hT : Tp W u T) {Q : Nat} {s : ByteArray} {g : Int} {a : Option Addr} {n c : Nat} {t : TypeId} (r : W.heap[Q]? = Option.some (.cells #[.string s, .int .i64 g, .slice a n c] t)) : ∀ k, u.ownBlock = Option.some k → T ≠ [] → k ≠ Q := by
  intro k hk hne hkQ
  subst hkQ
  rcases hT with ⟨h, _⟩ | ⟨h, _⟩ | ⟨b, o, cap, rfl, _, _, h⟩
  · exact hne h
  · exact hne h
  · have hbk : b = k := by simpa [Value.ownBlock] using hk
    subst hbk
    obtain ⟨x, hx⟩ : ∃ x, T[0]? = Option.some x := by
      cases T with
      | nil => exact absurd rfl hne
      | cons x T => exact ⟨x, rfl⟩
    obtain ⟨h1, h2⟩ := h 0 x hx
    unfold World.cell? at h1 h2
    simp only [r, Nat.zero_mul, Nat.add_zero] at h1 h2
    match o, h1, h2 with
    | 0, h1, _ => simp at h1
    | 1, _, h2 => simp at h2
    | 2, h1, _ => simp at h1
    | o + 3, h1, _ => simp at h1

set_option maxRecDepth 20000 in
set_option maxHeartbeats 2000000 in
theorem sized_any (c : Bq) (k : Nat) (mu : Value) (ba : Option Addr) (bc : Nat) (w : World) (hmu : ∃ a n m, mu = .slice a n m) :
    Calls Tryd.prog 20 #[.agg #[.int .i64 c.n, .int .i64 c.v, .string (bs c.x), .int .i64 c.g, mu, .slice ba k bc]] w fun e W' => e = .returned (.int .i64 (if sizedB c k = false then 1 else 0)) ∧ Below w.heap.size w W' := by
  obtain ⟨ma, mn, mc, rfl⟩ := hmu
  have hba := (Below.refl w.heap.size w).alloc (Nat.le_refl _) (.cells #[.int .i64 c.n, .int .i64 c.v, .string (bs c.x), .int .i64 c.g, .slice ma mn mc, .slice ba k bc] 40)
  have HB : Hid (_) := hba
  have hcs : (sizedB c k = false ∧ (c.n < 1 ∨ (1 ≤ c.n ∧ (1099511627776 < c.n ∨ (c.n ≤ 1099511627776 ∧ (c.v < 0 ∨ (0 ≤ c.v ∧ (1099511627776 < c.v ∨ (c.v ≤ 1099511627776 ∧ (8 : Int) < (k : Int)))))))))) ∨ (sizedB c k = true ∧ 1 ≤ c.n ∧ c.n ≤ 1099511627776 ∧ 0 ≤ c.v ∧ c.v ≤ 1099511627776 ∧ (k : Int) ≤ 8) := by
    cases h : sizedB c k
    · left
      refine ⟨rfl, ?_⟩
      simp [sizedB, inR] at h
      omega
    · right
      simp [sizedB, inR] at h
      exact ⟨rfl, by omega, by omega, by omega, by omega, by omega⟩
  obtain ⟨cn, cv, cx, cg, cT⟩ := c
  simp only at hcs HB ⊢
  clear hba
  rcases hcs with ⟨hs, h0 | ⟨h0, h1 | ⟨h1, h2 | ⟨h2, h3 | ⟨h3, h4⟩⟩⟩⟩⟩ | ⟨hs, h0, h1, h2, h3, h4⟩
  all_goals
    first
      | rw [if_pos hs]
      | rw [if_neg (by rw [hs]; simp)]
    clear hs
    go_enter Tryd.func20, Tryd.ntmps20
    go_wp2
    first
      | exact bodyPost_ret (v := .int .i64 1) (by simp [results, Tryd.f20, go_sem]) rfl ⟨rfl, HB.out⟩
      | exact bodyPost_ret (v := .int .i64 0) (by simp [results, Tryd.f20, go_sem]) rfl ⟨rfl, HB.out⟩

set_option maxRecDepth 20000 in
set_option maxHeartbeats 2000000 in
theorem readEntry_any (a b c : List UInt8) (v : Value) (w : World) (ha : a.length ≤ 1000000) (hb : b.length ≤ 1000000) (hc : c.length ≤ 1000000) (he : Env w) (hv : Sl w v [a, b, c]) :
    Calls Tryd.prog 26 #[v] w fun e W' => ∃ u, e = .returned (.tuple #[.int .i64 (tnV a), .int .i64 (tnV b), .agg #[.string (bs (cDecV c).1), .int .i64 (cDecV c).2.1, u], .int .i64 (cDecE c)]) ∧ Tp W' u (cDecV c).2.2 ∧ Fr w.heap.size u ∧ Below w.heap.size w W' := by
  obtain ⟨vb, vo, vc, rfl, hvl, c0, c1, c2⟩ := hv.cells3
  have hb0 : Below w.heap.size w (w.alloc (.cells #[.string ⟨#[]⟩, .int .i64 0, .slice none 0 0] 24)) := (Below.refl _ w).alloc (Nat.le_refl _) _
  have r0 : (w.alloc (.cells #[.string ⟨#[]⟩, .int .i64 0, .slice none 0 0] 24)).heap[w.heap.size]? = some (.cells #[.string ⟨#[]⟩, .int .i64 0, .slice none 0 0] 24) := heap_alloc_new _ _
  have hTN : ∀ (t : List UInt8), t.length ≤ 1000000 → ∀ W, Below w.heap.size w W → Calls Tryd.prog 41 #[.string (bs t)] W fun e W' => e = .returned (.tuple #[.int .i64 (tnV t), .int .i64 (tnE t)]) ∧ Below W.heap.size W W' := by
    intro t hl W hW
    have := ToNum_any (bs t) W (by rw [bs_size]; omega) (he.next hW)
    rw [bs_list] at this
    exact this
  have HD : Hid (∀ W, Below w.heap.size w W → Calls Tryd.prog 42 #[.string (bs c)] W fun e W' => ∃ u, e = .returned (.tuple #[.agg #[.string (bs (cDecV c).1), .int .i64 (cDecV c).2.1, u], .int .i64 (cDecE c)]) ∧ Tp W' u (cDecV c).2.2 ∧ Fr W.heap.size u ∧ Below W.heap.size W W') := fun W hW => cDecode_any c W hc (he.next hW)
  have hA := hTN a ha _ hb0
  have HB : Hid (_) := hTN b hb
  obtain ⟨A, hAe⟩ : ∃ x, tnV a = x := ⟨_, rfl⟩
  obtain ⟨AE, hAE⟩ : ∃ x, tnE a = x := ⟨_, rfl⟩
  obtain ⟨B, hBe⟩ : ∃ x, tnV b = x := ⟨_, rfl⟩
  obtain ⟨BE, hBE⟩ : ∃ x, tnE b = x := ⟨_, rfl⟩
  obtain ⟨⟨X, G, T⟩, hX⟩ : ∃ x, cDecV c = x := ⟨_, rfl⟩
  obtain ⟨E, hE⟩ : ∃ x, cDecE c = x := ⟨_, rfl⟩
  rw [hAe, hAE] at hA
  rw [hBe, hBE] at HB
  rw [hX, hE] at HD
  rw [hAe, hBe, hX, hE]
  have d0 := (hb0.cell (p := ⟨vb, vo, none⟩) hvl).trans c0
  have d1 := (hb0.cell (p := ⟨vb, vo + 1, none⟩) hvl).trans c1
  have d2 := (hb0.cell (p := ⟨vb, vo + 2, none⟩) hvl).trans c2
  have hvl0 : vb < (w.alloc (.cells #[.string ⟨#[]⟩, .int .i64 0, .slice none 0 0] 24)).heap.size := Nat.lt_of_lt_of_le hvl hb0.size
  clear hTN hAe hAE hBe hBE hX hE c0 c1 c2 hv he ha hb hc
  go_enter Tryd.func26, Tryd.ntmps26
  go_upto_region 4 with (first
    | (go_at_call 41; refine hA.mono ?_; clear hA; rintro e w1 ⟨rfl, hb1⟩; have hB1 := hb0.trans (hb1.mono hb0.size); have hBc := HB.out w1 hB1; have f1 := (hb1.cell (p := ⟨vb, vo + 1, none⟩) hvl0).trans d1; have f2 := (hb1.cell (p := ⟨vb, vo + 2, none⟩) hvl0).trans d2; have hvl1 := Nat.lt_of_lt_of_le hvl0 hb1.size; have r1 := (hb1.block w.heap.size (by simp)).trans r0)
    | (go_at_call 41; refine hBc.mono ?_; clear hBc; rintro e w2 ⟨rfl, hb2⟩; have hB2 := hB1.trans (hb2.mono hB1.size); have hDc := HD.out w2 hB2; have g2 := (hb2.cell (p := ⟨vb, vo + 2, none⟩) hvl1).trans f2; have r2 := (hb2.block w.heap.size (Array.getElem?_eq_some_iff.1 r1).1).trans r1)
    | (go_at_call 42; refine hDc.mono ?_; clear hDc; rintro e w3 ⟨u, rfl, hT, hFr, hb3⟩; obtain ⟨ua, uc, rfl⟩ := hT.tl.slice; have r3 := (hb3.block w.heap.size (Array.getElem?_eq_some_iff.1 r2).1).trans r2))
  have hB3 := hB2.trans (hb3.mono hB2.size)
  have hb4 := (Below.refl w3.heap.size w3).alloc (Nat.le_refl _) (.cells #[.string (bs X), .int .i64 G, .slice ua T.length uc] 24)
  have rN := heap_alloc_new w3 (.cells #[.string (bs X), .int .i64 G, .slice ua T.length uc] 24)
  have r4 := (hb4.block w.heap.size (Array.getElem?_eq_some_iff.1 r3).1).trans r3
  have hT4 := hT.below hb4 (Nat.le_refl _)
  have hB4 := hB3.trans (hb4.mono hB3.size)
  have hQl : w.heap.size < w3.heap.size := (Array.getElem?_eq_some_iff.1 r3).1
  obtain ⟨W4, hW4⟩ : ∃ W, w3.alloc (.cells #[.string (bs X), .int .i64 G, .slice ua T.length uc] 24) = W := ⟨_, rfl⟩
  rw [hW4] at hb4 rN r4 hT4 hB4 ⊢
  obtain ⟨P4, hP4⟩ : ∃ P, w3.heap.size = P := ⟨_, rfl⟩
  rw [hP4] at rN hQl ⊢
  have hPne : w.heap.size ≠ P4 := by omega
  have q0 := cellB rN 0 _ rfl
  have q1 := cellB rN 1 _ rfl
  have q2 := cellB rN 2 _ rfl
  have f0 := frozenB r4 0
  have f1' := frozenB r4 1
  have f2' := frozenB r4 2
  have s0 := cellB r4 0 _ rfl
  have s1 := cellB r4 1 _ rfl
  have s2 := cellB r4 2 _ rfl
  have HF : Hid (_ ∧ _ ∧ _) := ⟨r4, hT4, hB4⟩
  have HFr : Hid (Fr w.heap.size (.slice ua T.length uc)) := fun k hk => Nat.le_trans hB2.size (hFr k hk)
  clear hFr
  clear hW4 hb4 rN r4 hT4 hB4 hP4 hb3 hB3 hT r3 r2 r1 r0 hb0 hb1 hb2 hB1 hB2 f1 f2 g2 d0 d1 d2
  go_region
  go_wp2
  obtain ⟨r4, hT4, hB4⟩ := HF.out
  have hnc := hT4.not_cert r4
  have hT5 := ((hT4.setB hnc 0 (.string (bs X))).setB hnc 1 (.int .i64 G)).setB hnc 2 (.slice ua T.length uc)
  have hB5 := ((hB4.setCell (p := ⟨w.heap.size, 0, none⟩) (Nat.le_refl _) (.string (bs X))).setCell (p := ⟨w.heap.size, 1, none⟩) (Nat.le_refl _) (.int .i64 G)).setCell (p := ⟨w.heap.size, 2, none⟩) (Nat.le_refl _) (.slice ua T.length uc)
  have r5 := set3 r4 (.string (bs X)) (.int .i64 G) (.slice ua T.length uc)
  obtain ⟨W5, hW5⟩ : ∃ W, ((W4.setCell ⟨w.heap.size, 0, none⟩ (.string (bs X))).setCell ⟨w.heap.size, 1, none⟩ (.int .i64 G)).setCell ⟨w.heap.size, 2, none⟩ (.slice ua T.length uc) = W := ⟨_, rfl⟩
  rw [hW5] at hT5 hB5 r5 ⊢
  have z0 : W5.drew.cell? ⟨w.heap.size, 0, none⟩ = some (.string (bs X)) := cellB (w := W5) r5 0 _ rfl
  have z1 : W5.drew.cell? ⟨w.heap.size, 1, none⟩ = some (.int .i64 G) := cellB (w := W5) r5 1 _ rfl
  have z2 : W5.drew.cell? ⟨w.heap.size, 2, none⟩ = some (.slice ua T.length uc) := cellB (w := W5) r5 2 _ rfl
  exact bodyPost_ret (v := .tuple #[.int .i64 A, .int .i64 B, .agg #[.string (bs X), .int .i64 G, .slice ua T.length uc], .int .i64 E]) (by simp [results, Tryd.f26, go_sem, z0, z1, z2]) rfl ⟨_, rfl, hT5.below (below_drew (Below.refl _ _)) (Nat.le_refl _), HFr.out, below_drew hB5⟩
end Go.Proofs.YtifalaigfinciaaDoor
