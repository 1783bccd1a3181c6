/- The slot's certOf, walked. -/
import Derived.Test.YtoehmpcfmpkbnaaSoG
namespace Go.Proofs.Ytoehmpcfmpkbnaa
open Go.RowKit
attribute [local go_sem ↓] Go.wp_at_zero Go.wp_at_succ

/-- A block of three cells, written anew. -/
def put3 (W : World) (R : Nat) (a b c : Value) : World := ((W.setCell ⟨R, 0, none⟩ a).setCell ⟨R, 1, none⟩ b).setCell ⟨R, 2, none⟩ c
theorem put3_blk {W : World} {R : Nat} {p q r : Value} {t : TypeId} (h : W.heap[R]? = some (.cells #[p, q, r] t)) (a b c : Value) : (put3 W R a b c).heap[R]? = some (.cells #[a, b, c] t) := setB (setB (setB h 0 a) 1 b) 2 c
theorem put3_far {W : World} {R k : Nat} (h : k ≠ R) (a b c : Value) : (put3 W R a b c).heap[k]? = W.heap[k]? := (set_far h _ _).trans ((set_far h _ _).trans (set_far h _ _))
theorem put3_below {n : Nat} {w W : World} {R : Nat} (h : Below n w W) (hR : n ≤ R) (a b c : Value) : Below n w (put3 W R a b c) :=
  ((h.setCell (p := ⟨R, 0, none⟩) hR _).setCell (p := ⟨R, 1, none⟩) hR _).setCell (p := ⟨R, 2, none⟩) hR _
theorem put3_owns {W : World} {R : Nat} {base n : Nat} {e : TypeId} {s : Nat} {v : Value} {xs : List Value} (h : W.ownsRow base e s v n xs) (hR : R < base) (a b c : Value) : (put3 W R a b c).ownsRow base e s v n xs :=
  owns_kept h (fun k hk => put3_far (by have := (h.lt k hk).1; omega) a b c)
/-- The certificate of a text, if enough voted it. -/
def enough (V : Vs) (f k : Nat) (t : List UInt8) : Bool := decide (2 * f + 1 ≤ (tagsTo V k t (3 * f + 1)).length)
set_option maxRecDepth 20000 in
set_option maxHeartbeats 4000000 in
theorem certOf_any {w : World} {B : Nat} {gr : Int} {f p : Nat} {V : Vs} (h : SlotAt w B gr f p V) {k : Nat} (hk : k < 2) (t : List UInt8) : Calls Try.prog 26 #[.pointer (some ⟨B, 0, none⟩), .int .i64 ((k : Int) + 1), .string (bs t)] w fun e W' =>
    ((enough V f k t = true ∧ ∃ v, e = .returned (.tuple #[.agg #[.string (bs t), .int .i64 gr, v], .bool true]) ∧ W'.ownsRow w.heap.size 70 2 v (tagsTo V k t (3 * f + 1)).length (tcs (tagsTo V k t (3 * f + 1)))) ∨ (enough V f k t = false ∧ e = .returned (.tuple #[.agg #[.string (bs []), .int .i64 0, .slice none 0 0], .bool false]))) ∧ Below w.heap.size w W' := by
  have hba : Below w.heap.size w (w.alloc (.cells #[.string (bs []), .int .i64 0, .slice none 0 0] 49)) := (Below.refl _ w).alloc (Nat.le_refl _) _
  have hT := told_any (h.on hba) hk
  have f3 := h.f3
  have HK : Hid (∀ W : World, Below w.heap.size w W → W.cell? ⟨B, 0, none⟩ = some (.int .i64 gr) ∧ W.cell? ⟨B, 1, none⟩ = some (.int .i64 f)) := fun W hW => ⟨(h.on hW).c0.1, (h.on hW).c0.2.1⟩
  obtain ⟨i0, hi, hz0, hz1, hz2⟩ := info_parts Try.info70
  unfold enough
  obtain ⟨n, hn⟩ : ∃ n, 3 * f + 1 = n := ⟨_, rfl⟩
  have n10 : n ≤ 10 := by omega
  rw [hn] at hT ⊢
  obtain ⟨L, hL⟩ : ∃ L, tagsTo V k t n = L := ⟨_, rfl⟩
  have HL : Hid (tagsTo V k t n = L) := hL
  rw [hL]
  clear hL
  have HC : Hid (∀ (W : World) (i : Nat), Below w.heap.size w W → i < n → W.cell? ⟨B, 3 + k * 20 + i * 2, none⟩ = some (.string (bs (V k i).1)) ∧ W.cell? ⟨B, 3 + k * 20 + i * 2 + 1, none⟩ = some (.string (bs (V k i).2))) := fun W i hW hi => ⟨((h.on hW).cv hk (by omega)).1, ((h.on hW).cv hk (by omega)).2.1⟩
  obtain ⟨o, ho⟩ : ∃ o, 3 + k * 20 = o := ⟨_, rfl⟩
  rw [ho] at hT HC
  have rR := heap_alloc_new w (.cells #[.string (bs []), .int .i64 0, .slice none 0 0] 49)
  have HR : Hid (_ ∧ _) := ⟨hba, rR⟩
  clear ho hn h rR hba
  go_enter Try.func26, Try.ntmps26
  go_wp2_with (first | (go_at_call 25; refine hT.mono ?_; rintro e w1 ⟨rfl, hb1⟩))
  obtain ⟨hba, rR⟩ := HR.out
  have hB1 := hba.trans (hb1.mono hba.size)
  have r1 := (hb1.block _ (Array.getElem?_eq_some_iff.1 rR).1).trans rR
  have hs1 : w.heap.size + 1 ≤ w1.heap.size := by have := hb1.size; simpa using this
  clear HR hb1 rR hba hT
  go_loopg [8, 15] n (fun gk ts i wr => ∃ j : Nat, j + gk = n ∧ i = .int .i64 j ∧ wr.ownsRow (w.heap.size + 1) 70 2 ts (tagsTo V k t j).length (tcs (tagsTo V k t j)) ∧ wr.heap[w.heap.size]? = some (.cells #[.string (bs []), .int .i64 0, .slice none 0 0] 49) ∧ Below w.heap.size w wr ∧ w.heap.size + 1 ≤ wr.heap.size)
  case atStart => exact ⟨0, by omega, rfl, World.ownsRow_nil _ _ _ _, r1, hB1, hs1⟩
  case round =>
    clear r1 hB1 hs1
    obtain ⟨j, hj, rfl, hown, rr, hB, hs⟩ := hrel
    by_cases hlt : j < n
    · obtain ⟨x0, x1⟩ := HC.out _ j hB hlt
      have m0 : (0 : Int) ≤ (j : Int) := by omega
      have m1 : (j : Int) < (n : Int) := by omega
      have m2 : (j : Int) ≤ 10 := by omega
      have hcl := tagsTo_le V k t j
      have HS : Hid (tagsTo V k t (j + 1) = tagsTo V k t j ++ if hasT (V k j) t = true then [((j : Int), (V k j).2)] else []) := rfl
      obtain ⟨M, hL⟩ : ∃ M, tagsTo V k t j = M := ⟨_, rfl⟩
      rw [hL] at HS hcl hown
      obtain ⟨⟨vt, vg⟩, hV⟩ : ∃ v, V k j = v := ⟨_, rfl⟩
      rw [hV] at x0 x1 HS
      simp only at x0 x1 HS
      have hI := is_any vt vg (wr.alloc (.cells #[.string (bs vt), .string (bs vg)] 73))
      have hba := (Below.refl wr.heap.size wr).alloc (Nat.le_refl _) (.cells #[.string (bs vt), .string (bs vg)] 73)
      have rN := heap_alloc_new wr (.cells #[.string (bs vt), .string (bs vg)] 73)
      have HX : Hid (_ ∧ _) := ⟨hba, rN⟩
      obtain ⟨ua, uc, rfl⟩ := owns_slice hown
      clear hV hL hba rN
      cases hv : isV vg
      · rw [hv] at hI
        have HS2 : Hid (tagsTo V k t (j + 1) = M) := by show _ = _; rw [HS.out, show hasT (vt, vg) t = false by simp [hasT, hv]]; simp
        clear hv HS
        go_wp2_with (first | (go_at_call 28; refine hI.mono ?_; rintro e w2 ⟨rfl, hb2⟩))
        go_roundg (n - (j + 1))
        case measure => omega
        case rel =>
          obtain ⟨hba, rN⟩ := HX.out
          have hb3 := hba.trans (hb2.mono hba.size)
          exact ⟨j + 1, by omega, by go_num, by rw [HS2.out]; exact owns_next hown hb3, (hb3.block _ (by omega)).trans rr, hB.trans (hb3.mono hB.size), Nat.le_trans hs hb3.size⟩
      · rw [hv] at hI
        by_cases hvt : vt = t
        · have HS2 : Hid (tagsTo V k t (j + 1) = M ++ [((j : Int), vg)]) := by show _ = _; rw [HS.out, show hasT (vt, vg) t = true by simp [hasT, hv, hvt]]; simp
          have hst := str_same t
          subst hvt
          clear hv HS
          have hml : M.length + 1 ≤ maxLen := by unfold maxLen; omega
          have hkb : (M.length + 1) * 24 ≤ 140737488355328 := by omega
          go_upto_region 6 with (first | (go_at_call 28; refine hI.mono ?_; rintro e w2 ⟨rfl, hb2⟩; have rN2 := (hb2.block _ (Array.getElem?_eq_some_iff.1 HX.out.2).1).trans HX.out.2; have y0 := cellB rN2 0 _ rfl; have y1 := cellB rN2 1 _ rfl))
          obtain ⟨hba, rN⟩ := HX.out
          have hb3 := hba.trans (hb2.mono hba.size)
          have hown2 := owns_next hown hb3
          have rr2 := (hb3.block _ (by omega)).trans rr
          have hB2 := hB.trans (hb3.mono hB.size)
          have hs2 := Nat.le_trans hs hb3.size
          have HTk : Hid (tcs (M ++ [((j : Int), vg)]) = tcs M ++ [.int .i64 j, .string (bs vg)]) := tcs_append M _
          obtain ⟨R, hR⟩ : ∃ R, tcs M = R := ⟨_, rfl⟩
          rw [hR] at hown2 HTk
          clear HX hb2 hba rN hb3 hown rr hB hR hI x0 x1 rN2
          go_wp2_with (first
            | (at_builtin; refine wpList_append_own _ rfl _ _ 47 rfl (w.heap.size + 1) 70 i0 (.agg #[.int .i64 0, .string ⟨#[]⟩]) 2 24 Try.underlying47 hi hz0 hz1 hz2 rfl (by decide) (.slice ua M.length uc) M.length R rfl (hown2.alloc _) _ 1 1 [.int .i64 j, .string (bs vg)] rfl rfl (World.news_of_block (heap_alloc_new _ _)) (by simp [Value.oneCell']) hml hkb (by simp; omega) ?_; intro v' w' h1 h2 _))
          go_roundg (n - (j + 1))
          case measure => omega
          case rel =>
            have hg : Below (w.heap.size + 1) w2 w' := ((Below.refl _ w2).alloc hs2 _).grown h2 (by simp; omega) (fun q hq => (hown2.lt q hq).1)
            exact ⟨j + 1, by omega, by go_num, by rw [HS2.out, HTk.out, List.length_append]; exact h1, (hg.block _ (by omega)).trans rr2, hB2.trans (hg.mono (by omega)), Nat.le_trans hs2 hg.size⟩
        · have HS2 : Hid (tagsTo V k t (j + 1) = M) := by show _ = _; rw [HS.out, show hasT (vt, vg) t = false by simp [hasT, hvt]]; simp
          have hst := str_other hvt
          clear hv HS hvt
          go_wp2_with (first | (go_at_call 28; refine hI.mono ?_; rintro e w2 ⟨rfl, hb2⟩; have rN2 := (hb2.block _ (Array.getElem?_eq_some_iff.1 HX.out.2).1).trans HX.out.2; have y0 := cellB rN2 0 _ rfl; have y1 := cellB rN2 1 _ rfl))
          go_roundg (n - (j + 1))
          case measure => omega
          case rel =>
            obtain ⟨hba, rN⟩ := HX.out
            have hb3 := hba.trans (hb2.mono hba.size)
            exact ⟨j + 1, by omega, by go_num, by rw [HS2.out]; exact owns_next hown hb3, (hb3.block _ (by omega)).trans rr, hB.trans (hb3.mono hB.size), Nat.le_trans hs hb3.size⟩
    · have hjn : j = n := by omega
      subst hjn
      obtain ⟨c0, c1⟩ := HK.out _ hB
      have hcl := tagsTo_le V k t j
      rw [HL.out] at hcl hown
      obtain ⟨ua, uc, rfl⟩ := owns_slice hown
      have ff : (f : Int) ≤ 3 := by omega
      have q0 := cellB rr 0 _ rfl
      have q1 := cellB rr 1 _ rfl
      have q2 := cellB rr 2 _ rfl
      have p0 := frozenB rr 0
      have p1 := frozenB rr 1
      have p2 := frozenB rr 2
      have HX : Hid (_ ∧ _ ∧ _) := ⟨hown, rr, hB⟩
      by_cases he : 2 * f + 1 ≤ L.length
      · have he2 : 2 * (f : Int) + 1 ≤ (L.length : Int) := by omega
        clear hown rr hB
        go_wp2
        obtain ⟨hown, rr, hB⟩ := HX.out
        have hr := put3_blk rr (.string (bs t)) (.int .i64 gr) (.slice ua L.length uc)
        have z1 := cellB hr 0 _ rfl
        have z2 := cellB hr 1 _ rfl
        have z3 := cellB hr 2 _ rfl
        unfold put3 at z1 z2 z3
        exact bodyPost_ret (v := .tuple #[.agg #[.string (bs t), .int .i64 gr, .slice ua L.length uc], .bool true]) (by simp [results, Try.f26, go_sem, z1, z2, z3]) rfl ⟨.inl ⟨decide_eq_true he, _, rfl, owns_base (put3_owns hown (by omega) (.string (bs t)) (.int .i64 gr) (.slice ua L.length uc)) (by omega)⟩, put3_below hB (Nat.le_refl _) _ _ _⟩
      · have he2 : (L.length : Int) < 2 * (f : Int) + 1 := by omega
        clear hown rr hB
        go_wp2
        obtain ⟨hown, rr, hB⟩ := HX.out
        have hr := put3_blk rr (.string ⟨#[]⟩) (.int .i64 0) (.slice none 0 0)
        have z1 := cellB hr 0 _ rfl
        have z2 := cellB hr 1 _ rfl
        have z3 := cellB hr 2 _ rfl
        unfold put3 at z1 z2 z3
        exact bodyPost_ret (v := .tuple #[.agg #[.string ⟨#[]⟩, .int .i64 0, .slice none 0 0], .bool false]) (by simp [results, Try.f26, go_sem, z1, z2, z3]) rfl ⟨.inr ⟨decide_eq_false he, rfl⟩, put3_below hB (Nat.le_refl _) (.string ⟨#[]⟩) (.int .i64 0) (.slice none 0 0)⟩
end Go.Proofs.Ytoehmpcfmpkbnaa
