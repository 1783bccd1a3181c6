/- The law SlotEnough, walked. -/
import Derived.Test.YtoehmpcfmpkbnaaSoM
namespace Go.Proofs.Ytoehmpcfmpkbnaa
open Go.RowKit
attribute [local go_sem ↓] Go.wp_at_zero Go.wp_at_succ

theorem tagsTo_mem {V : Vs} {k : Nat} {t : List UInt8} {m : Nat} {a : Tg} (h : a ∈ tagsTo V k t m) : ∃ i : Nat, i < m ∧ a = ((i : Int), (V k i).2) ∧ hasT (V k i) t = true := by
  induction m with
  | zero => simp [tagsTo] at h
  | succ m ih =>
    simp only [tagsTo, List.mem_append] at h
    rcases h with h | h
    · obtain ⟨i, h1, h2⟩ := ih h
      exact ⟨i, by omega, h2⟩
    · split at h
      · rename_i hv
        simp at h
        exact ⟨m, by omega, h, hv⟩
      · simp at h
theorem tagsTo_has {V : Vs} {k : Nat} {t : List UInt8} {m i : Nat} (hi : i < m) (h : hasT (V k i) t = true) : ((i : Int), (V k i).2) ∈ tagsTo V k t m := by
  induction m with
  | zero => omega
  | succ m ih =>
    simp only [tagsTo, List.mem_append]
    by_cases e : i = m
    · subst e; right; rw [if_pos h]; simp
    · exact .inl (ih (by omega))
theorem tagsTo_sorted (V : Vs) (k : Nat) (t : List UInt8) (m : Nat) : (tagsTo V k t m).Pairwise (fun a b => a.1 < b.1) := by
  induction m with
  | zero => simp [tagsTo]
  | succ m ih =>
    simp only [tagsTo]
    rw [List.pairwise_append]
    refine ⟨ih, ?_, fun a ha b hb => ?_⟩
    · split <;> simp
    · split at hb
      · simp at hb
        obtain ⟨i, h1, h2, _⟩ := tagsTo_mem ha
        subst hb h2
        simp; omega
      · simp at hb
theorem hasT_t {v : Vt} {t : List UInt8} (h : hasT v t = true) : v.1 = t ∧ isV v.2 = true := by
  simp [hasT] at h; exact ⟨h.2, h.1⟩
/-- What a certificate is. -/
theorem certR_is {V : Vs} {f p k : Nat} {T : List UInt8} {L : List Tg} (hk : k < 2) (hp : p ≤ 3 * f) (h : certR V f p ((k : Int) + 1) = some (T, L)) : L = tagsTo V k T (3 * f + 1) ∧ 2 * f + 1 ≤ L.length ∧ (k = 0 → ∃ g, ((p : Int), g) ∈ L) := by
  have hcs : k = 0 ∨ k = 1 := by omega
  unfold certR at h
  rcases hcs with rfl | rfl
  · rw [if_pos (by decide)] at h
    split at h
    · rename_i hv
      injection h with h
      injection h with h1 h2
      subst h1
      refine ⟨h2.symm, ?_, fun _ => ⟨(V 0 p).2, ?_⟩⟩
      · rw [← h2]; simpa [enough] using hv.2
      · rw [← h2]
        exact tagsTo_has (by omega) (by simp [hasT, hv.1])
    · cases h
  · rw [if_neg (by decide), if_pos (by decide)] at h
    obtain ⟨t, h1, h2⟩ := Option.map_eq_some_iff.1 h
    injection h2 with h2 h3
    subst h2
    refine ⟨h3.symm, ?_, fun h => by cases h⟩
    have : ∀ m, firstE V f m = some t → enough V f 1 t = true := by
      intro m
      induction m with
      | zero => intro h; cases h
      | succ m ih =>
        intro h
        simp only [firstE] at h
        cases hf : firstE V f m with
        | some u => rw [hf] at h; simp at h; subst h; exact ih hf
        | none =>
          rw [hf] at h
          simp at h
          rw [← h.2]; exact h.1
    rw [← h3]; simpa [enough] using this _ h1
theorem any_snoc {L : List Tg} {j : Nat} {n : Int} {g : List UInt8} (h : L[j]? = some (n, g)) (p : Int) : (L.take (j + 1)).any (fun a => a.1 == p) = ((L.take j).any (fun a => a.1 == p) || (n == p)) := by
  obtain ⟨hk, e⟩ := List.getElem?_eq_some_iff.1 h
  rw [List.take_succ_eq_append_getElem hk, e, List.any_append]
  simp
set_option maxRecDepth 20000 in
set_option maxHeartbeats 8000000 in
theorem enough_any (gr f0 p0 : Int) (l0 : List Vo) (v0 : Value) (w : World) (hl0 : Vl w v0 l0) : Calls Try.prog 7 #[.agg #[.int .i64 gr, .int .i64 f0, .int .i64 p0], v0] w fun e W' => e = .returned (.bool true) ∧ Below w.heap.size w W' := by
  obtain ⟨a0, c0, rfl⟩ := hl0.slice
  obtain ⟨W0, hW0⟩ : ∃ W, w.alloc (.cells #[.int .i64 gr, .int .i64 f0, .int .i64 p0] 23) = W := ⟨_, rfl⟩
  have hb0 : Below w.heap.size w W0 := by rw [← hW0]; exact (Below.refl _ w).alloc (Nat.le_refl _) _
  have rX : W0.heap[w.heap.size]? = some (.cells #[.int .i64 gr, .int .i64 f0, .int .i64 p0] 23) := by rw [← hW0]; exact heap_alloc_new w _
  have HX : Hid (_) := hold3 rX
  have x0 := cellB rX 0 _ rfl
  have x1 := cellB rX 1 _ rfl
  have x2 := cellB rX 2 _ rfl
  have hT := three_any
  clear rX
  rcases new_cases gr f0 p0 with hno | ⟨hgr, f, p, rfl, rfl, hf, hp⟩
  · have hN := New_no hno W0
    clear hno
    go_enter Try.func7, Try.ntmps7
    go_upto_region 1 with fail
    clear hW0
    go_wp2_with (first
      | (go_at_call 8; refine hN.mono ?_; rintro e w1 ⟨rfl, h9⟩; replace h9 := h9.symm; subst h9)
      | (go_at_call 10; refine (hT _).mono ?_; rintro e w2 ⟨rfl, hb2⟩))
    go_ret
    exact ⟨rfl, hb0.trans (hb2.mono hb0.size)⟩
  · have hN := New_ok hgr hf hp W0
    by_cases hbig : 200 < l0.length
    · have hb2 : (200 : Int) < (l0.length : Int) := by omega
      clear hbig
      go_enter Try.func7, Try.ntmps7
      go_upto_region 1 with fail
      clear hW0
      go_wp2_with (first
        | (go_at_call 8; refine hN.mono ?_; rintro e w1 ⟨rfl, h1, hb1⟩)
        | (go_at_call 10; refine (hT _).mono ?_; rintro e w2 ⟨rfl, hb2⟩))
      go_ret
      exact ⟨rfl, hb0.trans ((hb1.trans (hb2.mono hb1.size)).mono hb0.size)⟩
    · have hb2 : (l0.length : Int) ≤ 200 := by omega
      clear hbig
      go_enter Try.func7, Try.ntmps7
      go_upto_region 1 with fail
      clear hW0
      go_upto_region 4 with (first
        | (go_at_call 8; refine hN.mono ?_; rintro e w1 ⟨rfl, h1, hb1⟩))
      have hK0 : Kp W0 W0.heap.size gr f p (fun _ _ => ([], [])) w1 := ⟨h1, hb1, Nat.le_refl _⟩
      obtain ⟨B, hB⟩ : ∃ B, W0.heap.size = B := ⟨_, rfl⟩
      rw [hB] at hK0
      rw [show (⟨W0.heap.size, 0, none⟩ : Addr) = ⟨B, 0, none⟩ by rw [hB]]
      clear hN h1 hb1 hB x0 x1 x2
      go_wp2_with fail
      go_loopg [50] l0.length (fun gk i wr => ∃ (j : Nat) (V : Vs), j + gk = l0.length ∧ i = .int .i64 j ∧ Kp W0 B gr f p V wr)
      case atStart => exact ⟨0, _, by omega, rfl, hK0⟩
      case round =>
        clear hK0
        obtain ⟨j, V, hj, rfl, hK⟩ := hrel
        by_cases hlt : j < l0.length
        · obtain ⟨⟨k5, n5, t5, g5⟩, ha⟩ : ∃ a, l0[j]? = some a := ⟨_, List.getElem?_eq_getElem hlt⟩
          obtain ⟨ab, ao, rfl, hab, y0, y1, y2, y3⟩ := (hl0.below (hb0.trans (hK.bel.mono hb0.size)) (Nat.le_refl _)).at ha
          simp only at y0 y1 y2 y3
          have m0 : (0 : Int) ≤ (j : Int) := by omega
          have m1 : (j : Int) < (l0.length : Int) := by omega
          have hba : Below wr.heap.size wr (wr.alloc (.cells #[.int .i64 k5, .int .i64 n5, .string (bs t5), .string (bs g5)] 34)) := (Below.refl _ _).alloc (Nat.le_refl _) _
          have hK1 := hK.next hba
          obtain ⟨⟨b5, e5, V5⟩, hR⟩ : ∃ r, voteR V f k5 n5 t5 g5 = r := ⟨_, rfl⟩
          have hA := Vote_any hK1.slot k5 n5 t5 g5 b5 e5 V5 hR
          have HK : Hid (_) := hK1
          clear ha hR hba hK1 hK
          go_wp2_with (first
            | (go_at_call 11; refine hA.mono ?_; rintro e w2 ⟨rfl, h2, hm2⟩))
          go_roundg (l0.length - (j + 1))
          case measure => omega
          case rel => exact ⟨j + 1, V5, by omega, by go_num, HK.out.moved h2 hm2⟩
        · have hjl : j = l0.length := by omega
          subst hjl
          clear hl0 hj hlt hb2
          go_wp2_with fail
          go_loopg [9] 2 (fun gk kv wr => ∃ q : Nat, q + gk = 2 ∧ kv = .int .i64 ((q : Int) + 1) ∧ Kp W0 B gr f p V wr)
          case atStart => exact ⟨0, by omega, rfl, hK⟩
          case round =>
            clear hK
            rename World => wq
            obtain ⟨q, hq, rfl, hK⟩ := hrel
            by_cases hq2 : q < 2
            · have q1 : (q : Int) + 1 ≤ 2 := by omega
              have hC := Cert_any hK.slot ((q : Int) + 1)
              cases hR : certR V f p ((q : Int) + 1) with
              | none =>
                rw [hR] at hC
                have hC' : Calls Try.prog 15 #[.pointer (some ⟨B, 0, none⟩), .int .i64 ((q : Int) + 1)] wq fun e W' => (∃ v, e = .returned (.tuple #[.agg #[.string (bs []), .int .i64 0, v], .bool false]) ∧ W'.ownsRow wq.heap.size 70 2 v 0 []) ∧ Below wq.heap.size wq W' := hC
                have HK : Hid (_) := hK
                clear hC hR hK
                go_wp2_with (first
                  | (go_at_call 15; refine hC'.mono ?_; rintro e w3 ⟨⟨v3, rfl, ho3⟩, hb3⟩; obtain ⟨ua, uc, hu⟩ := owns_slice ho3; subst hu))
                go_roundg (2 - (q + 1))
                case measure => omega
                case rel => exact ⟨q + 1, by omega, by go_num, (HK.out.next hb3).next ((Below.refl _ _).alloc (Nat.le_refl _) _)⟩
              | some TL =>
                obtain ⟨T, L⟩ := TL
                rw [hR] at hC
                have hC' : Calls Try.prog 15 #[.pointer (some ⟨B, 0, none⟩), .int .i64 ((q : Int) + 1)] wq fun e W' => (∃ v, e = .returned (.tuple #[.agg #[.string (bs T), .int .i64 gr, v], .bool true]) ∧ W'.ownsRow wq.heap.size 70 2 v L.length (tcs L)) ∧ Below wq.heap.size wq W' := hC
                obtain ⟨hL1, hL2, hL3⟩ := certR_is hq2 hp hR
                have hL4 : L.length ≤ 10 := by rw [hL1]; have := tagsTo_le V q T (3 * f + 1); omega
                have HL : Hid (L = tagsTo V q T (3 * f + 1) ∧ 2 * f + 1 ≤ L.length ∧ (q = 0 → ∃ g, ((p : Int), g) ∈ L)) := ⟨hL1, hL2, hL3⟩
                have HK : Hid (_) := hK
                clear hC hR hK hL1 hL2 hL3
                go_upto_region 13 with (first
                  | (go_at_call 15; refine hC'.mono ?_; rintro e w3 ⟨⟨v3, rfl, ho3⟩, hb3⟩; obtain ⟨ua, uc, hu⟩ := owns_slice ho3; subst hu))
                have hba3 : Below w3.heap.size w3 (w3.alloc (.cells #[.string (bs T), .int .i64 gr, .slice ua L.length uc] 49)) := (Below.refl _ _).alloc (Nat.le_refl _) _
                have hK3 := (HK.out.next hb3).next hba3
                have rC := heap_alloc_new w3 (.cells #[.string (bs T), .int .i64 gr, .slice ua L.length uc] 49)
                have ho := owns_next ho3 hba3
                obtain ⟨W3, hW3⟩ : ∃ W, w3.alloc (.cells #[.string (bs T), .int .i64 gr, .slice ua L.length uc] 49) = W := ⟨_, rfl⟩
                obtain ⟨X3, hX3⟩ : ∃ X, w3.heap.size = X := ⟨_, rfl⟩
                rw [hW3] at hK3 rC ho ⊢
                rw [hX3] at rC ⊢
                have z2 := cellB rC 2 _ rfl
                have HC3 : Hid (_) := hold3 rC
                clear hC' hW3 hX3 hba3 hb3 HK ho3 rC
                go_wp2_with fail
                go_loopg [12, 80] L.length (fun gj pb i wj => ∃ j : Nat, j + gj = L.length ∧ i = .int .i64 j ∧ pb = .bool ((L.take j).any (fun a => a.1 == (p : Int))) ∧ Below W3.heap.size W3 wj)
                case atStart => exact ⟨0, by omega, rfl, rfl, Below.refl _ _⟩
                case round =>
                  rename World => wj
                  clear z2
                  obtain ⟨j, hj, rfl, rfl, hBj⟩ := hrel
                  by_cases hjt : j < L.length
                  · obtain ⟨⟨n5, g5⟩, hx⟩ : ∃ a, L[j]? = some a := ⟨_, List.getElem?_eq_getElem hjt⟩
                    have hmem : (n5, g5) ∈ tagsTo V q T (3 * f + 1) := by rw [← HL.out.1]; exact List.mem_of_getElem? hx
                    obtain ⟨i, hi1, hi2, hi3⟩ := tagsTo_mem hmem
                    injection hi2 with hi2 hi4
                    subst hi2
                    have hVi : V q i = (T, g5) := by rw [hi4, ← (hasT_t hi3).1]
                    have hgv : isV g5 = true := by rw [hi4]; exact (hasT_t hi3).2
                    obtain ⟨gb, gc, hgv2, hg1, hg2, y0, y1⟩ := trow_at (owns_next ho hBj) hx
                    injection hgv2 with f1 _ f2
                    subst f1 f2
                    have m0 : (0 : Int) ≤ (j : Int) := by omega
                    have m1 : (j : Int) < (L.length : Int) := by omega
                    have m2 : (j : Int) ≤ 10 := by omega
                    have HS : Hid (_) := any_snoc hx (p : Int)
                    obtain ⟨PB, hPB⟩ : ∃ b, (L.take j).any (fun a => a.1 == (p : Int)) = b := ⟨_, rfl⟩
                    rw [hPB] at HS ⊢
                    have hO : ∀ W, Below W3.heap.size W3 W → Calls Try.prog 17 #[.pointer (some ⟨B, 0, none⟩), .int .i64 ((q : Int) + 1), .int .i64 i] W fun e W' => e = .returned (.tuple #[.string (bs T), .string (bs g5), .bool true]) ∧ Below W.heap.size W W' := fun W hW => by
                      have := Own_any (hK3.slot.on hW) ((q : Int) + 1) i
                      rw [ownV_at hq2 (by omega), hVi] at this
                      simp only at this
                      rw [hgv] at this
                      exact this
                    have hba : Below wj.heap.size wj (wj.alloc (.cells #[.int .i64 i, .string (bs g5)] 70)) := (Below.refl _ _).alloc (Nat.le_refl _) _
                    have hBa := hBj.trans (hba.mono hBj.size)
                    have rN := heap_alloc_new wj (.cells #[.int .i64 i, .string (bs g5)] 70)
                    have hOa := hO _ hBa
                    have HP : Hid (∀ j', j' + 1 = j → ∃ (n7 : Int) (g7 : List UInt8), L[j']? = some (n7, g7) ∧ n7 < (i : Int)) := by
                      intro j' hj'
                      obtain ⟨⟨n7, g7⟩, h7⟩ : ∃ a, L[j']? = some a := ⟨_, List.getElem?_eq_getElem (by omega)⟩
                      refine ⟨n7, g7, h7, ?_⟩
                      have hs := tagsTo_sorted V q T (3 * f + 1)
                      rw [← HL.out.1, List.pairwise_iff_getElem] at hs
                      have := hs j' j (by omega) hjt (by omega)
                      obtain ⟨_, e7⟩ := List.getElem?_eq_some_iff.1 h7
                      obtain ⟨_, e8⟩ := List.getElem?_eq_some_iff.1 hx
                      rw [e7, e8] at this
                      exact this
                    have HXX : Hid (_ ∧ _) := ⟨hBa, rN⟩
                    have hstT := str_same T
                    have hstg := str_same g5
                    obtain ⟨z0, z1, z2⟩ := HC3.out _ hBj
                    clear hmem hi4 hVi hgv hi3 hPB hO hba hBa rN hg1
                    go_upto_region 18 with fail
                    obtain ⟨hBa, rN⟩ := HXX.out
                    obtain ⟨W4, hW4⟩ : ∃ W, wj.alloc (.cells #[.int .i64 i, .string (bs g5)] 70) = W := ⟨_, rfl⟩
                    obtain ⟨X4, hX4⟩ : ∃ X, wj.heap.size = X := ⟨_, rfl⟩
                    rw [hW4] at hBa rN hOa ⊢
                    rw [hX4] at rN ⊢
                    have u0 := cellB rN 0 _ rfl
                    clear hW4 hX4 HXX y0 y1 z0 z1 z2
                    go_upto_region 19 with (first
                      | (go_at_call 17; refine hOa.mono ?_; rintro e w6 ⟨rfl, hb6⟩))
                    have hB6 := hBa.trans (hb6.mono hBa.size)
                    have rN6 := (hb6.block _ (Array.getElem?_eq_some_iff.1 rN).1).trans rN
                    clear hOa u0 rN hb6 hBa
                    have u0 := cellB rN6 0 _ rfl
                    have u1 := cellB rN6 1 _ rfl
                    obtain ⟨z0, z1, z2⟩ := HC3.out _ hB6
                    have HOw : Hid (_) := owns_next ho hB6
                    have hcs : (PB = true ∨ (PB = false ∧ i = p)) ∨ (PB = false ∧ ¬ i = p) := by cases PB <;> simp <;> omega
                    have hjc : j = 0 ∨ ∃ j', j' + 1 = j := by
                      by_cases h : j = 0
                      · exact .inl h
                      · exact .inr ⟨j - 1, by omega⟩
                    rcases hjc with hj0 | ⟨j', hj'⟩
                    all_goals
                      first
                      | (have hjf : decide ((0 : Int) < (j : Int)) = false := by rw [hj0]; rfl
                         have hjg : (j : Int) ≤ 0 := by omega
                         go_quiet (fail))
                      | (obtain ⟨n7, g7, h7, hlt7⟩ := HP.out j' hj'
                         obtain ⟨gb7, gc7, hgv7, hg17, hg27, v0, v1⟩ := trow_at HOw.out h7
                         injection hgv7 with f1 _ f2
                         injection f1 with f1
                         injection f1 with f1
                         subst f1
                         have wj : IntKind.i64.wrap ((j : Int) - 1) = (j' : Int) := by rw [show (j : Int) - 1 = (j' : Int) by omega]; exact wrap_id (by omega) (by omega)
                         have wj0 : (0 : Int) < (j : Int) := by omega
                         have wj3 : decide (0 < j) = true := by simp; omega
                         have wj4 : decide ((0 : Int) < (j : Int)) = true := by simp; omega
                         have wj1 : (0 : Int) ≤ (j' : Int) := by omega
                         have wj2 : (j' : Int) < (L.length : Int) := by omega
                         clear h7 hj' f2 hg17 hg27
                         go_quiet (fail))
                      have hB7 := below_drewN hB6 nq
                      obtain ⟨p0', p1', p2'⟩ := HX.out _ (hK3.bel.trans (hB7.mono hK3.bel.size))
                      have u0' : (w6.drewN nq).cell? ⟨X4, 0, none⟩ = some (.int .i64 i) := u0
                      clear u0 u1 z0 z1 z2
                      rcases hcs with (rfl | ⟨rfl, rfl⟩) | ⟨rfl, hne⟩
                      all_goals
                        try have hne1 : ¬ (i : Int) = (p : Int) := by omega
                        try have hne2 : ((i : Int) == (p : Int)) = false := by simpa using hne1
                        go_wp2
                        go_roundg (L.length - (j + 1))
                        case measure => omega
                        case rel => exact ⟨j + 1, by omega, by go_num, by rw [HS.out]; first | rfl | (rw [hne2]; rfl) | simp, hB7⟩
                  · have hjL : j = L.length := by omega
                    subst hjL
                    rw [List.take_length]
                    obtain ⟨z0, z1, z2⟩ := HC3.out _ hBj
                    obtain ⟨p0', p1', p2'⟩ := HX.out _ (hK3.bel.trans (hBj.mono hK3.bel.size))
                    have hf3 : (f : Int) ≤ 3 := by omega
                    have hl2 : 2 * (f : Int) + 1 ≤ (L.length : Int) := by have := HL.out.2.1; omega
                    have hl9 : (L.length : Int) ≤ 10 := by omega
                    have hcs : (q = 0 ∧ L.any (fun a => a.1 == (p : Int)) = true) ∨ q = 1 := by
                      by_cases h : q = 0
                      · left
                        obtain ⟨g, hg⟩ := HL.out.2.2 h
                        exact ⟨h, List.any_eq_true.2 ⟨_, hg, by simp⟩⟩
                      · right; omega
                    have HK9 : Hid (_) := hK3.next hBj
                    obtain ⟨PB, hPB⟩ : ∃ b, L.any (fun a => a.1 == (p : Int)) = b := ⟨_, rfl⟩
                    rw [hPB] at hcs ⊢
                    clear hPB ho hK3 HL
                    rcases hcs with ⟨rfl, rfl⟩ | rfl
                    · go_wp2
                      go_roundg 1
                      case measure => omega
                      case rel => exact ⟨1, by omega, by go_num, HK9.out⟩
                    · go_wp2
                      go_roundg 0
                      case measure => omega
                      case rel => exact ⟨2, by omega, by go_num, HK9.out⟩
            · have hq3 : q = 2 := by omega
              subst hq3
              go_wp2_with (first
                | (go_at_call 10; refine (hT _).mono ?_; rintro e w2 ⟨rfl, hb2⟩))
              go_ret
              have hB9 := hb0.trans (hK.bel.mono hb0.size)
              exact ⟨rfl, hB9.trans (hb2.mono hB9.size)⟩
end Go.Proofs.Ytoehmpcfmpkbnaa
