/- The law SlotOne, walked. -/
import Derived.Test.YtoehmpcfmpkbnaaSoO
namespace Go.Proofs.Ytoehmpcfmpkbnaa
open Go.RowKit
attribute [local go_sem ↓] Go.wp_at_zero Go.wp_at_succ

theorem one_text {q f p : Nat} {H A B : List (List UInt8)} {s : Int} {Ta Tb : List UInt8} {La Lb : List Tg} (hq : q < 2) (hp : p ≤ 3 * f) (ha : certR (fillV q H A s f (3 * f + 1)) f p ((q : Int) + 1) = some (Ta, La)) (hb : certR (fillV q H B s f (3 * f + 1)) f p ((q : Int) + 1) = some (Tb, Lb)) : Ta = Tb := by
  obtain ⟨a1, a2, _⟩ := certR_is hq hp ha
  obtain ⟨b1, b2, _⟩ := certR_is hq hp hb
  rw [a1, tagsTo_len] at a2
  rw [b1, tagsTo_len] at b2
  apply Decidable.byContradiction
  intro hne
  have h3 := fail_few s f (3 * f + 1)
  have h4 := pair_few (a := fun i => hasT (fillV q H A s f (3 * f + 1) q i) Ta) (b := fun i => hasT (fillV q H B s f (3 * f + 1) q i) Tb) (c := failB s f) (fun i h1 h2 => by
    cases hc : failB s f i
    · exfalso
      have e : fillV q H A s f (3 * f + 1) q i = fillV q H B s f (3 * f + 1) q i := by
        simp only [fillV, fillT, hc]; rfl
      rw [e] at h1
      exact hne ((hasT_t h1).1.symm.trans (hasT_t h2).1)
    · rfl) (3 * f + 1)
  omega
set_option maxHeartbeats 2000000 in
theorem fill_no {gr f p : Int} (hno : (inB gr 4 && (inB f 3 && inB p (3 * f))) = false) (kind s : Int) (v1 v2 v3 u : Value) (w : World) :
    Calls Try.prog 21 #[.agg #[.int .i64 gr, .int .i64 f, .int .i64 p], .int .i64 kind, .agg #[.int .i64 s, v1, v2, v3], u] w fun e W' => e = .returned (.pointer none) ∧ Below w.heap.size w W' := by
  obtain ⟨W0, hW0⟩ : ∃ W, (w.alloc (.cells #[.int .i64 gr, .int .i64 f, .int .i64 p] 23)).alloc (.cells #[.int .i64 s, v1, v2, v3] 64) = W := ⟨_, rfl⟩
  have hb1 : Below w.heap.size w (w.alloc (.cells #[.int .i64 gr, .int .i64 f, .int .i64 p] 23)) := (Below.refl _ w).alloc (Nat.le_refl _) _
  have hb0 : Below w.heap.size w W0 := by rw [← hW0]; exact hb1.alloc hb1.size _
  have rX : W0.heap[w.heap.size]? = some (.cells #[.int .i64 gr, .int .i64 f, .int .i64 p] 23) := by
    rw [← hW0]; exact (Below.heap_alloc _ _ _ (by simp)).trans (heap_alloc_new w _)
  have x0 := cellB rX 0 _ rfl
  have x1 := cellB rX 1 _ rfl
  have x2 := cellB rX 2 _ rfl
  have hN := New_no hno W0
  clear rX hb1 hno
  go_enter Try.func21, Try.ntmps21
  go_upto_region 1 with fail
  clear hW0
  go_wp2_with (first
    | (go_at_call 8; refine hN.mono ?_; rintro e w1 ⟨rfl, h9⟩; replace h9 := h9.symm; subst h9))
  go_ret
  exact ⟨rfl, hb0⟩
theorem Cert_named {w : World} {B : Nat} {gr : Int} {f p : Nat} {V : Vs} (h : SlotAt w B gr f p V) (kind : Int) : ∃ (T : List UInt8) (G : Int) (L : List Tg) (b : Bool), (b = true → certR V f p kind = some (T, L)) ∧
    Calls Try.prog 15 #[.pointer (some ⟨B, 0, none⟩), .int .i64 kind] w fun e W' => (∃ v, e = .returned (.tuple #[.agg #[.string (bs T), .int .i64 G, v], .bool b]) ∧ W'.ownsRow w.heap.size 70 2 v L.length (tcs L)) ∧ Below w.heap.size w W' := by
  have hC := Cert_any h kind
  cases hR : certR V f p kind with
  | none => rw [hR] at hC; exact ⟨[], 0, [], false, (fun h => by cases h), hC⟩
  | some x => obtain ⟨T, L⟩ := x; rw [hR] at hC; exact ⟨T, gr, L, true, (fun _ => rfl), hC⟩
set_option maxRecDepth 20000 in
set_option maxHeartbeats 8000000 in
theorem one_any (gr f0 p0 kind s : Int) (v1 v2 v3 : Value) (l1 l2 l3 : List (List UInt8)) (w : World) (h1 : Sl w v1 l1) (h2 : Sl w v2 l2) (h3 : Sl w v3 l3) : Calls Try.prog 4 #[.agg #[.int .i64 gr, .int .i64 f0, .int .i64 p0], .int .i64 kind, .agg #[.int .i64 s, v1, v2, v3]] w fun e W' => e = .returned (.bool true) ∧ Below w.heap.size w W' := by
  obtain ⟨W0, hW0⟩ : ∃ W, (w.alloc (.cells #[.int .i64 gr, .int .i64 f0, .int .i64 p0] 23)).alloc (.cells #[.int .i64 s, v1, v2, v3] 64) = W := ⟨_, rfl⟩
  have hb1 : Below w.heap.size w (w.alloc (.cells #[.int .i64 gr, .int .i64 f0, .int .i64 p0] 23)) := (Below.refl _ w).alloc (Nat.le_refl _) _
  have hb0 : Below w.heap.size w W0 := by rw [← hW0]; exact hb1.alloc hb1.size _
  have rX : W0.heap[w.heap.size]? = some (.cells #[.int .i64 gr, .int .i64 f0, .int .i64 p0] 23) := by
    rw [← hW0]; exact (Below.heap_alloc _ _ _ (by simp)).trans (heap_alloc_new w _)
  have rY : W0.heap[w.heap.size + 1]? = some (.cells #[.int .i64 s, v1, v2, v3] 64) := by
    have := heap_alloc_new (w.alloc (.cells #[.int .i64 gr, .int .i64 f0, .int .i64 p0] 23)) (.cells #[.int .i64 s, v1, v2, v3] 64)
    rw [hW0] at this
    simpa using this
  have HX : Hid (_ ∧ _) := ⟨hold3 rX, hold4 rY⟩
  have x0 := cellB rX 0 _ rfl
  have x1 := cellB rX 1 _ rfl
  have x2 := cellB rX 2 _ rfl
  have y0 := cellB rY 0 _ rfl
  have y1 := cellB rY 1 _ rfl
  have y2 := cellB rY 2 _ rfl
  have y3 := cellB rY 3 _ rfl
  have hT := three_any
  clear rX rY hb1
  by_cases hbad : (f0 < 0) ∨ (0 ≤ f0 ∧ 3 < f0) ∨ (0 ≤ f0 ∧ f0 ≤ 3 ∧ kind < 1) ∨ (0 ≤ f0 ∧ f0 ≤ 3 ∧ 1 ≤ kind ∧ 2 < kind)
  · rcases hbad with k1 | ⟨k1, k2⟩ | ⟨k1, k2, k3⟩ | ⟨k1, k2, k3, k4⟩
    all_goals
      go_enter Try.func4, Try.ntmps4
      go_upto_region 1 with fail
      clear hW0
      go_wp2_with (first
        | (go_at_call 10; refine (hT _).mono ?_; rintro e w2 ⟨rfl, hb2⟩))
      go_ret
      exact ⟨rfl, hb0.trans (hb2.mono hb0.size)⟩
  · have k1 : 0 ≤ f0 := by omega
    have k2 : f0 ≤ 3 := by omega
    have k3 : 1 ≤ kind := by omega
    have k4 : kind ≤ 2 := by omega
    clear hbad
    rcases new_cases gr f0 p0 with hno | ⟨hgr, f, p, rfl, rfl, hf, hp⟩
    · have hA := fill_no hno kind s v1 v2 v3 v2
      have hB := fill_no hno kind s v1 v2 v3 v3
      clear hno
      go_enter Try.func4, Try.ntmps4
      go_upto_region 1 with fail
      clear hW0
      go_upto_region 4 with (first
        | (go_at_call 21; refine (hA _).mono ?_; rintro e w2 ⟨rfl, hb2⟩))
      clear x0 x1 x2 y0 y1 y2 y3
      obtain ⟨x0, x1, x2⟩ := HX.out.1 _ hb2
      obtain ⟨y0, y1, y2, y3⟩ := HX.out.2 _ hb2
      go_wp2_with (first
        | (go_at_call 21; refine (hB _).mono ?_; rintro e w3 ⟨rfl, hb3⟩)
        | (go_at_call 10; refine (hT _).mono ?_; rintro e w4 ⟨rfl, hb4⟩))
      go_ret
      have hB3 := hb2.trans (hb3.mono hb2.size)
      exact ⟨rfl, hb0.trans ((hB3.trans (hb4.mono hB3.size)).mono hb0.size)⟩
    · obtain ⟨q, hq, rfl⟩ : ∃ q : Nat, q < 2 ∧ kind = (q : Int) + 1 := ⟨(kind - 1).toNat, by omega, by omega⟩
      have hA := fill_ok hgr hf hp hq s v1 v2 v3 v2 l1 l2 W0 (h1.below hb0 (Nat.le_refl _)) (h2.below hb0 (Nat.le_refl _))
      have HB : Hid (∀ W, Below W0.heap.size W0 W → _) := fun W hW => fill_ok hgr hf hp hq s v1 v2 v3 v3 l1 l3 W (h1.below (hb0.trans (hW.mono hb0.size)) (Nat.le_refl _)) (h3.below (hb0.trans (hW.mono hb0.size)) (Nat.le_refl _))
      have HO : Hid (∀ Ta La Tb Lb, certR (fillV q l1 l2 s f (3 * f + 1)) f p ((q : Int) + 1) = some (Ta, La) → certR (fillV q l1 l3 s f (3 * f + 1)) f p ((q : Int) + 1) = some (Tb, Lb) → Ta = Tb) := fun Ta La Tb Lb ha hb => one_text hq hp ha hb
      obtain ⟨VA, hVA⟩ : ∃ V, fillV q l1 l2 s f (3 * f + 1) = V := ⟨_, rfl⟩
      obtain ⟨VB, hVB⟩ : ∃ V, fillV q l1 l3 s f (3 * f + 1) = V := ⟨_, rfl⟩
      rw [hVA] at hA HO
      rw [hVB] at HB HO
      clear hVA hVB h1 h2 h3
      go_enter Try.func4, Try.ntmps4
      go_upto_region 1 with fail
      clear hW0
      go_upto_region 4 with (first
        | (go_at_call 21; refine hA.mono ?_; rintro e w2 ⟨B1, rfl, hB1, hS1, hb2⟩))
      clear x0 x1 x2 y0 y1 y2 y3 hA
      obtain ⟨x0, x1, x2⟩ := HX.out.1 _ hb2
      obtain ⟨y0, y1, y2, y3⟩ := HX.out.2 _ hb2
      have hB := HB.out _ hb2
      go_upto_region 7 with (first
        | (go_at_call 21; refine hB.mono ?_; rintro e w3 ⟨B2, rfl, hB2, hS2, hb3⟩))
      clear x0 x1 x2 y0 y1 y2 y3 hB HB HX
      have hS13 := hS1.on hb3
      have hB3 := hb2.trans (hb3.mono hb2.size)
      obtain ⟨T1, G1, L1, b1, hR1, hC1⟩ := Cert_named hS13 ((q : Int) + 1)
      go_upto_region 8 with (first
        | (go_at_call 15; refine hC1.mono ?_; rintro e w4 ⟨⟨u4, rfl, ho4⟩, hb4⟩; obtain ⟨ua, uc, hu⟩ := owns_slice ho4; subst hu))
      have hba : Below w4.heap.size w4 (w4.alloc (.cells #[.string (bs T1), .int .i64 G1, .slice ua L1.length uc] 49)) := (Below.refl _ _).alloc (Nat.le_refl _) _
      have hS24 := (hS2.on hb4).on hba
      have hB4 := hB3.trans ((hb4.trans (hba.mono hb4.size)).mono hB3.size)
      have rC := heap_alloc_new w4 (.cells #[.string (bs T1), .int .i64 G1, .slice ua L1.length uc] 49)
      obtain ⟨W4, hW4⟩ : ∃ W, w4.alloc (.cells #[.string (bs T1), .int .i64 G1, .slice ua L1.length uc] 49) = W := ⟨_, rfl⟩
      obtain ⟨X4, hX4⟩ : ∃ X, w4.heap.size = X := ⟨_, rfl⟩
      rw [hW4] at hS24 hB4 rC ⊢
      rw [hX4] at rC ⊢
      clear hC1 hW4 hX4 hba hb4 ho4 hS13 hB3 hS2 hb3 hS1 hb2
      obtain ⟨T2, G2, L2, b2, hR2, hC2⟩ := Cert_named hS24 ((q : Int) + 1)
      have hcs : b1 = false ∨ (b1 = true ∧ b2 = false) ∨ (b1 = true ∧ b2 = true ∧ T1 = T2) := by
        cases b1
        · exact .inl rfl
        · cases b2
          · exact .inr (.inl ⟨rfl, rfl⟩)
          · exact .inr (.inr ⟨rfl, rfl, HO.out _ _ _ _ (hR1 rfl) (hR2 rfl)⟩)
      go_upto_region 9 with (first
        | (go_at_call 15; refine hC2.mono ?_; rintro e w5 ⟨⟨u5, rfl, ho5⟩, hb5⟩; obtain ⟨ud, ue, hu⟩ := owns_slice ho5; subst hu))
      have hba : Below w5.heap.size w5 (w5.alloc (.cells #[.string (bs T2), .int .i64 G2, .slice ud L2.length ue] 49)) := (Below.refl _ _).alloc (Nat.le_refl _) _
      have hB5 := hB4.trans ((hb5.trans (hba.mono hb5.size)).mono hB4.size)
      have rD := heap_alloc_new w5 (.cells #[.string (bs T2), .int .i64 G2, .slice ud L2.length ue] 49)
      have rC5 := ((hb5.trans (hba.mono hb5.size)).block _ (Array.getElem?_eq_some_iff.1 rC).1).trans rC
      obtain ⟨W5, hW5⟩ : ∃ W, w5.alloc (.cells #[.string (bs T2), .int .i64 G2, .slice ud L2.length ue] 49) = W := ⟨_, rfl⟩
      obtain ⟨X5, hX5⟩ : ∃ X, w5.heap.size = X := ⟨_, rfl⟩
      rw [hW5] at hB5 rD rC5 ⊢
      rw [hX5] at rD ⊢
      have c1 := cellB rC5 0 _ rfl
      have c2 := cellB rD 0 _ rfl
      have hst := str_same T1
      clear hC2 hW5 hX5 hba hb5 ho5 hS24 rC rD rC5 hR1 hR2 HO hB4
      rcases hcs with rfl | ⟨rfl, rfl⟩ | ⟨rfl, rfl, rfl⟩
      all_goals
        go_wp2_with (first
          | (go_at_call 10; refine (hT _).mono ?_; rintro e w9 ⟨rfl, hb9⟩))
        go_ret
        exact ⟨by first | rfl | simp, hb0.trans ((hB5.trans (hb9.mono hB5.size)).mono hb0.size)⟩
end Go.Proofs.Ytoehmpcfmpkbnaa
