/- The document's Cert, walked. -/
import Derived.Test.YtoehmpcfmpkbnaaSoW
namespace Go.Proofs.Ytoehmpcfmpkbnaa
open Go.RowKit
attribute [local go_sem ↓] Go.wp_at_zero Go.wp_at_succ

/-- What the document's Cert answers. -/
def RCertRet (gr : Int) (r : Option (List UInt8 × List Tg)) (w : World) (e : Ending) (W' : World) : Prop :=
  (∃ v, e = .returned (.tuple #[.agg #[.string (bs (cT r)), .int .i64 (cG r gr), v], .bool r.isSome]) ∧ W'.ownsRow w.heap.size 84 2 v (cL r).length (tcs (cL r))) ∧ Below w.heap.size w W'
theorem RCertRet.none {gr : Int} {w W' : World} (h : Below w.heap.size w W') : RCertRet gr none w (.returned (.tuple #[.agg #[.string ⟨#[]⟩, .int .i64 0, .slice none 0 0], .bool false])) W' :=
  ⟨⟨_, rfl, World.ownsRow_nil _ _ _ _⟩, h⟩
theorem RCertRet.some {gr : Int} {w W' : World} {t : List UInt8} {L : List Tg} {v : Value} (ho : W'.ownsRow w.heap.size 84 2 v L.length (tcs L)) (h : Below w.heap.size w W') : RCertRet gr (some (t, L)) w (.returned (.tuple #[.agg #[.string (bs t), .int .i64 gr, v], .bool true])) W' :=
  ⟨⟨_, rfl, ho⟩, h⟩
set_option maxRecDepth 20000 in
set_option maxHeartbeats 8000000 in
theorem rCert_any {base : Nat} {w : World} {R : Nat} {v : Value} {gr : Int} {f p : Nat} {l : List Vo} {V : Vs} (h : RefAt base w R v gr f p l) (hlen : l.length ≤ 1000) (ht : Tie f l V) (hp : p ≤ 3 * f) (kind : Int) : Calls Try.prog 16 #[.pointer (some ⟨R, 0, none⟩), .int .i64 kind] w (RCertRet gr (certR V f p kind) w) := by
  obtain ⟨va, vc, rfl⟩ := h.slice
  have f3 := h.f3
  have hba : Below w.heap.size w (w.alloc (.cells #[.string ⟨#[]⟩, .int .i64 0, .slice none 0 0] 54)) := (Below.refl _ w).alloc (Nat.le_refl _) _
  have rR := heap_alloc_new w (.cells #[.string ⟨#[]⟩, .int .i64 0, .slice none 0 0] 54)
  have c3 := (h.on hba).c.2.2.2
  have HW : Hid (∀ W, Below w.heap.size w W → _) := fun W hW => owns_next h.own hW
  have HK : Hid (∀ W, Below w.heap.size w W → W.cell? ⟨R, 1, none⟩ = some (.int .i64 f) ∧ W.cell? ⟨R, 2, none⟩ = some (.int .i64 p)) := fun W hW => ⟨(h.on hW).c.2.1, (h.on hW).c.2.2.1⟩
  have HG : Hid (∀ (W : World) (t : List UInt8), isK kind = true → Below w.heap.size w W → Calls Try.prog 27 #[.pointer (some ⟨R, 0, none⟩), .int .i64 kind, .string (bs t)] W fun e W' =>
    (∃ u, e = .returned (.agg #[.string (bs t), .int .i64 gr, u]) ∧ W'.ownsRow W.heap.size 84 2 u (tagsTo V (kind - 1).toNat t (3 * f + 1)).length (tcs (tagsTo V (kind - 1).toNat t (3 * f + 1)))) ∧ Below W.heap.size W W') := fun W t hk hW => by
    obtain ⟨k, hk2, rfl⟩ := isK_t hk
    rw [show ((k : Int) + 1 - 1).toNat = k by omega]
    exact gather_any (h.on hW) hlen ht hk2 t
  have HV : Hid (∀ a ∈ l, isK a.1 = true) := fun a ha => by
    obtain ⟨k, i, hk, _, e1, _⟩ := ht.ok a ha
    rw [e1]
    have hcs : k = 0 ∨ k = 1 := by omega
    rcases hcs with rfl | rfl <;> rfl
  rw [ht.cert hp kind]
  obtain ⟨r, hr⟩ : ∃ r, (l.find? (rsel V f p kind)).map (fun a => (a.2.2.1, tagsTo V (kind - 1).toNat a.2.2.1 (3 * f + 1))) = r := ⟨_, rfl⟩
  have HE : Hid (_ = r) := hr
  rw [hr]
  obtain ⟨m2, hm2⟩ : ∃ m, 2 * (f : Int) = m := ⟨_, rfl⟩
  obtain ⟨m3, hm3⟩ : ∃ m, m2 + 1 = m := ⟨_, rfl⟩
  have v2 : IntKind.i64.wrap (2 * (f : Int)) = m2 := by rw [← hm2]; exact wrap_id (by omega) (by omega)
  have v3 : IntKind.i64.wrap (m2 + 1) = m3 := by rw [← hm3]; exact wrap_id (by omega) (by omega)
  have HM : Hid (m3 = 2 * (f : Int) + 1) := by show _ = _; omega
  have HX : Hid (_ ∧ _) := ⟨hba, rR⟩
  clear h hr rR hba ht hp hm2 hm3
  go_enter Try.func16, Try.ntmps16
  go_wp2_with fail
  obtain ⟨hba, rR⟩ := HX.out
  have hs0 : w.heap.size + 1 ≤ (w.alloc (.cells #[.string ⟨#[]⟩, .int .i64 0, .slice none 0 0] 54)).heap.size := by simp
  obtain ⟨W0, hW0⟩ : ∃ W, w.alloc (.cells #[.string ⟨#[]⟩, .int .i64 0, .slice none 0 0] 54) = W := ⟨_, rfl⟩
  rw [hW0] at hba rR hs0 c3 ⊢
  clear HX hW0 c3
  go_loopg [14] l.length (fun gk i wr => ∃ k : Nat, k + gk = l.length ∧ i = .int .i64 k ∧ Hid (NoP (rsel V f p kind) l k) ∧ wr.heap[w.heap.size]? = some (.cells #[.string ⟨#[]⟩, .int .i64 0, .slice none 0 0] 54) ∧ Below w.heap.size w wr ∧ w.heap.size + 1 ≤ wr.heap.size)
  case atStart => exact ⟨0, by omega, rfl, fun i a hi => absurd hi (Nat.not_lt_zero _), rR, hba, hs0⟩
  case round =>
    clear hba rR hs0
    obtain ⟨k, hk, rfl, HN, rr, hB, hs⟩ := hrel
    by_cases hlt : k < l.length
    · obtain ⟨⟨k5, n5, t5, g5⟩, ha⟩ : ∃ a, l[k]? = some a := ⟨_, List.getElem?_eq_getElem hlt⟩
      obtain ⟨gb, cap, hv, hg1, hg2, x0, x1, x2, x3⟩ := vrow_at (HW.out _ hB) ha
      injection hv with e1 _ e2
      subst e1 e2
      simp only at x0 x1 x2 x3
      have m0 : (0 : Int) ≤ (k : Int) := by omega
      have m1 : (k : Int) < (l.length : Int) := by omega
      have hba : Below wr.heap.size wr (wr.alloc (.cells #[.int .i64 k5, .int .i64 n5, .string (bs t5), .string (bs g5)] 39)) := (Below.refl _ _).alloc (Nat.le_refl _) _
      have hBa := hB.trans (hba.mono hB.size)
      have rr1 := (hba.block _ (by omega)).trans rr
      have hs1 := Nat.le_trans hs hba.size
      have rN := heap_alloc_new wr (.cells #[.int .i64 k5, .int .i64 n5, .string (bs t5), .string (bs g5)] 39)
      have HX : Hid (_ ∧ _ ∧ _ ∧ _) := ⟨hBa, rr1, hs1, rN⟩
      have HNs : Hid (rsel V f p kind (k5, n5, t5, g5) = false → NoP (rsel V f p kind) l (k + 1)) := fun hf => NoP.succ HN.out ha hf
      have HNh : Hid (rsel V f p kind (k5, n5, t5, g5) = true → l.find? (rsel V f p kind) = some (k5, n5, t5, g5)) := fun hf => NoP.hit HN.out ha hf
      have HKi : Hid (isK k5 = true) := HV.out _ (List.mem_of_getElem? ha)
      clear hba hBa rr1 hs1 rN ha hg1 rr hB hs
      go_upto_region 4 with fail
      obtain ⟨hBa, rr1, hs1, rN⟩ := HX.out
      obtain ⟨W1, hW1⟩ : ∃ W, wr.alloc (.cells #[.int .i64 k5, .int .i64 n5, .string (bs t5), .string (bs g5)] 39) = W := ⟨_, rfl⟩
      obtain ⟨X1, hX1⟩ : ∃ X, wr.heap.size = X := ⟨_, rfl⟩
      rw [hW1] at hBa rr1 hs1 rN ⊢
      rw [hX1] at rN ⊢
      have u0 := cellB rN 0 _ rfl
      have u1 := cellB rN 1 _ rfl
      obtain ⟨c1, c2⟩ := HK.out _ hBa
      clear hW1 hX1 HX x0 x1 x2 x3
      by_cases hA : k5 = kind
      · by_cases hk1 : kind = 1
        · by_cases hnp : n5 = (p : Int)
          · -- of Order, the primary's
            have HSel : Hid ((k5 == kind) = true ∧ (!(kind == 1) || (n5 == (p : Int))) = true) := ⟨by simp [hA], by simp [hk1, hnp]⟩
            have d1 : (k5 != kind) = false := by simp [hA]
            have d2 : (kind == 1) = true := by simp [hk1]
            have d3 : (n5 != (p : Int)) = false := by simp [hnp]
            obtain ⟨L, hL⟩ : ∃ L, tagsTo V (kind - 1).toNat t5 (3 * f + 1) = L := ⟨_, rfl⟩
            have HEn : Hid (enough V f (kind - 1).toNat t5 = decide (m3 ≤ (L.length : Int))) := by
              show _ = _
              unfold enough
              rw [hL, HM.out]
              by_cases h9 : 2 * f + 1 ≤ L.length
              · rw [decide_eq_true h9, decide_eq_true (by omega)]
              · rw [decide_eq_false h9, decide_eq_false (by omega)]
            have hkk : isK kind = true := by rw [← hA]; exact HKi.out
            have HG2 : Hid (∀ W, Below w.heap.size w W → Calls Try.prog 27 #[.pointer (some ⟨R, 0, none⟩), .int .i64 kind, .string (bs t5)] W fun e W' => (∃ u, e = .returned (.agg #[.string (bs t5), .int .i64 gr, u]) ∧ W'.ownsRow W.heap.size 84 2 u L.length (tcs L)) ∧ Below W.heap.size W W') := fun W hW => by
              have := HG.out W t5 hkk hW
              rw [hL] at this
              exact this
            have HRes : Hid (rsel V f p kind (k5, n5, t5, g5) = true → r = some (t5, L)) := fun hh => by
              rw [← HE.out, HNh.out hh, ← hL]; rfl
            have HNo : Hid (rsel V f p kind (k5, n5, t5, g5) = false → NoP (rsel V f p kind) l (k + 1)) := HNs.out
            have HZ : Hid (_ ∧ _ ∧ _ ∧ _) := ⟨rr1, hBa, hs1, rN⟩
            clear hA hk1 hnp rr1 hBa hs1 rN hL hkk HNh HNs
            go_quiet (fail)
            obtain ⟨rr1, hBa, hs1, rN⟩ := HZ.out
            have hBq := below_drewN hBa nq
            have rN' : (W1.drewN nq).heap[X1]? = _ := rN
            have rr1' : (W1.drewN nq).heap[w.heap.size]? = _ := rr1
            have hs1' : w.heap.size + 1 ≤ (W1.drewN nq).heap.size := hs1
            obtain ⟨W2, hW2⟩ : ∃ W, W1.drewN nq = W := ⟨_, rfl⟩
            rw [hW2] at hBq rN' rr1' hs1' ⊢
            clear hW2 HZ rr1 hBa hs1 rN u0 u1 c1 c2
            have u2 := cellB rN' 2 _ rfl
            have hG := HG2.out _ hBq
            go_upto_region 6 with (first
              | (go_at_call 27; refine hG.mono ?_; rintro e w3 ⟨⟨u3, rfl, ho3⟩, hb3⟩; obtain ⟨ua, uc, hu⟩ := owns_slice ho3; subst hu))
            have hba3 := (Below.refl w3.heap.size w3).alloc (Nat.le_refl _) (.cells #[.string (bs t5), .int .i64 gr, .slice ua L.length uc] 54)
            have hb4 := hb3.trans (hba3.mono hb3.size)
            have rC := heap_alloc_new w3 (.cells #[.string (bs t5), .int .i64 gr, .slice ua L.length uc] 54)
            have ho4 := owns_next ho3 hba3
            have hB4 := hBq.trans (hb4.mono hBq.size)
            have rr4 := (hb4.block _ (by omega)).trans rr1'
            have hs4 := Nat.le_trans hs1' hb4.size
            obtain ⟨W4, hW4⟩ : ∃ W, w3.alloc (.cells #[.string (bs t5), .int .i64 gr, .slice ua L.length uc] 54) = W := ⟨_, rfl⟩
            obtain ⟨X4, hX4⟩ : ∃ X, w3.heap.size = X := ⟨_, rfl⟩
            rw [hW4] at rC ho4 hB4 rr4 hs4 ⊢
            rw [hX4] at rC ⊢
            obtain ⟨c1, c2⟩ := HK.out _ hB4
            have y2 := cellB rC 2 _ rfl
            clear hW4 hX4 hba3 hb4 hb3 ho3 hG HG2 hBq rN' rr1' u2
            cases he : decide (m3 ≤ (L.length : Int))
            · have HN2 : Hid (NoP (rsel V f p kind) l (k + 1)) := HNo.out (by simp only [rsel, HEn.out, he]; simp)
              have HZ : Hid (_ ∧ _ ∧ _) := ⟨rr4, hB4, hs4⟩
              clear rr4 hB4 rC ho4 hs4
              go_quiet (fail)
              go_wp2
              go_roundg (l.length - (k + 1))
              case measure => omega
              case rel => exact ⟨k + 1, by omega, by go_num, HN2, HZ.out.1, below_drewN HZ.out.2.1 nq, HZ.out.2.2⟩
            · have HR : Hid (r = some (t5, L)) := HRes.out (by simp only [rsel, HEn.out, he, HSel.out.1, HSel.out.2]; rfl)
              have HZ : Hid (_ ∧ _ ∧ _ ∧ _) := ⟨rr4, hB4, rC, ho4⟩
              clear rr4 hB4 rC ho4
              go_quiet (fail)
              obtain ⟨rr4, hB4, rC, ho4⟩ := HZ.out
              have hB5 := below_drewN hB4 nq
              have rr5 : (W4.drewN nq).heap[w.heap.size]? = _ := rr4
              have rC5 : (W4.drewN nq).heap[X4]? = _ := rC
              have ho5 : (W4.drewN nq).ownsRow W2.heap.size 84 2 (.slice ua L.length uc) L.length (tcs L) := owns_next ho4 (below_drewN (Below.refl _ _) nq)
              obtain ⟨W5, hW5⟩ : ∃ W, W4.drewN nq = W := ⟨_, rfl⟩
              rw [hW5] at hB5 rr5 rC5 ho5 ⊢
              have q0 := cellB rr5 0 _ rfl
              have q1 := cellB rr5 1 _ rfl
              have q2 := cellB rr5 2 _ rfl
              have p0 := frozenB rr5 0
              have p1 := frozenB rr5 1
              have p2 := frozenB rr5 2
              have b0 := cellB rC5 0 _ rfl
              have b1 := cellB rC5 1 _ rfl
              have b2 := cellB rC5 2 _ rfl
              have HY : Hid (_ ∧ _ ∧ _) := ⟨rr5, hB5, ho5⟩
              clear hW5 HZ rr4 hB4 rC ho4 rr5 hB5 ho5 rC5 y2 c1 c2
              go_wp2
              obtain ⟨rr5, hB5, ho5⟩ := HY.out
              have hr := put3_blk rr5 (.string (bs t5)) (.int .i64 gr) (.slice ua L.length uc)
              have z1 := cellB hr 0 _ rfl
              have z2 := cellB hr 1 _ rfl
              have z3 := cellB hr 2 _ rfl
              unfold put3 at z1 z2 z3
              exact bodyPost_ret (v := .tuple #[.agg #[.string (bs t5), .int .i64 gr, .slice ua L.length uc], .bool true]) (by simp [results, Try.f16, go_sem, z1, z2, z3]) rfl (by rw [HR.out]; exact RCertRet.some (owns_base (put3_owns ho5 (by omega) (.string (bs t5)) (.int .i64 gr) (.slice ua L.length uc)) (by omega)) (put3_below hB5 (Nat.le_refl _) (.string (bs t5)) (.int .i64 gr) (.slice ua L.length uc)))
          · -- of Order, another one's
            have HN2 : Hid (NoP (rsel V f p kind) l (k + 1)) := HNs.out (by simp [rsel, hk1, hnp])
            have d1 : (k5 != kind) = false := by simp [hA]
            have d2 : (kind == 1) = true := by simp [hk1]
            have d3 : (n5 != (p : Int)) = true := by simp [hnp]
            have HZ : Hid (_ ∧ _ ∧ _) := ⟨rr1, hBa, hs1⟩
            clear hA hk1 hnp rr1 hBa hs1 rN
            go_quiet (fail)
            go_wp2
            go_roundg (l.length - (k + 1))
            case measure => omega
            case rel => exact ⟨k + 1, by omega, by go_num, HN2, HZ.out.1, below_drewN HZ.out.2.1 nq, HZ.out.2.2⟩
        · have HSel : Hid ((k5 == kind) = true ∧ (!(kind == 1) || (n5 == (p : Int))) = true) := ⟨by simp [hA], by simp [hk1]⟩
          have d1 : (k5 != kind) = false := by simp [hA]
          have d2 : (kind == 1) = false := by simp [hk1]
          obtain ⟨L, hL⟩ : ∃ L, tagsTo V (kind - 1).toNat t5 (3 * f + 1) = L := ⟨_, rfl⟩
          have HEn : Hid (enough V f (kind - 1).toNat t5 = decide (m3 ≤ (L.length : Int))) := by
            show _ = _
            unfold enough
            rw [hL, HM.out]
            by_cases h9 : 2 * f + 1 ≤ L.length
            · rw [decide_eq_true h9, decide_eq_true (by omega)]
            · rw [decide_eq_false h9, decide_eq_false (by omega)]
          have hkk : isK kind = true := by rw [← hA]; exact HKi.out
          have HG2 : Hid (∀ W, Below w.heap.size w W → Calls Try.prog 27 #[.pointer (some ⟨R, 0, none⟩), .int .i64 kind, .string (bs t5)] W fun e W' => (∃ u, e = .returned (.agg #[.string (bs t5), .int .i64 gr, u]) ∧ W'.ownsRow W.heap.size 84 2 u L.length (tcs L)) ∧ Below W.heap.size W W') := fun W hW => by
            have := HG.out W t5 hkk hW
            rw [hL] at this
            exact this
          have HRes : Hid (rsel V f p kind (k5, n5, t5, g5) = true → r = some (t5, L)) := fun hh => by
            rw [← HE.out, HNh.out hh, ← hL]; rfl
          have HNo : Hid (rsel V f p kind (k5, n5, t5, g5) = false → NoP (rsel V f p kind) l (k + 1)) := HNs.out
          have HZ : Hid (_ ∧ _ ∧ _ ∧ _) := ⟨rr1, hBa, hs1, rN⟩
          clear hA hk1 rr1 hBa hs1 rN hL hkk HNh HNs
          go_quiet (fail)
          obtain ⟨rr1, hBa, hs1, rN⟩ := HZ.out
          have hBq := below_drewN hBa nq
          have rN' : (W1.drewN nq).heap[X1]? = _ := rN
          have rr1' : (W1.drewN nq).heap[w.heap.size]? = _ := rr1
          have hs1' : w.heap.size + 1 ≤ (W1.drewN nq).heap.size := hs1
          obtain ⟨W2, hW2⟩ : ∃ W, W1.drewN nq = W := ⟨_, rfl⟩
          rw [hW2] at hBq rN' rr1' hs1' ⊢
          clear hW2 HZ rr1 hBa hs1 rN u0 u1 c1 c2
          have u2 := cellB rN' 2 _ rfl
          have hG := HG2.out _ hBq
          go_upto_region 6 with (first
            | (go_at_call 27; refine hG.mono ?_; rintro e w3 ⟨⟨u3, rfl, ho3⟩, hb3⟩; obtain ⟨ua, uc, hu⟩ := owns_slice ho3; subst hu))
          have hba3 := (Below.refl w3.heap.size w3).alloc (Nat.le_refl _) (.cells #[.string (bs t5), .int .i64 gr, .slice ua L.length uc] 54)
          have hb4 := hb3.trans (hba3.mono hb3.size)
          have rC := heap_alloc_new w3 (.cells #[.string (bs t5), .int .i64 gr, .slice ua L.length uc] 54)
          have ho4 := owns_next ho3 hba3
          have hB4 := hBq.trans (hb4.mono hBq.size)
          have rr4 := (hb4.block _ (by omega)).trans rr1'
          have hs4 := Nat.le_trans hs1' hb4.size
          obtain ⟨W4, hW4⟩ : ∃ W, w3.alloc (.cells #[.string (bs t5), .int .i64 gr, .slice ua L.length uc] 54) = W := ⟨_, rfl⟩
          obtain ⟨X4, hX4⟩ : ∃ X, w3.heap.size = X := ⟨_, rfl⟩
          rw [hW4] at rC ho4 hB4 rr4 hs4 ⊢
          rw [hX4] at rC ⊢
          obtain ⟨c1, c2⟩ := HK.out _ hB4
          have y2 := cellB rC 2 _ rfl
          clear hW4 hX4 hba3 hb4 hb3 ho3 hG HG2 hBq rN' rr1' u2
          cases he : decide (m3 ≤ (L.length : Int))
          · have HN2 : Hid (NoP (rsel V f p kind) l (k + 1)) := HNo.out (by simp only [rsel, HEn.out, he]; simp)
            have HZ : Hid (_ ∧ _ ∧ _) := ⟨rr4, hB4, hs4⟩
            clear rr4 hB4 rC ho4 hs4
            go_quiet (fail)
            go_wp2
            go_roundg (l.length - (k + 1))
            case measure => omega
            case rel => exact ⟨k + 1, by omega, by go_num, HN2, HZ.out.1, below_drewN HZ.out.2.1 nq, HZ.out.2.2⟩
          · have HR : Hid (r = some (t5, L)) := HRes.out (by simp only [rsel, HEn.out, he, HSel.out.1, HSel.out.2]; rfl)
            have HZ : Hid (_ ∧ _ ∧ _ ∧ _) := ⟨rr4, hB4, rC, ho4⟩
            clear rr4 hB4 rC ho4
            go_quiet (fail)
            obtain ⟨rr4, hB4, rC, ho4⟩ := HZ.out
            have hB5 := below_drewN hB4 nq
            have rr5 : (W4.drewN nq).heap[w.heap.size]? = _ := rr4
            have rC5 : (W4.drewN nq).heap[X4]? = _ := rC
            have ho5 : (W4.drewN nq).ownsRow W2.heap.size 84 2 (.slice ua L.length uc) L.length (tcs L) := owns_next ho4 (below_drewN (Below.refl _ _) nq)
            obtain ⟨W5, hW5⟩ : ∃ W, W4.drewN nq = W := ⟨_, rfl⟩
            rw [hW5] at hB5 rr5 rC5 ho5 ⊢
            have q0 := cellB rr5 0 _ rfl
            have q1 := cellB rr5 1 _ rfl
            have q2 := cellB rr5 2 _ rfl
            have p0 := frozenB rr5 0
            have p1 := frozenB rr5 1
            have p2 := frozenB rr5 2
            have b0 := cellB rC5 0 _ rfl
            have b1 := cellB rC5 1 _ rfl
            have b2 := cellB rC5 2 _ rfl
            have HY : Hid (_ ∧ _ ∧ _) := ⟨rr5, hB5, ho5⟩
            clear hW5 HZ rr4 hB4 rC ho4 rr5 hB5 ho5 rC5 y2 c1 c2
            go_wp2
            obtain ⟨rr5, hB5, ho5⟩ := HY.out
            have hr := put3_blk rr5 (.string (bs t5)) (.int .i64 gr) (.slice ua L.length uc)
            have z1 := cellB hr 0 _ rfl
            have z2 := cellB hr 1 _ rfl
            have z3 := cellB hr 2 _ rfl
            unfold put3 at z1 z2 z3
            exact bodyPost_ret (v := .tuple #[.agg #[.string (bs t5), .int .i64 gr, .slice ua L.length uc], .bool true]) (by simp [results, Try.f16, go_sem, z1, z2, z3]) rfl (by rw [HR.out]; exact RCertRet.some (owns_base (put3_owns ho5 (by omega) (.string (bs t5)) (.int .i64 gr) (.slice ua L.length uc)) (by omega)) (put3_below hB5 (Nat.le_refl _) (.string (bs t5)) (.int .i64 gr) (.slice ua L.length uc)))
      · have HN2 : Hid (NoP (rsel V f p kind) l (k + 1)) := HNs.out (by simp [rsel, hA])
        have d1 : (k5 != kind) = true := by simp [hA]
        have HZ : Hid (_ ∧ _ ∧ _) := ⟨rr1, hBa, hs1⟩
        clear hA rr1 hBa hs1 rN
        go_quiet (fail)
        go_wp2
        go_roundg (l.length - (k + 1))
        case measure => omega
        case rel => exact ⟨k + 1, by omega, by go_num, HN2, HZ.out.1, below_drewN HZ.out.2.1 nq, HZ.out.2.2⟩
    · have hkl : k = l.length := by omega
      subst hkl
      have HR : Hid (r = none) := by show _ = _; rw [← HE.out, NoP.none HN.out]; rfl
      have q0 := cellB rr 0 _ rfl
      have q1 := cellB rr 1 _ rfl
      have q2 := cellB rr 2 _ rfl
      have p0 := frozenB rr 0
      have p1 := frozenB rr 1
      have p2 := frozenB rr 2
      have HX : Hid (_ ∧ _) := ⟨rr, hB⟩
      clear rr hB
      go_wp2
      obtain ⟨rr, hB⟩ := HX.out
      have hr := put3_blk rr (.string ⟨#[]⟩) (.int .i64 0) (.slice none 0 0)
      have z1 := cellB hr 0 _ rfl
      have z2 := cellB hr 1 _ rfl
      have z3 := cellB hr 2 _ rfl
      unfold put3 at z1 z2 z3
      exact bodyPost_ret (v := .tuple #[.agg #[.string ⟨#[]⟩, .int .i64 0, .slice none 0 0], .bool false]) (by simp [results, Try.f16, go_sem, z1, z2, z3]) rfl (by rw [HR.out]; exact RCertRet.none (put3_below hB (Nat.le_refl _) (.string ⟨#[]⟩) (.int .i64 0) (.slice none 0 0)))
end Go.Proofs.Ytoehmpcfmpkbnaa
