/- The slot's Cert of the kind Settle, walked. -/
import Derived.Test.YtoehmpcfmpkbnaaSoI
namespace Go.Proofs.Ytoehmpcfmpkbnaa
open Go.RowKit
attribute [local go_sem ↓] Go.wp_at_zero Go.wp_at_succ

theorem firstE_hit {V : Vs} {f j : Nat} {t : List UInt8} (h0 : firstE V f j = none) (ht : (V 1 j).1 = t) (he : enough V f 1 t = true) : ∀ n, j < n → firstE V f n = some t := by
  intro n hn
  induction n with
  | zero => omega
  | succ n ih =>
    by_cases e : j = n
    · subst e
      simp only [firstE, h0, ht, he, if_true]
    · simp only [firstE, ih (by omega)]
theorem firstE_miss {V : Vs} {f j : Nat} {t : List UInt8} (h0 : firstE V f j = none) (ht : (V 1 j).1 = t) (he : enough V f 1 t = false) : firstE V f (j + 1) = none := by
  simp only [firstE, h0, ht, he]; rfl
set_option maxRecDepth 20000 in
set_option maxHeartbeats 4000000 in
theorem Cert_2 {w : World} {B : Nat} {gr : Int} {f p : Nat} {V : Vs} (h : SlotAt w B gr f p V) : Calls Try.prog 15 #[.pointer (some ⟨B, 0, none⟩), .int .i64 2] w (CertRet gr (certR V f p 2) w) := by
  have hba : Below w.heap.size w (w.alloc (.cells #[.string ⟨#[]⟩, .int .i64 0, .slice none 0 0] 49)) := (Below.refl _ w).alloc (Nat.le_refl _) _
  have rR := heap_alloc_new w (.cells #[.string ⟨#[]⟩, .int .i64 0, .slice none 0 0] 49)
  have hT := told_any (h.on hba) (k := 1) (by decide)
  have f3 := h.f3
  have HN : Hid (∀ (t : List UInt8), enough V f 1 t = false → ∀ W, Below w.heap.size w W → _) := fun t he W hW => certOf_no (h.on hW) (k := 1) (by decide) t he
  have HY : Hid (∀ (t : List UInt8), enough V f 1 t = true → ∀ W, Below w.heap.size w W → _) := fun t he W hW => certOf_yes (h.on hW) (k := 1) (by decide) t he
  obtain ⟨r, hr⟩ : ∃ r, certR V f p 2 = r := ⟨_, rfl⟩
  have HE : Hid (certR V f p 2 = r) := hr
  rw [hr]
  unfold certR at HE
  rw [if_neg (by decide), if_pos rfl] at HE
  obtain ⟨n, hn⟩ : ∃ n, 3 * f + 1 = n := ⟨_, rfl⟩
  have n10 : n ≤ 10 := by omega
  rw [hn] at hT HE HY
  have HC : Hid (∀ (W : World) (i : Nat), Below w.heap.size w W → i < n → W.cell? ⟨B, 3 + 1 * 20 + i * 2, none⟩ = some (.string (bs (V 1 i).1)) ∧ W.cell? ⟨B, 3 + 1 * 20 + i * 2 + 1, none⟩ = some (.string (bs (V 1 i).2))) := fun W i hW hi => ⟨((h.on hW).cv (k := 1) (by decide) (by omega)).1, ((h.on hW).cv (k := 1) (by decide) (by omega)).2.1⟩
  obtain ⟨o, ho⟩ : ∃ o, 3 + 1 * 20 = o := ⟨_, rfl⟩
  rw [ho] at hT HC
  have HX : Hid (_ ∧ _) := ⟨hba, rR⟩
  clear h hr hn hba rR ho
  go_enter Try.func15, Try.ntmps15
  go_wp2_with (first | (go_at_call 25; refine hT.mono ?_; rintro e w1 ⟨rfl, hb1⟩))
  obtain ⟨hba, rR⟩ := HX.out
  have r1 := (hb1.block _ (Array.getElem?_eq_some_iff.1 rR).1).trans rR
  have hB1 := hba.trans (hb1.mono hba.size)
  have hs1 : w.heap.size + 1 ≤ w1.heap.size := by have := hb1.size; simpa using this
  clear HX hba rR hb1 hT
  go_loopg [32] n (fun gk i wr => ∃ j : Nat, j + gk = n ∧ i = .int .i64 j ∧ Hid (firstE V f j = none) ∧ wr.heap[w.heap.size]? = some (.cells #[.string ⟨#[]⟩, .int .i64 0, .slice none 0 0] 49) ∧ Below w.heap.size w wr ∧ w.heap.size + 1 ≤ wr.heap.size)
  case atStart => exact ⟨0, by omega, rfl, rfl, r1, hB1, hs1⟩
  case round =>
    clear r1 hB1 hs1
    obtain ⟨j, hj, rfl, HF, rr, hB, hs⟩ := hrel
    by_cases hlt : j < n
    · obtain ⟨x0, x1⟩ := HC.out _ j hB hlt
      have m0 : (0 : Int) ≤ (j : Int) := by omega
      have m1 : (j : Int) < (n : Int) := by omega
      have m2 : (j : Int) ≤ 10 := by omega
      obtain ⟨⟨vt, vg⟩, hV⟩ : ∃ v, V 1 j = v := ⟨_, rfl⟩
      rw [hV] at x0 x1
      simp only at x0 x1
      have HV : Hid ((V 1 j).1 = vt) := by show _ = _; rw [hV]
      have hba := (Below.refl wr.heap.size wr).alloc (Nat.le_refl _) (.cells #[.string (bs vt), .string (bs vg)] 73)
      have rN := heap_alloc_new wr (.cells #[.string (bs vt), .string (bs vg)] 73)
      have hBa := hB.trans (hba.mono hB.size)
      have rr1 := (hba.block _ (Array.getElem?_eq_some_iff.1 rr).1).trans rr
      have hsa := Nat.le_trans hs hba.size
      clear hV
      cases he : enough V f 1 vt
      · have hC := HN.out vt he _ hBa
        have HF2 : Hid (firstE V f (j + 1) = none) := firstE_miss HF.out HV.out he
        have HX : Hid (_ ∧ _ ∧ _) := ⟨hBa, rr1, hsa⟩
        clear he hBa rr1 hba hB rr rN hsa
        go_wp2_with (first | (go_at_call 26; refine hC.mono ?_; rintro e w2 ⟨rfl, hb2⟩))
        go_roundg (n - (j + 1))
        case measure => omega
        case rel =>
          obtain ⟨hBa, rr1, hsa⟩ := HX.out
          have r2 := (hb2.block _ (Array.getElem?_eq_some_iff.1 rr1).1).trans rr1
          have hB2 := hBa.trans (hb2.mono hBa.size)
          have hb3 := (Below.refl w2.heap.size w2).alloc (Nat.le_refl _) (.cells #[.string ⟨#[]⟩, .int .i64 0, .slice none 0 0] 49)
          have hs3 := Nat.le_trans hsa hb2.size
          exact ⟨j + 1, by omega, by go_num, HF2, (hb3.block _ (Array.getElem?_eq_some_iff.1 r2).1).trans r2, hB2.trans (hb3.mono hB2.size), Nat.le_trans hs3 hb3.size⟩
      · have hC := HY.out vt he _ hBa
        have HR : Hid (r = some (vt, tagsTo V 1 vt n)) := by show _ = _; rw [← HE.out, firstE_hit HF.out HV.out he n hlt]; rfl
        obtain ⟨L, hL⟩ : ∃ L, tagsTo V 1 vt n = L := ⟨_, rfl⟩
        rw [hL] at HR hC
        have HX : Hid (_ ∧ _ ∧ _) := ⟨hBa, rr1, hsa⟩
        clear he hBa rr1 hba hB rr rN hL hsa
        go_upto_region 11 with (first | (go_at_call 26; refine hC.mono ?_; rintro e w2 ⟨⟨v, rfl, ho⟩, hb2⟩; obtain ⟨ua, uc, hu⟩ := owns_slice ho; subst hu))
        obtain ⟨hBa, rr1, hsa⟩ := HX.out
        have r2 := (hb2.block _ (Array.getElem?_eq_some_iff.1 rr1).1).trans rr1
        have hB2 := hBa.trans (hb2.mono hBa.size)
        have hb3 := (Below.refl w2.heap.size w2).alloc (Nat.le_refl _) (.cells #[.string (bs vt), .int .i64 gr, .slice ua L.length uc] 49)
        have r3 := (hb3.block _ (Array.getElem?_eq_some_iff.1 r2).1).trans r2
        have hB3 := hB2.trans (hb3.mono hB2.size)
        have ho3 := owns_next ho hb3
        have rN3 := heap_alloc_new w2 (.cells #[.string (bs vt), .int .i64 gr, .slice ua L.length uc] 49)
        obtain ⟨W3, hW3⟩ : ∃ W, w2.alloc (.cells #[.string (bs vt), .int .i64 gr, .slice ua L.length uc] 49) = W := ⟨_, rfl⟩
        rw [hW3] at r3 hB3 ho3 rN3 ⊢
        have q0 := cellB r3 0 _ rfl
        have q1 := cellB r3 1 _ rfl
        have q2 := cellB r3 2 _ rfl
        have p0 := frozenB r3 0
        have p1 := frozenB r3 1
        have p2 := frozenB r3 2
        have u0 := cellB rN3 0 _ rfl
        have u1 := cellB rN3 1 _ rfl
        have u2 := cellB rN3 2 _ rfl
        have HZ : Hid (_ ∧ _ ∧ _) := ⟨r3, hB3, ho3⟩
        clear hW3 hBa rr1 r2 hB2 hb3 r3 hB3 ho3 rN3 hC HX hb2 ho
        go_wp2
        obtain ⟨r3, hB3, ho3⟩ := HZ.out
        have hr := put3_blk r3 (.string (bs vt)) (.int .i64 gr) (.slice ua L.length uc)
        have z1 := cellB hr 0 _ rfl
        have z2 := cellB hr 1 _ rfl
        have z3 := cellB hr 2 _ rfl
        unfold put3 at z1 z2 z3
        exact bodyPost_ret (v := .tuple #[.agg #[.string (bs vt), .int .i64 gr, .slice ua L.length uc], .bool true]) (by simp [results, Try.f15, go_sem, z1, z2, z3]) rfl (by rw [HR.out]; exact CertRet.some (owns_base (put3_owns ho3 (by omega) (.string (bs vt)) (.int .i64 gr) (.slice ua L.length uc)) (by omega)) (put3_below hB3 (Nat.le_refl _) (.string (bs vt)) (.int .i64 gr) (.slice ua L.length uc)))
    · have hjn : j = n := by omega
      subst hjn
      have HR : Hid (r = none) := by show _ = _; rw [← HE.out, HF.out]; rfl
      have q0 := cellB rr 0 _ rfl
      have q1 := cellB rr 1 _ rfl
      have q2 := cellB rr 2 _ rfl
      have p0 := frozenB rr 0
      have p1 := frozenB rr 1
      have p2 := frozenB rr 2
      have HX : Hid (_ ∧ _) := ⟨rr, hB⟩
      clear rr hB
      go_wp2
      obtain ⟨rr, hB⟩ := HX.out
      have hr := put3_blk rr (.string ⟨#[]⟩) (.int .i64 0) (.slice none 0 0)
      have z1 := cellB hr 0 _ rfl
      have z2 := cellB hr 1 _ rfl
      have z3 := cellB hr 2 _ rfl
      unfold put3 at z1 z2 z3
      exact bodyPost_ret (v := .tuple #[.agg #[.string ⟨#[]⟩, .int .i64 0, .slice none 0 0], .bool false]) (by simp [results, Try.f15, go_sem, z1, z2, z3]) rfl (by rw [HR.out]; exact CertRet.none (put3_below hB (Nat.le_refl _) (.string ⟨#[]⟩) (.int .i64 0) (.slice none 0 0)))
theorem Cert_any {w : World} {B : Nat} {gr : Int} {f p : Nat} {V : Vs} (h : SlotAt w B gr f p V) (kind : Int) : Calls Try.prog 15 #[.pointer (some ⟨B, 0, none⟩), .int .i64 kind] w (CertRet gr (certR V f p kind) w) := by
  cases hk : isK kind
  · have hc : certR V f p kind = none := by unfold certR; rw [if_neg (isK_f hk).1, if_neg (isK_f hk).2]
    rw [hc]
    refine (Cert_no B hk w).mono ?_
    rintro e W' ⟨rfl, hb⟩
    exact CertRet.none hb
  · simp [isK] at hk
    rcases hk with rfl | rfl
    · exact Cert_1 h
    · exact Cert_2 h
end Go.Proofs.Ytoehmpcfmpkbnaa
