/- What the plain text of a certificate's check answers: the same. -/
import Derived.Test.YtoniohmceaflnabDoorCkC
import Derived.Test.YtoniohmceaflnabDoorCtE
namespace Go.Proofs.YtoniohmceaflnabDoor
open Go.RowKit
attribute [local go_sem ↓] Go.wp_at_zero Go.wp_at_succ

theorem last_top {l : List Tg} (h : l.Pairwise (fun a b => a.1 < b.1)) {t : Tg} (ht : t ∈ l) : t.1 ≤ lastNo l := by
  obtain ⟨i, hi, rfl⟩ := List.getElem_of_mem ht
  obtain ⟨m, hm⟩ : ∃ m, l.length = m + 1 := ⟨l.length - 1, by omega⟩
  obtain ⟨u, h1, h2⟩ := last_at hm
  rw [h2]
  rw [List.getElem?_eq_getElem (by omega)] at h1
  injection h1 with h1
  rw [← h1]
  by_cases e : i = m
  · subst e; exact Int.le_refl _
  · exact Int.le_of_lt (List.pairwise_iff_getElem.1 h i m hi (by omega) (by omega))
theorem last_low {l : List Tg} {n : Int} (hn : 1 ≤ n) (h : ∀ t ∈ l, t.1 < n) : ¬ n ≤ lastNo l := by
  rcases Nat.eq_zero_or_pos l.length with h0 | h0
  · rw [List.length_eq_zero_iff.1 h0, last_nil]; omega
  · obtain ⟨m, hm⟩ : ∃ m, l.length = m + 1 := ⟨l.length - 1, by omega⟩
    obtain ⟨u, h1, h2⟩ := last_at hm
    rw [h2]
    have := h u (List.mem_of_getElem? h1)
    omega
theorem check_30 (seed : List UInt8) (g n : Int) (x t : List UInt8) (hp : isP g n) : checkE (some seed) g n x t = 0 ∨ checkE (some seed) g n x t = 30 := by
  have e1 : tagErr (some seed) g n = 0 := by simp [tagErr, hp]
  rw [checkE, if_neg (fun h => h e1)]
  split
  · exact .inl rfl
  · exact .inr rfl

set_option maxRecDepth 20000 in
set_option maxHeartbeats 4000000 in
theorem rCheck4_any (seed x : List UInt8) (g : Int) (l : List Tg) (v : Value) (n need : Int) (w : World) (hs : seed.length ≤ 32) (hx : x.length ≤ 140737488351232) (hll : l.length ≤ 140737488355328) (hv : Tl w v l) :
    Calls Tryd.prog 15 #[.string (bs seed), .agg #[.string (bs x), .int .i64 g, v], .int .i64 n, .int .i64 need] w fun e W' => e = .returned (.int .i64 (certE (some seed) x g l n need)) ∧ Below w.heap.size w W' := by
  obtain ⟨va, vc, rfl⟩ := hv.slice
  have hb1 : Below w.heap.size w (w.alloc (.cells #[.string (bs x), .int .i64 g, .slice va l.length vc] 36)) := (Below.refl _ w).alloc (Nat.le_refl _) _
  by_cases hbad : badN n need = true
  · rw [certE, if_pos hbad]
    have hcase : n < 1 ∨ 1 ≤ n ∧ (16 < n ∨ n ≤ 16 ∧ (need < 1 ∨ 1 ≤ need ∧ n < need)) := by
      simp only [badN, Bool.or_eq_true, decide_eq_true_eq] at hbad
      omega
    clear hbad
    go_enter Tryd.func15, Tryd.ntmps15
    rcases hcase with h1 | ⟨h1, h2 | ⟨h2, h3 | ⟨h3, h4⟩⟩⟩
    all_goals
      go_wp2
      go_ret
      exact ⟨rfl, hb1⟩
  · have hok : 1 ≤ n ∧ n ≤ 16 ∧ 1 ≤ need ∧ need ≤ n := by
      simp only [badN, Bool.or_eq_true, decide_eq_true_eq] at hbad
      omega
    rw [certE, if_neg hbad]
    clear hbad
    obtain ⟨n1, n2, n3, n4⟩ := hok
    have p0 : (w.alloc (.cells #[.string (bs x), .int .i64 g, .slice va l.length vc] 36)).heap[w.heap.size]? = some (.cells #[.string (bs x), .int .i64 g, .slice va l.length vc] 36) := heap_alloc_new _ _
    have hlp : w.heap.size < (w.alloc (.cells #[.string (bs x), .int .i64 g, .slice va l.length vc] 36)).heap.size := by simp
    have hF := form_any (bs x) g l (.slice va l.length vc) (w.alloc (.cells #[.string (bs x), .int .i64 g, .slice va l.length vc] 36)) hll (hv.below hb1 (Nat.le_refl _))
    by_cases hf0 : faultL g l = 0
    · rw [if_neg (fun h => h hf0)]
      rw [hf0] at hF
      obtain ⟨g1, g2, hl16, hmem⟩ := fault_zero hf0
      have hsort : l.Pairwise (fun a b => a.1 < b.1) := by
        have h := hf0
        rw [faultL, if_neg (by omega)] at h
        exact (tags_sorted h).2
      obtain ⟨R, hR⟩ : ∃ R : Int, (if n ≤ lastNo l then 41 else if ckL (some seed) g x l ≠ 0 then ckL (some seed) g x l else if (l.length : Int) < need then 40 else 0) = R := ⟨_, rfl⟩
      rw [hR]
      have HR : Hid ((if n ≤ lastNo l then 41 else if ckL (some seed) g x l ≠ 0 then ckL (some seed) g x l else if (l.length : Int) < need then 40 else 0) = R) := hR
      have HM : Hid ((∀ t ∈ l, 0 ≤ t.1 ∧ t.1 < 16 ∧ t.2.length = 16) ∧ l.Pairwise (fun a b => a.1 < b.1)) := ⟨hmem, hsort⟩
      clear hR hf0 hmem hsort
      go_enter Tryd.func15, Tryd.ntmps15
      go_wp2_with fail
      refine hF.mono ?_
      clear hF
      rintro e w1 ⟨rfl, hb2⟩
      have hB1 := hb1.trans (hb2.mono hb1.size)
      have p1 := (hb2.block w.heap.size hlp).trans p0
      have x2 := cellB p1 2 (.slice va l.length vc) rfl
      clear hb2 p0 hb1 hlp
      go_wp2
      go_loopw [37] (fun i wr => ∃ (k : Nat), i = .int .i64 k ∧ k ≤ l.length ∧ Hid (∀ t ∈ l.take k, t.1 < n) ∧ wr.heap[w.heap.size]? = some (.cells #[.string (bs x), .int .i64 g, .slice va l.length vc] 36) ∧ Below w.heap.size w wr)
        (fun i _ => l.length - (intOf i).toNat)
      case atStart => exact ⟨0, rfl, Nat.zero_le _, (fun t ht => by simp at ht), p1, hB1⟩
      case round =>
        obtain ⟨k, rfl, hk, hlow, p2, hB2⟩ := hrel
        clear p1 hB1 x2
        have y0 := cellB p2 0 (.string (bs x)) rfl
        have y1 := cellB p2 1 (.int .i64 g) rfl
        have y2 := cellB p2 2 (.slice va l.length vc) rfl
        have hl2 : w.heap.size < wr.heap.size := (Array.getElem?_eq_some_iff.1 p2).1
        by_cases hk1 : k = l.length
        · subst hk1
          have hno := last_low n1 (by have h := hlow.out; rw [List.take_length] at h; exact h)
          have HR2 : Hid ((if ckL (some seed) g x (l.drop 0) ≠ 0 then ckL (some seed) g x (l.drop 0) else if (l.length : Int) < need then 40 else 0) = R) := by have h := HR.out; rw [if_neg hno] at h; rw [List.drop_zero]; exact h
          clear hno HR hlow
          go_wp2
          go_loopw [49] (fun i wr2 => ∃ (k : Nat), i = .int .i64 k ∧ k ≤ l.length ∧ Hid ((if ckL (some seed) g x (l.drop k) ≠ 0 then ckL (some seed) g x (l.drop k) else if (l.length : Int) < need then 40 else 0) = R) ∧ wr2.heap[w.heap.size]? = some (.cells #[.string (bs x), .int .i64 g, .slice va l.length vc] 36) ∧ Below w.heap.size w wr2)
            (fun i _ => l.length - (intOf i).toNat)
          case atStart => exact ⟨0, rfl, Nat.zero_le _, HR2, p2, hB2⟩
          case round =>
            obtain ⟨k, rfl, hk, HR3, p3, hB3⟩ := hrel
            clear p2 hB2 y0 y1 y2 HR2 hl2
            have z0 := cellB p3 0 (.string (bs x)) rfl
            have z1 := cellB p3 1 (.int .i64 g) rfl
            have z2 := cellB p3 2 (.slice va l.length vc) rfl
            have hl3 : w.heap.size < wr.heap.size := (Array.getElem?_eq_some_iff.1 p3).1
            by_cases hk1 : k = l.length
            · subst hk1
              have HR4 : Hid ((if (l.length : Int) < need then 40 else 0) = R) := by have h := HR3.out; rw [List.drop_length, ckL, if_neg (fun h => h rfl)] at h; exact h
              clear HR3
              by_cases hn : (l.length : Int) < need
              · have HZ : Hid (R = 40) := by show R = 40; rw [← HR4.out, if_pos hn]
                clear HR4
                go_wp2
                go_ret
                rw [HZ.out]
                exact ⟨rfl, hB3⟩
              · have HZ : Hid (R = 0) := by show R = 0; rw [← HR4.out, if_neg hn]
                clear HR4
                go_wp2
                go_ret
                rw [HZ.out]
                exact ⟨rfl, hB3⟩
            · have hk2 : k < l.length := by omega
              obtain ⟨t, ht⟩ : ∃ t, l[k]? = some t := ⟨_, List.getElem?_eq_getElem hk2⟩
              have hd : l.drop k = t :: l.drop (k + 1) := by
                rw [List.drop_eq_getElem_cons hk2]; congr 1; rw [List.getElem?_eq_getElem hk2] at ht; injection ht
              have hmt := HM.out.1 t (List.mem_of_getElem? ht)
              rcases hv.below hB3 (Nat.le_refl _) with ⟨rfl, _⟩ | ⟨vb, vo, vcap, hve, hvl, hvc⟩
              · cases ht
              injection hve with hva _ hvcap
              subst hva hvcap
              obtain ⟨hc1, hc2⟩ := hvc k t ht
              obtain ⟨no, s⟩ := t
              have hp : isP g no := ⟨by omega, by omega, hmt.1, by have := hmt.2.1; simp only at this; omega⟩
              have hC30 := check_30 seed g no x s hp
              have hC := fun W => rCheck_any seed g no x s W hs hx
              obtain ⟨C, hC2⟩ : ∃ C, checkE (some seed) g no x s = C := ⟨_, rfl⟩
              have h := HR3.out
              rw [hd, ckL, hC2] at h
              rw [hC2] at hC30 hC
              have HR5 : Hid ((if (if C = 0 then ckL (some seed) g x (l.drop (k + 1)) else C) ≠ 0 then (if C = 0 then ckL (some seed) g x (l.drop (k + 1)) else C) else if (l.length : Int) < need then 40 else 0) = R) := h
              clear HR3 h hd ht hvc hC2 hp hmt
              have hba : Below wr.heap.size wr (wr.alloc (.cells #[.int .i64 no, .string (bs s)] 63)) := (Below.refl _ _).alloc (Nat.le_refl _) _
              have hBa := hB3.trans (hba.mono hB3.size)
              have pa := (hba.block w.heap.size hl3).trans p3
              have hla := Nat.lt_of_lt_of_le hl3 hba.size
              rcases hC30 with rfl | rfl
              · have HR6 : Hid ((if ckL (some seed) g x (l.drop (k + 1)) ≠ 0 then ckL (some seed) g x (l.drop (k + 1)) else if (l.length : Int) < need then 40 else 0) = R) := by have h := HR5.out; rw [if_pos rfl] at h; exact h
                clear HR5
                go_wp2_with (go_at_call 26; refine (hC _).mono ?_; rintro e w4 ⟨rfl, hb4⟩; have hB4 := hBa.trans (hb4.mono hBa.size); have p4 := (hb4.block w.heap.size hla).trans pa)
                go_roundw
                case rel => exact ⟨k + 1, by go_num, hk2, HR6, p4, hB4⟩
                case measure => simp [intOf]; omega
              · have HZ : Hid (R = 30) := by show R = 30; rw [← HR5.out]; rfl
                clear HR5
                go_wp2_with (go_at_call 26; refine (hC _).mono ?_; rintro e w4 ⟨rfl, hb4⟩; have hB4 := hBa.trans (hb4.mono hBa.size))
                go_ret
                rw [HZ.out]
                exact ⟨rfl, hB4⟩
        · have hk2 : k < l.length := by omega
          obtain ⟨t, ht⟩ : ∃ t, l[k]? = some t := ⟨_, List.getElem?_eq_getElem hk2⟩
          have htk : l.take (k + 1) = l.take k ++ [t] := by
            rw [List.take_succ_eq_append_getElem hk2]; congr 2; rw [List.getElem?_eq_getElem hk2] at ht; injection ht
          have htop := last_top HM.out.2 (List.mem_of_getElem? ht)
          rcases hv.below hB2 (Nat.le_refl _) with ⟨rfl, _⟩ | ⟨vb, vo, vcap, hve, hvl, hvc⟩
          · cases ht
          injection hve with hva _ hvcap
          subst hva hvcap
          obtain ⟨hc1, hc2⟩ := hvc k t ht
          obtain ⟨no, s⟩ := t
          simp only at htop
          have hba : Below wr.heap.size wr (wr.alloc (.cells #[.int .i64 no, .string (bs s)] 63)) := (Below.refl _ _).alloc (Nat.le_refl _) _
          have hBa := hB2.trans (hba.mono hB2.size)
          have pa := (hba.block w.heap.size hl2).trans p2
          by_cases hno : n ≤ no
          · have HZ : Hid (R = 41) := by show R = 41; rw [← HR.out, if_pos (by omega)]
            clear HR htop htk ht hvc
            go_wp2
            go_ret
            rw [HZ.out]
            exact ⟨rfl, hBa⟩
          · have HL : Hid (∀ t ∈ l.take (k + 1), t.1 < n) := by
              show ∀ t ∈ l.take (k + 1), t.1 < n
              intro t h
              rw [htk] at h
              rcases List.mem_append.1 h with h | h
              · exact hlow.out t h
              · rw [List.mem_singleton.1 h]; exact Int.not_le.1 hno
            clear hlow htop htk ht hvc
            go_wp2
            go_roundw
            case rel => exact ⟨k + 1, by go_num, hk2, HL, pa, hBa⟩
            case measure => simp [intOf]; omega
    · rw [if_pos hf0]
      have hq : (faultL g l != 0) = true := by simpa using hf0
      obtain ⟨F, hF2⟩ : ∃ F, faultL g l = F := ⟨_, rfl⟩
      rw [hF2] at hF hq ⊢
      clear hF2 hf0
      go_enter Tryd.func15, Tryd.ntmps15
      go_wp2_with fail
      refine hF.mono ?_
      clear hF
      rintro e w1 ⟨rfl, hb2⟩
      go_wp2
      go_ret
      exact ⟨rfl, hb1.trans (hb2.mono hb1.size)⟩
end Go.Proofs.YtoniohmceaflnabDoor
