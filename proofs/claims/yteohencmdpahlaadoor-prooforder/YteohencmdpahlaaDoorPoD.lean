/- The law ProofOrder, walked. -/
import Derived.Test.YteohencmdpahlaaDoorPoB
import Derived.Test.YteohencmdpahlaaDoorPrT
import Derived.WalkSpells
namespace Go.Proofs.YteohencmdpahlaaDoor
open Go.RowKit Go.Maps
attribute [local go_sem ↓] Go.wp_at_zero Go.wp_at_succ

theorem Tryd.info51 : (Tryd.prog.info? 51).map (fun i => (i.zero, i.size, i.bytes)) = some (some (.agg #[.int .i64 0, .string ⟨#[]⟩, .string ⟨#[]⟩, .string ⟨#[]⟩]), 4, 56) := by kernel_rfl
theorem own_ne {own : Option Nat} {ga D sz n ca : Nat} (h : own = some ga ∨ ga = sz) (hne : ∀ q, own = some q → q ≠ D) (hD : D < sz) : ∀ q, (Value.slice (some ⟨ga, 0, none⟩) n ca).ownBlock = some q → q ≠ D := fun q hq => by
  have hq' : ga = q := by simpa [Value.ownBlock] using hq
  subst hq'
  rcases h with h | h
  · exact hne _ h
  · omega
set_option maxRecDepth 20000 in
set_option maxHeartbeats 4000000 in
theorem order_any (calls : List Cl) (pts : List Pt) (vc vp : Value) (w : World) (hc : SlF ccs 10 w vc calls) (hp : SlF pks 5 w vp pts) (wc : ∀ c ∈ calls, wfK (ck c)) (wp : ∀ p ∈ pts, wfK (pk2 p)) (he : EnvK w) : Calls Tryd.prog 5 #[vc, vp] w fun e W' => e = .returned (.bool true) ∧ Below w.heap.size w W' := by
  obtain ⟨va, vcap, rfl⟩ := hc.slice
  obtain ⟨pa, pcap, rfl⟩ := hp.slice
  by_cases hl1 : 100 < calls.length
  · have d1 : (100 : Int) < (calls.length : Int) := by omega
    have hR := reads_any w he
    clear hl1 hc hp wc wp he
    go_enter Tryd.func5, Tryd.ntmps5
    go_wp2_with (go_at_call 7; refine hR.mono ?_; clear hR; rintro e w1 ⟨rfl, hb1⟩)
    go_ret
    exact ⟨rfl, hb1⟩
  have d1 : ¬ (100 : Int) < (calls.length : Int) := by omega
  by_cases hl2 : 100 < pts.length
  · have d2 : (100 : Int) < (pts.length : Int) := by omega
    have hR := reads_any w he
    clear hl1 hl2 hc hp wc wp he
    go_enter Tryd.func5, Tryd.ntmps5
    go_wp2_with (go_at_call 7; refine hR.mono ?_; clear hR; rintro e w1 ⟨rfl, hb1⟩)
    go_ret
    exact ⟨rfl, hb1⟩
  have d2 : ¬ (100 : Int) < (pts.length : Int) := by omega
  obtain ⟨N, hN⟩ : ∃ N, w.heap.size = N := ⟨_, rfl⟩
  have hsN := he.size
  have HS : Hid (∀ W, Below N w W → Calls Tryd.prog 7 #[] W fun e W' => e = .returned (.bool true) ∧ Below N w W') := fun W hW => (reads_any W (he.below hW (by omega))).mono fun e W' hh => ⟨hh.1, hW.trans (hh.2.mono (by have := hW.size; omega))⟩
  have HE : Hid (∀ W, Below N w W → EnvK W) := fun W hW => he.below hW (by omega)
  have HV : Hid (∀ W, Below N w W → SlF ccs 10 W (.slice va calls.length vcap) calls) := fun W hW => hc.on hW (by omega)
  have HU : Hid (∀ W, Below N w W → SlF pks 5 W (.slice pa pts.length pcap) pts) := fun W hW => hp.on hW (by omega)
  have HAt : Hid (∀ c W, Below N w W → Calls Tryd.prog 16 #[clV c, .slice pa pts.length pcap] W fun e W' => e = .returned (.int .i64 (atP pts c)) ∧ Below W.heap.size W W') := fun c W hW => pAt_any c pts _ W (hp.on hW (by omega)) (by omega)
  have hC8 : Calls Tryd.prog 8 #[.slice va calls.length vcap, .slice pa pts.length pcap] w (fun e W' => e = .returned (.tuple #[.int .i64 (chkG calls pts).1, .int .i64 (chkG calls pts).2, .int .i64 0]) ∧ Below N w W') := (Check24_any ⟨hc, hp, by omega, by omega, wc, wp⟩ he).mono fun e W' hh => ⟨hh.1, hh.2.mono (by omega)⟩
  have HL : Hid (calls.length ≤ 100 ∧ pts.length ≤ 100) := And.intro (by omega) (by omega)
  have HN : Hid (w.heap.size = N) := hN
  have hKept := fun h => Kept.of (calls := calls) (pts := pts) h
  obtain ⟨CH, hCH⟩ : ∃ x, chkG calls pts = x := ⟨_, rfl⟩
  rw [hCH] at hC8 hKept
  obtain ⟨R, I⟩ := CH
  clear hl1 hl2 hc hp wc wp he hN hsN hCH
  by_cases hR0 : R = 0
  rotate_left
  · clear hKept
    go_enter Tryd.func5, Tryd.ntmps5
    go_wp2_with (first
      | (go_at_call 8; refine hC8.mono ?_; clear hC8; rintro e w1 ⟨rfl, hb1⟩; have hS7 := HS.out _ hb1)
      | (go_at_call 7; refine hS7.mono ?_; clear hS7; rintro e w2 ⟨rfl, hb2⟩))
    go_ret
    exact ⟨rfl, by rw [HN.out]; exact hb2⟩
  have HK : Hid (Kept calls pts) := hKept hR0
  subst hR0
  clear hKept
  have hop := opsOf_len calls pts
  obtain ⟨O, hO⟩ : ∃ O, opsOf calls pts = O := ⟨_, rfl⟩
  rw [hO] at hop
  have HO : Hid (opsOf calls pts = O ∧ O.length = pts.length) := ⟨hO, hop⟩
  clear hO hop
  go_enter Tryd.func5, Tryd.ntmps5
  go_upto_region 6 with (go_at_call 8; refine hC8.mono ?_; clear hC8; rintro e w1 ⟨rfl, hb1⟩)
  have HB1 : Hid (Below N w w1) := hb1
  clear hb1
  go_wp2_with fail
  go_loopg [47] calls.length (fun gk j wr => ∃ n : Nat, n + gk = calls.length ∧ j = .int .i64 n ∧ Below N w wr)
  case atStart => exact ⟨0, by omega, rfl, HB1.out⟩
  case round =>
    obtain ⟨n, hnn, rfl, hB⟩ := hrel
    by_cases hn1 : n < calls.length
    · obtain ⟨a, ha⟩ : ∃ a, calls[n]? = some a := ⟨_, List.getElem?_eq_getElem hn1⟩
      have hF1 := fun ht => HK.out.there ha ht
      have hF2 : ∀ (j : Nat) (b : Cl), calls[j]? = some b → a.tt ≠ -1 → a.tt < b.fr → 0 ≤ atP pts b → ¬ atP pts b ≤ atP pts a := fun j b hb => HK.out.order ha hb
      have hcal := HAt.out a
      obtain ⟨KA, hKA⟩ : ∃ x, atP pts a = x := ⟨_, rfl⟩
      rw [hKA] at hF1 hF2 hcal
      obtain ⟨g, e', hg', -, y⟩ := (HV.out _ hB).at ha
      subst hg'
      obtain ⟨cl, no, ⟨kind, k, v, od⟩, fr, tt, T, E⟩ := a
      have hF2' : ∀ (j : Nat) (b : Cl), calls[j]? = some b → tt ≠ -1 → tt < b.fr → 0 ≤ atP pts b → ¬ atP pts b ≤ KA := hF2
      have HF2 : Hid (_) := hF2'
      have hF1' : tt ≠ -1 → 0 ≤ KA := hF1
      have HF1 : Hid (_) := hF1'
      obtain ⟨D, hD⟩ : ∃ D, wr.heap.size = D := ⟨_, rfl⟩
      have hND : N ≤ D := by have := hB.size; have := HN.out; omega
      have rD := heap_alloc_new wr (.cells #[.int .i64 cl, .int .i64 no, .int .i64 kind, .string (bs k), .string (bs v), .string (bs od), .int .i64 fr, .int .i64 tt, .int .i64 E, .string (bs T)] 53)
      have hbA := (Below.refl wr.heap.size wr).alloc (Nat.le_refl _) (.cells #[.int .i64 cl, .int .i64 no, .int .i64 kind, .string (bs k), .string (bs v), .string (bs od), .int .i64 fr, .int .i64 tt, .int .i64 E, .string (bs T)] 53)
      obtain ⟨WA, hWA⟩ : ∃ W, wr.alloc (.cells #[.int .i64 cl, .int .i64 no, .int .i64 kind, .string (bs k), .string (bs v), .string (bs od), .int .i64 fr, .int .i64 tt, .int .i64 E, .string (bs T)] 53) = W := ⟨_, rfl⟩
      have hzA : WA.heap.size = D + 1 := by rw [← hWA, World.size_alloc, hD]
      rw [hWA] at rD hbA
      rw [hD] at rD hbA
      have hBA := hB.trans (hbA.mono hND)
      have HC16 : Hid (Calls Tryd.prog 16 #[.agg #[.int .i64 cl, .int .i64 no, .int .i64 kind, .string (bs k), .string (bs v), .string (bs od), .int .i64 fr, .int .i64 tt, .int .i64 E, .string (bs T)], .slice pa pts.length pcap] WA fun e W' => e = .returned (.int .i64 KA) ∧ Below (D + 1) WA W') := (hcal WA hBA).mono fun e W' hh => ⟨hh.1, by rw [← hzA]; exact hh.2⟩
      have y0 : wr.cell? ⟨g, e' + n * 10, none⟩ = some (.int .i64 cl) := y 0 _ rfl
      have y1 : wr.cell? ⟨g, e' + n * 10 + 1, none⟩ = some (.int .i64 no) := y 1 _ rfl
      have y2 : wr.cell? ⟨g, e' + n * 10 + 2, none⟩ = some (.int .i64 kind) := y 2 _ rfl
      have y3 : wr.cell? ⟨g, e' + n * 10 + 3, none⟩ = some (.string (bs k)) := y 3 _ rfl
      have y4 : wr.cell? ⟨g, e' + n * 10 + 4, none⟩ = some (.string (bs v)) := y 4 _ rfl
      have y5 : wr.cell? ⟨g, e' + n * 10 + 5, none⟩ = some (.string (bs od)) := y 5 _ rfl
      have y6 : wr.cell? ⟨g, e' + n * 10 + 6, none⟩ = some (.int .i64 fr) := y 6 _ rfl
      have y7 : wr.cell? ⟨g, e' + n * 10 + 7, none⟩ = some (.int .i64 tt) := y 7 _ rfl
      have y8 : wr.cell? ⟨g, e' + n * 10 + 8, none⟩ = some (.int .i64 E) := y 8 _ rfl
      have y9 : wr.cell? ⟨g, e' + n * 10 + 9, none⟩ = some (.string (bs T)) := y 9 _ rfl
      have x0 := cellB rD 0 _ rfl
      have x1 := cellB rD 1 _ rfl
      have x2 := cellB rD 2 _ rfl
      have x3 := cellB rD 3 _ rfl
      have x4 := cellB rD 4 _ rfl
      have x5 := cellB rD 5 _ rfl
      have x6 := cellB rD 6 _ rfl
      have x7 := cellB rD 7 _ rfl
      have x8 := cellB rD 8 _ rfl
      have x9 := cellB rD 9 _ rfl
      have d3 : (0 : Int) ≤ (n : Int) := by omega
      have d4 : (n : Int) < (calls.length : Int) := by omega
      have HWA : Hid (wr.alloc (.cells #[.int .i64 cl, .int .i64 no, .int .i64 kind, .string (bs k), .string (bs v), .string (bs od), .int .i64 fr, .int .i64 tt, .int .i64 E, .string (bs T)] 53) = WA) := hWA
      have HD : Hid (wr.heap.size = D) := hD
      have HA : Hid (WA.heap[D]? = some (.cells #[.int .i64 cl, .int .i64 no, .int .i64 kind, .string (bs k), .string (bs v), .string (bs od), .int .i64 fr, .int .i64 tt, .int .i64 E, .string (bs T)] 53) ∧ Below N w WA ∧ WA.heap.size = D + 1 ∧ N ≤ D) := ⟨rD, hBA, hzA, hND⟩
      clear hF1 hF2 hF1' hF2' hcal hKA y rD hbA hWA hzA hBA hD hND hB ha
      go_upto_region 9 with fail
      rw [HWA.out]
      try rw [HD.out]
      clear y0 y1 y2 y3 y4 y5 y6 y7 y8 y9 HWA HD
      go_upto_region 10 with (go_at_call 16; refine HC16.out.mono ?_; rintro e w4 ⟨rfl, hb4⟩)
      have rD := (hb4.block D (by omega)).trans HA.out.1
      have x7' := cellB rD 7 _ rfl
      have HB4 : Hid (Below (D + 1) WA w4) := hb4
      clear x0 x1 x2 x3 x4 x5 x6 x7 x8 x9 hb4 rD
      by_cases ht : tt = -1
      · have t1 : (tt == -1) = true := by rw [ht]; rfl
        have t2 : (tt != -1) = false := by rw [ht]; rfl
        have HT : Hid (tt = -1) := ht
        clear ht
        go_wp2_with fail
        go_loopg [63] calls.length (fun gk j wr => ∃ m : Nat, m + gk = calls.length ∧ j = .int .i64 m ∧ Below (D + 1) WA wr)
        case atStart => exact ⟨0, by omega, rfl, HB4.out⟩
        case round =>
          obtain ⟨m, hm, rfl, hB⟩ := hrel
          have hBN := HA.out.2.1.trans (hB.mono (by have := HA.out.2.2.2; omega))
          by_cases hm1 : m < calls.length
          · obtain ⟨b, hb⟩ : ∃ b, calls[m]? = some b := ⟨_, List.getElem?_eq_getElem hm1⟩
            have hF3 := HF2.out m b hb
            have hcal := HAt.out b
            obtain ⟨KB, hKB⟩ : ∃ x, atP pts b = x := ⟨_, rfl⟩
            rw [hKB] at hF3 hcal
            obtain ⟨g2, e2, hg2, -, y⟩ := (HV.out _ hBN).at hb
            cases hg2
            obtain ⟨cl2, no2, ⟨kind2, k2, v2, od2⟩, fr2, tt2, T2, E2⟩ := b
            have hF3' : tt ≠ -1 → tt < fr2 → 0 ≤ KB → ¬ KB ≤ KA := fun a b c => by have := hF3 a b c; omega
            have HF3 : Hid (_) := hF3'
            have z0 : wr.cell? ⟨g, e' + m * 10, none⟩ = some (.int .i64 cl2) := y 0 _ rfl
            have z1 : wr.cell? ⟨g, e' + m * 10 + 1, none⟩ = some (.int .i64 no2) := y 1 _ rfl
            have z2 : wr.cell? ⟨g, e' + m * 10 + 2, none⟩ = some (.int .i64 kind2) := y 2 _ rfl
            have z3 : wr.cell? ⟨g, e' + m * 10 + 3, none⟩ = some (.string (bs k2)) := y 3 _ rfl
            have z4 : wr.cell? ⟨g, e' + m * 10 + 4, none⟩ = some (.string (bs v2)) := y 4 _ rfl
            have z5 : wr.cell? ⟨g, e' + m * 10 + 5, none⟩ = some (.string (bs od2)) := y 5 _ rfl
            have z6 : wr.cell? ⟨g, e' + m * 10 + 6, none⟩ = some (.int .i64 fr2) := y 6 _ rfl
            have z7 : wr.cell? ⟨g, e' + m * 10 + 7, none⟩ = some (.int .i64 tt2) := y 7 _ rfl
            have z8 : wr.cell? ⟨g, e' + m * 10 + 8, none⟩ = some (.int .i64 E2) := y 8 _ rfl
            have z9 : wr.cell? ⟨g, e' + m * 10 + 9, none⟩ = some (.string (bs T2)) := y 9 _ rfl
            obtain ⟨D2, hD2⟩ : ∃ D2, wr.heap.size = D2 := ⟨_, rfl⟩
            have hDD : D + 1 ≤ D2 := by have := hB.size; have := HA.out.2.2.1; omega
            have rD2 := heap_alloc_new wr (.cells #[.int .i64 cl2, .int .i64 no2, .int .i64 kind2, .string (bs k2), .string (bs v2), .string (bs od2), .int .i64 fr2, .int .i64 tt2, .int .i64 E2, .string (bs T2)] 53)
            have hbB := (Below.refl wr.heap.size wr).alloc (Nat.le_refl _) (.cells #[.int .i64 cl2, .int .i64 no2, .int .i64 kind2, .string (bs k2), .string (bs v2), .string (bs od2), .int .i64 fr2, .int .i64 tt2, .int .i64 E2, .string (bs T2)] 53)
            obtain ⟨WB, hWB⟩ : ∃ W, wr.alloc (.cells #[.int .i64 cl2, .int .i64 no2, .int .i64 kind2, .string (bs k2), .string (bs v2), .string (bs od2), .int .i64 fr2, .int .i64 tt2, .int .i64 E2, .string (bs T2)] 53) = W := ⟨_, rfl⟩
            have hzB : WB.heap.size = D2 + 1 := by rw [← hWB, World.size_alloc, hD2]
            rw [hWB] at rD2 hbB
            rw [hD2] at rD2 hbB
            have hBB := hB.trans (hbB.mono hDD)
            have HC16b : Hid (Calls Tryd.prog 16 #[.agg #[.int .i64 cl2, .int .i64 no2, .int .i64 kind2, .string (bs k2), .string (bs v2), .string (bs od2), .int .i64 fr2, .int .i64 tt2, .int .i64 E2, .string (bs T2)], .slice pa pts.length pcap] WB fun e W' => e = .returned (.int .i64 KB) ∧ Below (D2 + 1) WB W') := (hcal WB (hBN.trans (hbB.mono (by have := HA.out.2.2.2; omega)))).mono fun e W' hh => ⟨hh.1, by rw [← hzB]; exact hh.2⟩
            have u0 := cellB rD2 0 _ rfl
            have u1 := cellB rD2 1 _ rfl
            have u2 := cellB rD2 2 _ rfl
            have u3 := cellB rD2 3 _ rfl
            have u4 := cellB rD2 4 _ rfl
            have u5 := cellB rD2 5 _ rfl
            have u6 := cellB rD2 6 _ rfl
            have u7 := cellB rD2 7 _ rfl
            have u8 := cellB rD2 8 _ rfl
            have u9 := cellB rD2 9 _ rfl
            have d5 : (0 : Int) ≤ (m : Int) := by omega
            have d6 : (m : Int) < (calls.length : Int) := by omega
            have HWB : Hid (wr.alloc (.cells #[.int .i64 cl2, .int .i64 no2, .int .i64 kind2, .string (bs k2), .string (bs v2), .string (bs od2), .int .i64 fr2, .int .i64 tt2, .int .i64 E2, .string (bs T2)] 53) = WB) := hWB
            have HD2 : Hid (wr.heap.size = D2) := hD2
            have HBB : Hid (WB.heap[D2]? = some (.cells #[.int .i64 cl2, .int .i64 no2, .int .i64 kind2, .string (bs k2), .string (bs v2), .string (bs od2), .int .i64 fr2, .int .i64 tt2, .int .i64 E2, .string (bs T2)] 53) ∧ Below (D + 1) WA WB ∧ D + 1 ≤ D2) := ⟨rD2, hBB, hDD⟩
            clear hF3 hF3' hcal hKB y rD2 hbB hWB hzB hBB hD2 hDD hB hBN hb x7'
            go_upto_region 15 with fail
            rw [HWB.out]
            try rw [HD2.out]
            clear z0 z1 z2 z3 z4 z5 z6 z7 z8 z9 HWB HD2
            go_upto_region 16 with (go_at_call 16; refine HC16b.out.mono ?_; rintro e w5 ⟨rfl, hb5⟩)
            have rD2 := (hb5.block D2 (by omega)).trans HBB.out.1
            have hB5 := HBB.out.2.1.trans (hb5.mono (by have := HBB.out.2.2; omega))
            have rD := (hB5.block D (by omega)).trans HA.out.1
            have x7' := cellB rD 7 _ rfl
            have v6 := cellB rD2 6 _ rfl
            have HB5 : Hid (Below (D + 1) WA w5) := hB5
            clear u0 u1 u2 u3 u4 u5 u6 u7 u8 u9 hb5 hB5 rD rD2
            · skip
              go_wp2
              go_roundg (calls.length - (m + 1))
              case measure => omega
              case rel => exact ⟨m + 1, by omega, by go_num, HB5.out⟩
          obtain rfl : m = calls.length := by omega
          have HBN : Hid (Below N w wr) := hBN
          clear hB hBN x7'
          go_wp2
          go_roundg (calls.length - (n + 1))
          case measure => omega
          case rel => exact ⟨n + 1, by omega, by go_num, HBN.out⟩
      · have hKA0 := HF1.out ht
        have HT : Hid (tt ≠ -1) := ht
        go_wp2_with fail
        go_loopg [63] calls.length (fun gk j wr => ∃ m : Nat, m + gk = calls.length ∧ j = .int .i64 m ∧ Below (D + 1) WA wr)
        case atStart => exact ⟨0, by omega, rfl, HB4.out⟩
        case round =>
          obtain ⟨m, hm, rfl, hB⟩ := hrel
          have hBN := HA.out.2.1.trans (hB.mono (by have := HA.out.2.2.2; omega))
          by_cases hm1 : m < calls.length
          · obtain ⟨b, hb⟩ : ∃ b, calls[m]? = some b := ⟨_, List.getElem?_eq_getElem hm1⟩
            have hF3 := HF2.out m b hb
            have hcal := HAt.out b
            obtain ⟨KB, hKB⟩ : ∃ x, atP pts b = x := ⟨_, rfl⟩
            rw [hKB] at hF3 hcal
            obtain ⟨g2, e2, hg2, -, y⟩ := (HV.out _ hBN).at hb
            cases hg2
            obtain ⟨cl2, no2, ⟨kind2, k2, v2, od2⟩, fr2, tt2, T2, E2⟩ := b
            have hF3' : tt ≠ -1 → tt < fr2 → 0 ≤ KB → ¬ KB ≤ KA := fun a b c => by have := hF3 a b c; omega
            have HF3 : Hid (_) := hF3'
            have z0 : wr.cell? ⟨g, e' + m * 10, none⟩ = some (.int .i64 cl2) := y 0 _ rfl
            have z1 : wr.cell? ⟨g, e' + m * 10 + 1, none⟩ = some (.int .i64 no2) := y 1 _ rfl
            have z2 : wr.cell? ⟨g, e' + m * 10 + 2, none⟩ = some (.int .i64 kind2) := y 2 _ rfl
            have z3 : wr.cell? ⟨g, e' + m * 10 + 3, none⟩ = some (.string (bs k2)) := y 3 _ rfl
            have z4 : wr.cell? ⟨g, e' + m * 10 + 4, none⟩ = some (.string (bs v2)) := y 4 _ rfl
            have z5 : wr.cell? ⟨g, e' + m * 10 + 5, none⟩ = some (.string (bs od2)) := y 5 _ rfl
            have z6 : wr.cell? ⟨g, e' + m * 10 + 6, none⟩ = some (.int .i64 fr2) := y 6 _ rfl
            have z7 : wr.cell? ⟨g, e' + m * 10 + 7, none⟩ = some (.int .i64 tt2) := y 7 _ rfl
            have z8 : wr.cell? ⟨g, e' + m * 10 + 8, none⟩ = some (.int .i64 E2) := y 8 _ rfl
            have z9 : wr.cell? ⟨g, e' + m * 10 + 9, none⟩ = some (.string (bs T2)) := y 9 _ rfl
            obtain ⟨D2, hD2⟩ : ∃ D2, wr.heap.size = D2 := ⟨_, rfl⟩
            have hDD : D + 1 ≤ D2 := by have := hB.size; have := HA.out.2.2.1; omega
            have rD2 := heap_alloc_new wr (.cells #[.int .i64 cl2, .int .i64 no2, .int .i64 kind2, .string (bs k2), .string (bs v2), .string (bs od2), .int .i64 fr2, .int .i64 tt2, .int .i64 E2, .string (bs T2)] 53)
            have hbB := (Below.refl wr.heap.size wr).alloc (Nat.le_refl _) (.cells #[.int .i64 cl2, .int .i64 no2, .int .i64 kind2, .string (bs k2), .string (bs v2), .string (bs od2), .int .i64 fr2, .int .i64 tt2, .int .i64 E2, .string (bs T2)] 53)
            obtain ⟨WB, hWB⟩ : ∃ W, wr.alloc (.cells #[.int .i64 cl2, .int .i64 no2, .int .i64 kind2, .string (bs k2), .string (bs v2), .string (bs od2), .int .i64 fr2, .int .i64 tt2, .int .i64 E2, .string (bs T2)] 53) = W := ⟨_, rfl⟩
            have hzB : WB.heap.size = D2 + 1 := by rw [← hWB, World.size_alloc, hD2]
            rw [hWB] at rD2 hbB
            rw [hD2] at rD2 hbB
            have hBB := hB.trans (hbB.mono hDD)
            have HC16b : Hid (Calls Tryd.prog 16 #[.agg #[.int .i64 cl2, .int .i64 no2, .int .i64 kind2, .string (bs k2), .string (bs v2), .string (bs od2), .int .i64 fr2, .int .i64 tt2, .int .i64 E2, .string (bs T2)], .slice pa pts.length pcap] WB fun e W' => e = .returned (.int .i64 KB) ∧ Below (D2 + 1) WB W') := (hcal WB (hBN.trans (hbB.mono (by have := HA.out.2.2.2; omega)))).mono fun e W' hh => ⟨hh.1, by rw [← hzB]; exact hh.2⟩
            have u0 := cellB rD2 0 _ rfl
            have u1 := cellB rD2 1 _ rfl
            have u2 := cellB rD2 2 _ rfl
            have u3 := cellB rD2 3 _ rfl
            have u4 := cellB rD2 4 _ rfl
            have u5 := cellB rD2 5 _ rfl
            have u6 := cellB rD2 6 _ rfl
            have u7 := cellB rD2 7 _ rfl
            have u8 := cellB rD2 8 _ rfl
            have u9 := cellB rD2 9 _ rfl
            have d5 : (0 : Int) ≤ (m : Int) := by omega
            have d6 : (m : Int) < (calls.length : Int) := by omega
            have HWB : Hid (wr.alloc (.cells #[.int .i64 cl2, .int .i64 no2, .int .i64 kind2, .string (bs k2), .string (bs v2), .string (bs od2), .int .i64 fr2, .int .i64 tt2, .int .i64 E2, .string (bs T2)] 53) = WB) := hWB
            have HD2 : Hid (wr.heap.size = D2) := hD2
            have HBB : Hid (WB.heap[D2]? = some (.cells #[.int .i64 cl2, .int .i64 no2, .int .i64 kind2, .string (bs k2), .string (bs v2), .string (bs od2), .int .i64 fr2, .int .i64 tt2, .int .i64 E2, .string (bs T2)] 53) ∧ Below (D + 1) WA WB ∧ D + 1 ≤ D2) := ⟨rD2, hBB, hDD⟩
            clear hF3 hF3' hcal hKB y rD2 hbB hWB hzB hBB hD2 hDD hB hBN hb x7'
            go_upto_region 15 with fail
            rw [HWB.out]
            try rw [HD2.out]
            clear z0 z1 z2 z3 z4 z5 z6 z7 z8 z9 HWB HD2
            go_upto_region 16 with (go_at_call 16; refine HC16b.out.mono ?_; rintro e w5 ⟨rfl, hb5⟩)
            have rD2 := (hb5.block D2 (by omega)).trans HBB.out.1
            have hB5 := HBB.out.2.1.trans (hb5.mono (by have := HBB.out.2.2; omega))
            have rD := (hB5.block D (by omega)).trans HA.out.1
            have x7' := cellB rD 7 _ rfl
            have v6 := cellB rD2 6 _ rfl
            have HB5 : Hid (Below (D + 1) WA w5) := hB5
            clear u0 u1 u2 u3 u4 u5 u6 u7 u8 u9 hb5 hB5 rD rD2
            · by_cases c1 : tt < fr2
              · by_cases c2 : 0 ≤ KB
                · have c3 := HF3.out HT.out c1 c2
                  go_wp2
                  go_roundg (calls.length - (m + 1))
                  case measure => omega
                  case rel => exact ⟨m + 1, by omega, by go_num, HB5.out⟩
                · go_wp2
                  go_roundg (calls.length - (m + 1))
                  case measure => omega
                  case rel => exact ⟨m + 1, by omega, by go_num, HB5.out⟩
              · go_wp2
                go_roundg (calls.length - (m + 1))
                case measure => omega
                case rel => exact ⟨m + 1, by omega, by go_num, HB5.out⟩
          obtain rfl : m = calls.length := by omega
          have HBN : Hid (Below N w wr) := hBN
          clear hB hBN x7'
          go_wp2
          go_roundg (calls.length - (n + 1))
          case measure => omega
          case rel => exact ⟨n + 1, by omega, by go_num, HBN.out⟩
    obtain rfl : n = calls.length := by omega
    have HB : Hid (Below N w wr) := hB
    have HO2 : Hid (O.take pts.length = O) := List.take_of_length_le (by rw [HO.out.2]; exact Nat.le_refl _)
    clear hB hn1
    obtain ⟨i51, hi51, hz51, hs51, hb51⟩ := info_parts Tryd.info51
    go_wp2_with fail
    go_loopg [14, 93] pts.length (fun gk x j wr => ∃ n : Nat, n + gk = pts.length ∧ j = .int .i64 n ∧ wr.ownsRow N 51 4 x (O.take n).length ((O.take n).flatMap ocs) ∧ Below N w wr)
    case atStart => exact ⟨0, by omega, rfl, World.ownsRow_nil _ _ _ _, HB.out⟩
    case round =>
      obtain ⟨n, hnn, rfl, hown, hB⟩ := hrel
      obtain ⟨xa, xc, rfl⟩ := owns_slice hown
      by_cases hn1 : n < pts.length
      · obtain ⟨p, hp⟩ : ∃ p, pts[n]? = some p := ⟨_, List.getElem?_eq_getElem hn1⟩
        have hall := HK.out.mt_all hp
        have hmtl := fun m (h : m ≤ calls.length) => HK.out.mt_len hp h
        have hmts := fun m c (h : calls[m]? = some c) => mt_succ (p := p) h
        have hOn : O[n]? = some (callAt calls p).op := by rw [← HO.out.1, opsOf, List.getElem?_map, hp]; rfl
        have hOl : (O.take n).length = n := by rw [List.length_take, HO.out.2]; omega
        have htk := take_snoc hOn
        rw [← hall] at htk
        obtain ⟨A, hA⟩ : ∃ A, O.take n = A := ⟨_, rfl⟩
        obtain ⟨MT, hMT⟩ : ∃ MT, mt calls p = MT := ⟨_, rfl⟩
        have hMT0 : MT 0 = [] := by rw [← hMT]; rfl
        rw [hMT] at htk hmtl hmts
        rw [hA] at htk hown hOl ⊢
        obtain ⟨g, e', hg', -, y⟩ := (HU.out _ hB).at hp
        cases hg'
        obtain ⟨tm, pcl, pno, pT, pE⟩ := p
        have y0 : wr.cell? ⟨g, e' + n * 5, none⟩ = some (.int .i64 tm) := y 0 _ rfl
        have y1 : wr.cell? ⟨g, e' + n * 5 + 1, none⟩ = some (.int .i64 pcl) := y 1 _ rfl
        have y2 : wr.cell? ⟨g, e' + n * 5 + 2, none⟩ = some (.int .i64 pno) := y 2 _ rfl
        have y3 : wr.cell? ⟨g, e' + n * 5 + 3, none⟩ = some (.int .i64 pE) := y 3 _ rfl
        have y4 : wr.cell? ⟨g, e' + n * 5 + 4, none⟩ = some (.string (bs pT)) := y 4 _ rfl
        have d3 : (0 : Int) ≤ (n : Int) := by omega
        have d4 : (n : Int) < (pts.length : Int) := by omega
        obtain ⟨D, hD⟩ : ∃ D, wr.heap.size = D := ⟨_, rfl⟩
        have hND : N ≤ D := by have := hB.size; have := HN.out; omega
        have rD := heap_alloc_new wr (.cells #[.int .i64 tm, .int .i64 pcl, .int .i64 pno, .int .i64 pE, .string (bs pT)] 56)
        have hbA := (Below.refl wr.heap.size wr).alloc (Nat.le_refl _) (.cells #[.int .i64 tm, .int .i64 pcl, .int .i64 pno, .int .i64 pE, .string (bs pT)] 56)
        obtain ⟨WA, hWA⟩ : ∃ W, wr.alloc (.cells #[.int .i64 tm, .int .i64 pcl, .int .i64 pno, .int .i64 pE, .string (bs pT)] 56) = W := ⟨_, rfl⟩
        have hzA : WA.heap.size = D + 1 := by rw [← hWA, World.size_alloc, hD]
        rw [hWA] at rD hbA
        rw [hD] at rD hbA
        have hownA := owns_keep hown (w' := WA) fun q e => hbA.block q (by have := (hown.lt q e).2; omega)
        have hneA : ∀ q, (Value.slice xa A.length xc).ownBlock = some q → q ≠ D := fun q e => by have := (hown.lt q e).2; omega
        have HWA : Hid (wr.alloc (.cells #[.int .i64 tm, .int .i64 pcl, .int .i64 pno, .int .i64 pE, .string (bs pT)] 56) = WA) := hWA
        have HD : Hid (wr.heap.size = D) := hD
        have HA : Hid (WA.heap[D]? = some (.cells #[.int .i64 tm, .int .i64 pcl, .int .i64 pno, .int .i64 pE, .string (bs pT)] 56) ∧ Below N w WA ∧ WA.heap.size = D + 1 ∧ N ≤ D ∧ WA.ownsRow N 51 4 (.slice xa A.length xc) (A ++ MT 0).length ((A ++ MT 0).flatMap ocs) ∧ (∀ q, (Value.slice xa A.length xc).ownBlock = some q → q ≠ D)) := ⟨rD, hB.trans (hbA.mono hND), hzA, hND, by rw [hMT0, List.append_nil]; exact hownA, hneA⟩
        have HM : Hid ((∀ m, m ≤ calls.length → (MT m).length ≤ 1) ∧ (∀ m c, calls[m]? = some c → MT (m + 1) = MT m ++ (if c.cl = pcl ∧ c.no = pno then [c.op] else [])) ∧ O.take (n + 1) = A ++ MT calls.length ∧ A.length = n) := ⟨hmtl, hmts, htk, hOl⟩
        clear hall hmtl hmts hOn hOl htk hA hMT hMT0 y hD hND rD hbA hWA hzA hownA hneA hown hB hp
        go_upto_region 24 with fail
        rw [HWA.out]
        try rw [HD.out]
        clear y0 y1 y2 y3 y4 HWA HD
        go_wp2_with fail
        go_loopg [14, 99] calls.length (fun gk x j wr => ∃ m : Nat, m + gk = calls.length ∧ j = .int .i64 m ∧ wr.ownsRow N 51 4 x (A ++ MT m).length ((A ++ MT m).flatMap ocs) ∧ wr.heap[D]? = some (.cells #[.int .i64 tm, .int .i64 pcl, .int .i64 pno, .int .i64 pE, .string (bs pT)] 56) ∧ D < wr.heap.size ∧ Below N w wr ∧ ∀ q, x.ownBlock = some q → q ≠ D)
        case atStart => exact ⟨0, by omega, rfl, HA.out.2.2.2.2.1, HA.out.1, by have := HA.out.2.2.1; omega, HA.out.2.1, HA.out.2.2.2.2.2⟩
        case round =>
          obtain ⟨m, hm, rfl, hown, rD, hDl, hB, hne⟩ := hrel
          obtain ⟨za, zc, rfl⟩ := owns_slice hown
          by_cases hm1 : m < calls.length
          · obtain ⟨c, hc⟩ : ∃ c, calls[m]? = some c := ⟨_, List.getElem?_eq_getElem hm1⟩
            have hms := HM.out.2.1 m c hc
            have hAl : (A ++ MT m).length ≤ 101 := by rw [List.length_append]; have := HM.out.1 m (by omega); have := HM.out.2.2.2; have := HL.out.2; omega
            obtain ⟨g2, e2, hg2, -, y⟩ := (HV.out _ hB).at hc
            cases hg2
            obtain ⟨cl2, no2, ⟨kind2, k2, v2, od2⟩, fr2, tt2, T2, E2⟩ := c
            have z0 : wr.cell? ⟨g2, e2 + m * 10, none⟩ = some (.int .i64 cl2) := y 0 _ rfl
            have z1 : wr.cell? ⟨g2, e2 + m * 10 + 1, none⟩ = some (.int .i64 no2) := y 1 _ rfl
            have z2 : wr.cell? ⟨g2, e2 + m * 10 + 2, none⟩ = some (.int .i64 kind2) := y 2 _ rfl
            have z3 : wr.cell? ⟨g2, e2 + m * 10 + 3, none⟩ = some (.string (bs k2)) := y 3 _ rfl
            have z4 : wr.cell? ⟨g2, e2 + m * 10 + 4, none⟩ = some (.string (bs v2)) := y 4 _ rfl
            have z5 : wr.cell? ⟨g2, e2 + m * 10 + 5, none⟩ = some (.string (bs od2)) := y 5 _ rfl
            have z6 : wr.cell? ⟨g2, e2 + m * 10 + 6, none⟩ = some (.int .i64 fr2) := y 6 _ rfl
            have z7 : wr.cell? ⟨g2, e2 + m * 10 + 7, none⟩ = some (.int .i64 tt2) := y 7 _ rfl
            have z8 : wr.cell? ⟨g2, e2 + m * 10 + 8, none⟩ = some (.int .i64 E2) := y 8 _ rfl
            have z9 : wr.cell? ⟨g2, e2 + m * 10 + 9, none⟩ = some (.string (bs T2)) := y 9 _ rfl
            obtain ⟨Y, hY⟩ : ∃ Y, A ++ MT m = Y := ⟨_, rfl⟩
            rw [hY] at hown hAl hne ⊢
            have hms' : A ++ MT (m + 1) = Y ++ (if cl2 = pcl ∧ no2 = pno then [⟨kind2, k2, v2, od2⟩] else []) := by rw [hms, ← List.append_assoc, hY]
            obtain ⟨D2, hD2⟩ : ∃ D2, wr.heap.size = D2 := ⟨_, rfl⟩
            have hND : N ≤ D2 := by have := hB.size; have := HN.out; omega
            have rD2 := heap_alloc_new wr (.cells #[.int .i64 cl2, .int .i64 no2, .int .i64 kind2, .string (bs k2), .string (bs v2), .string (bs od2), .int .i64 fr2, .int .i64 tt2, .int .i64 E2, .string (bs T2)] 53)
            have hbB := (Below.refl wr.heap.size wr).alloc (Nat.le_refl _) (.cells #[.int .i64 cl2, .int .i64 no2, .int .i64 kind2, .string (bs k2), .string (bs v2), .string (bs od2), .int .i64 fr2, .int .i64 tt2, .int .i64 E2, .string (bs T2)] 53)
            obtain ⟨WB, hWB⟩ : ∃ W, wr.alloc (.cells #[.int .i64 cl2, .int .i64 no2, .int .i64 kind2, .string (bs k2), .string (bs v2), .string (bs od2), .int .i64 fr2, .int .i64 tt2, .int .i64 E2, .string (bs T2)] 53) = W := ⟨_, rfl⟩
            have hzB : WB.heap.size = D2 + 1 := by rw [← hWB, World.size_alloc, hD2]
            rw [hWB] at rD2 hbB
            rw [hD2] at rD2 hbB
            have rDB := (hbB.block D (by omega)).trans rD
            have hownB := owns_keep hown (w' := WB) fun q e => hbB.block q (by have := (hown.lt q e).2; omega)
            have u0 := cellB rD2 0 _ rfl
            have u1 := cellB rD2 1 _ rfl
            have u2 := cellB rD2 2 _ rfl
            have u3 := cellB rD2 3 _ rfl
            have u4 := cellB rD2 4 _ rfl
            have u5 := cellB rD2 5 _ rfl
            have t1 := cellB rDB 1 _ rfl
            have t2 := cellB rDB 2 _ rfl
            have d5 : (0 : Int) ≤ (m : Int) := by omega
            have d6 : (m : Int) < (calls.length : Int) := by omega
            have HWB : Hid (wr.alloc (.cells #[.int .i64 cl2, .int .i64 no2, .int .i64 kind2, .string (bs k2), .string (bs v2), .string (bs od2), .int .i64 fr2, .int .i64 tt2, .int .i64 E2, .string (bs T2)] 53) = WB) := hWB
            have HD2 : Hid (wr.heap.size = D2) := hD2
            have HB2 : Hid (WB.ownsRow N 51 4 (.slice za Y.length zc) Y.length (Y.flatMap ocs) ∧ WB.heap[D]? = some (.cells #[.int .i64 tm, .int .i64 pcl, .int .i64 pno, .int .i64 pE, .string (bs pT)] 56) ∧ D < D2 ∧ Below N w WB ∧ (∀ q, (Value.slice za Y.length zc).ownBlock = some q → q ≠ D) ∧ WB.heap.size = D2 + 1 ∧ N ≤ D2) := ⟨hownB, rDB, by omega, hB.trans (hbB.mono hND), hne, hzB, hND⟩
            have HMS : Hid (A ++ MT (m + 1) = Y ++ (if cl2 = pcl ∧ no2 = pno then [⟨kind2, k2, v2, od2⟩] else [])) := hms'
            clear hms hms' y hY hD2 hND rD2 hbB hWB hzB rDB hownB hown rD hDl hB hne hc
            go_upto_region 27 with fail
            rw [HWB.out]
            try rw [HD2.out]
            clear z0 z1 z2 z3 z4 z5 z6 z7 z8 z9 HWB HD2
            by_cases e : cl2 = pcl ∧ no2 = pno
            · have e1 : (cl2 == pcl) = true := by simpa using e.1
              have e2 : (no2 == pno) = true := by simpa using e.2
              have HS2 : Hid (A ++ MT (m + 1) = Y ++ [⟨kind2, k2, v2, od2⟩]) := by
                show _ = _
                rw [HMS.out, if_pos e]
              have hml : Y.length + 1 ≤ maxLen := by unfold maxLen; omega
              have hkb : (Y.length + 1) * 56 ≤ 140737488355328 := by omega
              have hown := HB2.out.1
              have hlw : ∀ c, N ≤ (WB.alloc c).heap.size := fun c => by rw [World.size_alloc]; have := HB2.out.2.2.2.2.2; omega
              clear e HMS hAl
              go_wp2_with (first
                | (at_builtin; go_must (refine wpList_append_lies _ rfl _ _ 37 rfl N 51 i51 (.agg #[.int .i64 0, .string ⟨#[]⟩, .string ⟨#[]⟩, .string ⟨#[]⟩]) 4 56 Tryd.underlying37 hi51 hz51 hs51 hb51 rfl (by decide) (.slice za Y.length zc) Y.length _ rfl (hown.alloc _) _ 1 1 [.int .i64 kind2, .string (bs k2), .string (bs v2), .string (bs od2)] rfl rfl (World.news_of_block (heap_alloc_new _ _)) (by simp [Value.oneCell']) (by decide) hml hkb (hlw _) _ rfl ?_)
                   intro ga ca w6 g1 g2 g3 g4
                   go_must (have hb5 := (Below.refl WB.heap.size WB).alloc (Nat.le_refl _) (.cells #[.int .i64 kind2, .string (bs k2), .string (bs v2), .string (bs od2)] 51))
                   go_must (have hD6 := ((g2.block D (by rw [World.size_alloc]; have := HB2.out.2.2; omega) (fun e => HB2.out.2.2.2.2.1 D e.symm rfl)).trans (hb5.block D (by have := HB2.out.2.2; omega))).trans HB2.out.2.1)
                   go_must (have hB6 := (HB2.out.2.2.2.1.trans (hb5.mono (by have := HB2.out.2.2.2.2.2; omega))).grown g2 (hlw _) (fun z hz => (hown.lt z hz).1))
                   go_must (have hs6 : D < w6.heap.size := by have := g2.size; rw [World.size_alloc] at this; have := HB2.out.2.2; omega)
                   go_must (have hne6 := own_ne (n := Y.length + 1) (ca := ca) g3 HB2.out.2.2.2.2.1 (by first | (rw [World.size_alloc]; have := HB2.out.2.2; omega) | (have := HB2.out.2.2; omega)))
                   have hg1 := g1
                   clear g1 g2 g3 g4 hb5 hlw hown hml hkb u0 u1 u2 u3 u4 u5 t1 t2))
              go_roundg (calls.length - (m + 1))
              case measure => omega
              case rel => exact ⟨m + 1, by omega, by go_num, by rw [HS2.out, List.length_append, List.flatMap_append]; exact hg1, hD6, hs6, hB6, hne6⟩
            · have HS2 : Hid (A ++ MT (m + 1) = Y) := by
                show _ = _
                rw [HMS.out, if_neg e, List.append_nil]
              by_cases e1 : cl2 = pcl
              · have e3 : (cl2 == pcl) = true := by simpa using e1
                have e2 : (no2 == pno) = false := by simpa using fun h => e ⟨e1, h⟩
                clear e e1 HMS hAl
                go_wp2
                go_roundg (calls.length - (m + 1))
                case measure => omega
                case rel => exact ⟨m + 1, by omega, by go_num, by rw [HS2.out]; exact HB2.out.1, HB2.out.2.1, by have := HB2.out.2.2; omega, HB2.out.2.2.2.1, HB2.out.2.2.2.2.1⟩
              · have e3 : (cl2 == pcl) = false := by simpa using e1
                clear e e1 HMS hAl
                go_wp2
                go_roundg (calls.length - (m + 1))
                case measure => omega
                case rel => exact ⟨m + 1, by omega, by go_num, by rw [HS2.out]; exact HB2.out.1, HB2.out.2.1, by have := HB2.out.2.2; omega, HB2.out.2.2.2.1, HB2.out.2.2.2.2.1⟩
          obtain rfl : m = calls.length := by omega
          have HF : Hid (_ ∧ _) := And.intro hown hB
          clear hown rD hDl hB hne
          go_wp2
          go_roundg (pts.length - (n + 1))
          case measure => omega
          case rel => exact ⟨n + 1, by omega, by go_num, by rw [HM.out.2.2.1]; exact HF.out.1, HF.out.2⟩
      obtain rfl : n = pts.length := by omega
      rw [HO2.out] at hown ⊢
      have hkO : ∀ o ∈ O, o.k.length ≤ 140737488351232 := fun o ho => by
        rw [← HO.out.1] at ho
        obtain ⟨p, _, rfl⟩ := List.mem_map.1 ho
        rcases callAt_mem calls p with h | h
        · exact key_short (show Rl calls [] 0 = -1 from fstB_none HK.out.r1) _ h
        · rw [h]; decide
      have hRp := Replay_any O _ wr (SlF.of_owns ocs_len hown) (by have := HO.out.2; have := HL.out.2; omega) hkO (HE.out _ hB)
      obtain ⟨B, hBe⟩ : ∃ B, repl (fun _ => []) O = B := ⟨_, rfl⟩
      have hBl : B.length = pts.length := by rw [← hBe, repl_len, HO.out.2]
      have HTo : Hid (∀ (i : Nat) p, pts[i]? = some p → B[i]? = some p.an) := fun i p hp => by
        have := HK.out.told hp
        rw [HO.out.1, hBe] at this
        exact this
      rw [hBe] at hRp
      have hRp' : Calls Tryd.prog 12 #[.slice xa O.length xc] wr (fun e W' => ∃ u, e = .returned u ∧ SlF acs 2 W' u B ∧ Below N w W') := hRp.mono fun e W' hh => by
        obtain ⟨u, h1, h2, h3⟩ := hh
        exact ⟨u, h1, SlF.of_owns acs_len (by rw [← hBe, repl_len]; rw [← hBe] at h2; exact h2), hB.trans (h3.mono (by have := hB.size; have := HN.out; omega))⟩
      have HBl : Hid (B.length = pts.length) := hBl
      clear hRp hBe hBl hkO hown hB
      go_upto_region 32 with (go_at_call 12; refine hRp'.mono ?_; clear hRp'; rintro e w5 ⟨u5, rfl, hu5, hb5⟩)
      obtain ⟨ua, uc, rfl⟩ := hu5.slice
      have hlB : (B.length : Int) = (pts.length : Int) := by rw [HBl.out]
      have H5 : Hid (SlF acs 2 w5 (.slice ua B.length uc) B ∧ Below N w w5 ∧ N ≤ w5.heap.size) := ⟨hu5, hb5, by have := hb5.size; have := HN.out; omega⟩
      clear hu5 hb5
      go_wp2_with fail
      go_loopg [131] pts.length (fun gk j wr => ∃ n : Nat, n + gk = pts.length ∧ j = .int .i64 n ∧ Below w5.heap.size w5 wr)
      case atStart => exact ⟨0, by omega, rfl, Below.refl _ _⟩
      case round =>
        obtain ⟨n, hnn, rfl, hB⟩ := hrel
        have hBN := H5.out.2.1.trans (hB.mono H5.out.2.2)
        by_cases hn1 : n < pts.length
        · obtain ⟨p, hp⟩ : ∃ p, pts[n]? = some p := ⟨_, List.getElem?_eq_getElem hn1⟩
          have hBp := HTo.out n p hp
          obtain ⟨g3, e3, hg3, -, y⟩ := (HU.out _ hBN).at hp
          cases hg3
          obtain ⟨tm, pcl, pno, pT, pE⟩ := p
          have hBp' : B[n]? = some (pT, pE) := hBp
          have y0 : wr.cell? ⟨g3, e3 + n * 5, none⟩ = some (.int .i64 tm) := y 0 _ rfl
          have y1 : wr.cell? ⟨g3, e3 + n * 5 + 1, none⟩ = some (.int .i64 pcl) := y 1 _ rfl
          have y2 : wr.cell? ⟨g3, e3 + n * 5 + 2, none⟩ = some (.int .i64 pno) := y 2 _ rfl
          have y3 : wr.cell? ⟨g3, e3 + n * 5 + 3, none⟩ = some (.int .i64 pE) := y 3 _ rfl
          have y4 : wr.cell? ⟨g3, e3 + n * 5 + 4, none⟩ = some (.string (bs pT)) := y 4 _ rfl
          have d3 : (0 : Int) ≤ (n : Int) := by omega
          have d4 : (n : Int) < (pts.length : Int) := by omega
          obtain ⟨D, hD⟩ : ∃ D, wr.heap.size = D := ⟨_, rfl⟩
          have hWD : w5.heap.size ≤ D := by have := hB.size; omega
          have rD := heap_alloc_new wr (.cells #[.int .i64 tm, .int .i64 pcl, .int .i64 pno, .int .i64 pE, .string (bs pT)] 56)
          have hbA := (Below.refl wr.heap.size wr).alloc (Nat.le_refl _) (.cells #[.int .i64 tm, .int .i64 pcl, .int .i64 pno, .int .i64 pE, .string (bs pT)] 56)
          obtain ⟨WA, hWA⟩ : ∃ W, wr.alloc (.cells #[.int .i64 tm, .int .i64 pcl, .int .i64 pno, .int .i64 pE, .string (bs pT)] 56) = W := ⟨_, rfl⟩
          rw [hWA] at rD hbA
          rw [hD] at rD hbA
          have hBA := hB.trans (hbA.mono hWD)
          obtain ⟨g4, e4, hg4, -, z⟩ := (H5.out.1.on hBA (Nat.le_refl _)).at hBp'
          subst hg4
          have z0 : WA.cell? ⟨g4, e4 + n * 2, none⟩ = some (.int .i64 pE) := z 0 _ rfl
          have z1 : WA.cell? ⟨g4, e4 + n * 2 + 1, none⟩ = some (.string (bs pT)) := z 1 _ rfl
          have x3 := cellB rD 3 _ rfl
          have x4 := cellB rD 4 _ rfl
          have HWA : Hid (wr.alloc (.cells #[.int .i64 tm, .int .i64 pcl, .int .i64 pno, .int .i64 pE, .string (bs pT)] 56) = WA) := hWA
          have HD : Hid (wr.heap.size = D) := hD
          have HBA : Hid (Below w5.heap.size w5 WA) := hBA
          clear hBp hBp' y z hD hWD rD hbA hWA hBA hB hBN hp
          go_upto_region 37 with fail
          rw [HWA.out]
          try rw [HD.out]
          clear y0 y1 y2 y3 y4 HWA HD
          go_region
          all_goals
            go_wp2
            go_roundg (pts.length - (n + 1))
            case measure => omega
            case rel => exact ⟨n + 1, by omega, by go_num, below_drew HBA.out⟩
        obtain rfl : n = pts.length := by omega
        have hS := HS.out _ hBN
        clear hB hBN H5
        go_wp2_with (go_at_call 7; refine hS.mono ?_; clear hS; rintro e w6 ⟨rfl, hb6⟩)
        go_ret
        exact ⟨rfl, by rw [HN.out]; exact hb6⟩

end Go.Proofs.YteohencmdpahlaaDoor
