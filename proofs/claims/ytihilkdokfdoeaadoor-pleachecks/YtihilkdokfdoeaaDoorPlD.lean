/- Longest, the program's and the document's, walked. -/
import Derived.Test.YtihilkdokfdoeaaDoorPlA
namespace Go.Proofs.YtihilkdokfdoeaaDoor
open Go.RowKit Go.Maps
attribute [local go_sem ↓] Go.wp_at_zero Go.wp_at_succ

/-- The first place of the greatest, and that. -/
def lgF (f : Nat → Int) : Nat → Int × Int
  | 0 => (0, 0)
  | n + 1 => if (lgF f n).2 < f n then ((n : Int), f n) else lgF f n
theorem lgF_nonneg (f : Nat → Int) : ∀ n, 0 ≤ (lgF f n).2
  | 0 => Int.le_refl _
  | n + 1 => by
    have := lgF_nonneg f n
    rw [lgF]
    by_cases h : (lgF f n).2 < f n
    · rw [if_pos h]; show 0 ≤ f n; omega
    · rw [if_neg h]; exact this
def tookAt (now : Int) (calls : List Cl) (n : Nat) : Int := match calls[n]? with | some c => tookF now c.fr c.tt | none => 0
theorem tookAt_at {now : Int} {calls : List Cl} {n : Nat} {c : Cl} (h : calls[n]? = some c) : tookAt now calls n = tookF now c.fr c.tt := by rw [tookAt, h]
def lgC (now : Int) (calls : List Cl) : Int × Int := lgF (tookAt now calls) calls.length
set_option maxRecDepth 20000 in
set_option maxHeartbeats 1500000 in
theorem Longest_any (calls : List Cl) (vc : Value) (now : Int) (w : World) (hc : SlF ccs 10 w vc calls) (hl : calls.length ≤ 100000) : Calls Tryd.prog 17 #[vc, .int .i64 now] w fun e W' => e = .returned (.tuple #[.int .i64 (lgC now calls).1, .int .i64 (lgC now calls).2]) ∧ Below w.heap.size w W' := by
  obtain ⟨va, vcap, rfl⟩ := hc.slice
  obtain ⟨f, hf⟩ : ∃ f : Nat → Int, tookAt now calls = f := ⟨_, rfl⟩
  rw [lgC, hf]
  have hfi : ∀ i c, calls[i]? = some c → f i = tookF now c.fr c.tt := fun i c h => by rw [← hf]; exact tookAt_at h
  obtain ⟨N, hN⟩ : ∃ N, w.heap.size = N := ⟨_, rfl⟩
  have HN : Hid (w.heap.size = N) := hN
  have HLN : Hid (calls.length ≤ 100000) := hl
  have HF : Hid (∀ i c, calls[i]? = some c → f i = tookF now c.fr c.tt) := hfi
  have HV : Hid (∀ W, Below N w W → SlF ccs 10 W (.slice va calls.length vcap) calls) := fun W hW => hc.on hW (by omega)
  clear hc hN hf hfi hl
  go_enter Tryd.func17, Tryd.ntmps17
  go_wp2_with fail
  go_loopg [6, 7, 13] calls.length (fun gk p q j wr => ∃ n : Nat, n + gk = calls.length ∧ j = .int .i64 n ∧ p = .int .i64 (lgF f n).1 ∧ q = .int .i64 (lgF f n).2 ∧ Below N w wr)
  case atStart => exact ⟨0, by omega, rfl, rfl, rfl, by rw [← HN.out]; exact Below.refl _ _⟩
  case round =>
    obtain ⟨n, hnn, rfl, rfl, rfl, hB⟩ := hrel
    by_cases hn1 : n = calls.length
    · subst hn1
      have HB : Hid (Below N w wr) := hB
      clear hB HV HF
      go_wp2
      exact bodyPost_ret (v := .tuple #[.int .i64 (lgF f calls.length).1, .int .i64 (lgF f calls.length).2]) (by simp [results, Tryd.f17, go_sem]) rfl ⟨rfl, by rw [HN.out]; exact HB.out⟩
    · have hn2 : n < calls.length := by omega
      obtain ⟨c, ho⟩ : ∃ c, calls[n]? = some c := ⟨_, List.getElem?_eq_getElem hn2⟩
      obtain ⟨g, e', hg', -, y⟩ := (HV.out _ hB).at ho
      subst hg'
      obtain ⟨cl, no, ⟨kind, k, v, od⟩, fr, tt, T, E⟩ := c
      have y0 : wr.cell? ⟨g, e' + n * 10, none⟩ = some (.int .i64 cl) := y 0 _ rfl
      have y1 : wr.cell? ⟨g, e' + n * 10 + 1, none⟩ = some (.int .i64 no) := y 1 _ rfl
      have y2 : wr.cell? ⟨g, e' + n * 10 + 2, none⟩ = some (.int .i64 kind) := y 2 _ rfl
      have y3 : wr.cell? ⟨g, e' + n * 10 + 3, none⟩ = some (.string (bs k)) := y 3 _ rfl
      have y4 : wr.cell? ⟨g, e' + n * 10 + 4, none⟩ = some (.string (bs v)) := y 4 _ rfl
      have y5 : wr.cell? ⟨g, e' + n * 10 + 5, none⟩ = some (.string (bs od)) := y 5 _ rfl
      have y6 : wr.cell? ⟨g, e' + n * 10 + 6, none⟩ = some (.int .i64 fr) := y 6 _ rfl
      have y7 : wr.cell? ⟨g, e' + n * 10 + 7, none⟩ = some (.int .i64 tt) := y 7 _ rfl
      have y8 : wr.cell? ⟨g, e' + n * 10 + 8, none⟩ = some (.int .i64 E) := y 8 _ rfl
      have y9 : wr.cell? ⟨g, e' + n * 10 + 9, none⟩ = some (.string (bs T)) := y 9 _ rfl
      have hnb : n ≤ 100000 := by have := HLN.out; omega
      have d0 : (0 : Int) ≤ (n : Int) := by omega
      have d1 : (n : Int) < (calls.length : Int) := by omega
      obtain ⟨D, hD⟩ : ∃ D, wr.heap.size = D := ⟨_, rfl⟩
      have hDN : N ≤ D := by have := hB.size; have := HN.out; omega
      have rD := heap_alloc_new wr (.cells #[.int .i64 cl, .int .i64 no, .int .i64 kind, .string (bs k), .string (bs v), .string (bs od), .int .i64 fr, .int .i64 tt, .int .i64 E, .string (bs T)] 51)
      have hbA := (Below.refl wr.heap.size wr).alloc (Nat.le_refl _) (.cells #[.int .i64 cl, .int .i64 no, .int .i64 kind, .string (bs k), .string (bs v), .string (bs od), .int .i64 fr, .int .i64 tt, .int .i64 E, .string (bs T)] 51)
      obtain ⟨WA, hWA⟩ : ∃ W, wr.alloc (.cells #[.int .i64 cl, .int .i64 no, .int .i64 kind, .string (bs k), .string (bs v), .string (bs od), .int .i64 fr, .int .i64 tt, .int .i64 E, .string (bs T)] 51) = W := ⟨_, rfl⟩
      rw [hWA] at rD hbA
      rw [hD] at rD hbA
      have hzA : WA.heap.size = D + 1 := by rw [← hWA, World.size_alloc, hD]
      have HWA : Hid (wr.alloc (.cells #[.int .i64 cl, .int .i64 no, .int .i64 kind, .string (bs k), .string (bs v), .string (bs od), .int .i64 fr, .int .i64 tt, .int .i64 E, .string (bs T)] 51) = WA) := hWA
      have HD : Hid (wr.heap.size = D) := hD
      have hBA : Below N w WA := hB.trans (hbA.mono hDN)
      have hfn := HF.out n _ ho
      obtain ⟨K, hK⟩ : ∃ K, tookF now fr tt = K := ⟨_, rfl⟩
      have hT := took_any cl no kind k v od fr tt E T now WA
      rw [hK] at hT
      have hfn' : f n = K := hfn.trans hK
      have HT : Hid (Calls Tryd.prog 29 #[.agg #[.int .i64 cl, .int .i64 no, .int .i64 kind, .string (bs k), .string (bs v), .string (bs od), .int .i64 fr, .int .i64 tt, .int .i64 E, .string (bs T)], .int .i64 now] WA fun e W' => e = .returned (.int .i64 K) ∧ Below N w W') := hT.mono fun e W' hh => ⟨hh.1, hBA.trans (hh.2.mono (by omega))⟩
      have x0 := cellB rD 0 _ rfl
      have x1 := cellB rD 1 _ rfl
      have x2 := cellB rD 2 _ rfl
      have x3 := cellB rD 3 _ rfl
      have x4 := cellB rD 4 _ rfl
      have x5 := cellB rD 5 _ rfl
      have x6 := cellB rD 6 _ rfl
      have x7 := cellB rD 7 _ rfl
      have x8 := cellB rD 8 _ rfl
      have x9 := cellB rD 9 _ rfl
      obtain ⟨L, hL⟩ : ∃ L, lgF f n = L := ⟨_, rfl⟩
      have hnx : lgF f (n + 1) = if L.2 < K then ((n : Int), K) else L := by rw [lgF, hL, hfn']
      rw [hL]
      obtain ⟨L1, L2⟩ := L
      have HX : Hid (lgF f (n + 1) = if L2 < K then ((n : Int), K) else (L1, L2)) := hnx
      clear hB y hD hDN rD hbA hWA hzA hBA hfn hfn' hT hK hL hnx ho
      go_upto_region 5 with fail
      rw [HWA.out]
      try rw [HD.out]
      clear y0 y1 y2 y3 y4 y5 y6 y7 y8 y9 HWA HD
      by_cases e : L2 < K
      · have HX2 : Hid (lgF f (n + 1) = ((n : Int), K)) := by have := HX.out; rw [if_pos e] at this; exact this
        clear HX
        go_wp2_with (go_at_call 29; refine HT.out.mono ?_; clear HT x0 x1 x2 x3 x4 x5 x6 x7 x8 x9; rintro e1 w1 ⟨rfl, hb1⟩)
        have HB : Hid (Below N w w1) := hb1
        clear hb1
        go_roundg (calls.length - (n + 1))
        case measure => omega
        case rel => exact ⟨n + 1, by omega, by go_num, by rw [HX2.out], by rw [HX2.out], HB.out⟩
      · have HX2 : Hid (lgF f (n + 1) = (L1, L2)) := by have := HX.out; rw [if_neg e] at this; exact this
        clear HX
        go_wp2_with (go_at_call 29; refine HT.out.mono ?_; clear HT x0 x1 x2 x3 x4 x5 x6 x7 x8 x9; rintro e1 w1 ⟨rfl, hb1⟩)
        have HB : Hid (Below N w w1) := hb1
        clear hb1
        go_roundg (calls.length - (n + 1))
        case measure => omega
        case rel => exact ⟨n + 1, by omega, by go_num, by rw [HX2.out], by rw [HX2.out], HB.out⟩
set_option maxRecDepth 20000 in
set_option maxHeartbeats 3000000 in
theorem rLongest_any (calls : List Cl) (vc : Value) (now : Int) (w : World) (hc : SlF ccs 10 w vc calls) (hl : calls.length ≤ 100000) : Calls Tryd.prog 18 #[vc, .int .i64 now] w fun e W' => e = .returned (.tuple #[.int .i64 (lgC now calls).1, .int .i64 (lgC now calls).2]) ∧ Below w.heap.size w W' := by
  obtain ⟨va, vcap, rfl⟩ := hc.slice
  obtain ⟨f, hf⟩ : ∃ f : Nat → Int, tookAt now calls = f := ⟨_, rfl⟩
  rw [lgC, hf]
  have hfi : ∀ i c, calls[i]? = some c → f i = tookF now c.fr c.tt := fun i c h => by rw [← hf]; exact tookAt_at h
  obtain ⟨N, hN⟩ : ∃ N, w.heap.size = N := ⟨_, rfl⟩
  have HN : Hid (w.heap.size = N) := hN
  have HLN : Hid (calls.length ≤ 100000) := hl
  have HF : Hid (∀ i c, calls[i]? = some c → f i = tookF now c.fr c.tt) := hfi
  have HV : Hid (∀ W, Below N w W → SlF ccs 10 W (.slice va calls.length vcap) calls) := fun W hW => hc.on hW (by omega)
  clear hc hN hf hfi hl
  go_enter Tryd.func18, Tryd.ntmps18
  go_wp2_with fail
  go_loopg [6, 7, 13] calls.length (fun gk p q j wr => ∃ n : Nat, n + gk = calls.length ∧ j = .int .i64 n ∧ p = .int .i64 (lgF f n).1 ∧ q = .int .i64 (lgF f n).2 ∧ Below N w wr)
  case atStart => exact ⟨0, by omega, rfl, rfl, rfl, by rw [← HN.out]; exact Below.refl _ _⟩
  case round =>
    obtain ⟨n, hnn, rfl, rfl, rfl, hB⟩ := hrel
    by_cases hn1 : n = calls.length
    · subst hn1
      have HB : Hid (Below N w wr) := hB
      clear hB HV HF
      go_wp2
      exact bodyPost_ret (v := .tuple #[.int .i64 (lgF f calls.length).1, .int .i64 (lgF f calls.length).2]) (by simp [results, Tryd.f18, go_sem]) rfl ⟨rfl, by rw [HN.out]; exact HB.out⟩
    · have hn2 : n < calls.length := by omega
      obtain ⟨c, ho⟩ : ∃ c, calls[n]? = some c := ⟨_, List.getElem?_eq_getElem hn2⟩
      obtain ⟨g, e', hg', -, y⟩ := (HV.out _ hB).at ho
      subst hg'
      obtain ⟨cl, no, ⟨kind, k, v, od⟩, fr, tt, T, E⟩ := c
      have y0 : wr.cell? ⟨g, e' + n * 10, none⟩ = some (.int .i64 cl) := y 0 _ rfl
      have y1 : wr.cell? ⟨g, e' + n * 10 + 1, none⟩ = some (.int .i64 no) := y 1 _ rfl
      have y2 : wr.cell? ⟨g, e' + n * 10 + 2, none⟩ = some (.int .i64 kind) := y 2 _ rfl
      have y3 : wr.cell? ⟨g, e' + n * 10 + 3, none⟩ = some (.string (bs k)) := y 3 _ rfl
      have y4 : wr.cell? ⟨g, e' + n * 10 + 4, none⟩ = some (.string (bs v)) := y 4 _ rfl
      have y5 : wr.cell? ⟨g, e' + n * 10 + 5, none⟩ = some (.string (bs od)) := y 5 _ rfl
      have y6 : wr.cell? ⟨g, e' + n * 10 + 6, none⟩ = some (.int .i64 fr) := y 6 _ rfl
      have y7 : wr.cell? ⟨g, e' + n * 10 + 7, none⟩ = some (.int .i64 tt) := y 7 _ rfl
      have y8 : wr.cell? ⟨g, e' + n * 10 + 8, none⟩ = some (.int .i64 E) := y 8 _ rfl
      have y9 : wr.cell? ⟨g, e' + n * 10 + 9, none⟩ = some (.string (bs T)) := y 9 _ rfl
      have hnb : n ≤ 100000 := by have := HLN.out; omega
      have d0 : (0 : Int) ≤ (n : Int) := by omega
      have d1 : (n : Int) < (calls.length : Int) := by omega
      obtain ⟨D, hD⟩ : ∃ D, wr.heap.size = D := ⟨_, rfl⟩
      have hDN : N ≤ D := by have := hB.size; have := HN.out; omega
      have rD := heap_alloc_new wr (.cells #[.int .i64 cl, .int .i64 no, .int .i64 kind, .string (bs k), .string (bs v), .string (bs od), .int .i64 fr, .int .i64 tt, .int .i64 E, .string (bs T)] 45)
      have hbA := (Below.refl wr.heap.size wr).alloc (Nat.le_refl _) (.cells #[.int .i64 cl, .int .i64 no, .int .i64 kind, .string (bs k), .string (bs v), .string (bs od), .int .i64 fr, .int .i64 tt, .int .i64 E, .string (bs T)] 45)
      obtain ⟨WA, hWA⟩ : ∃ W, wr.alloc (.cells #[.int .i64 cl, .int .i64 no, .int .i64 kind, .string (bs k), .string (bs v), .string (bs od), .int .i64 fr, .int .i64 tt, .int .i64 E, .string (bs T)] 45) = W := ⟨_, rfl⟩
      rw [hWA] at rD hbA
      rw [hD] at rD hbA
      have hzA : WA.heap.size = D + 1 := by rw [← hWA, World.size_alloc, hD]
      have HWA : Hid (wr.alloc (.cells #[.int .i64 cl, .int .i64 no, .int .i64 kind, .string (bs k), .string (bs v), .string (bs od), .int .i64 fr, .int .i64 tt, .int .i64 E, .string (bs T)] 45) = WA) := hWA
      have HD : Hid (wr.heap.size = D) := hD
      have hBA : Below N w WA := hB.trans (hbA.mono hDN)
      have hfn : f n = tookF now fr tt := HF.out n _ ho
      have x0 := cellB rD 0 _ rfl
      have x1 := cellB rD 1 _ rfl
      have x2 := cellB rD 2 _ rfl
      have x3 := cellB rD 3 _ rfl
      have x4 := cellB rD 4 _ rfl
      have x5 := cellB rD 5 _ rfl
      have x6 := cellB rD 6 _ rfl
      have x7 := cellB rD 7 _ rfl
      have x8 := cellB rD 8 _ rfl
      have x9 := cellB rD 9 _ rfl
      have hnn2 := lgF_nonneg f n
      obtain ⟨L, hL⟩ : ∃ L, lgF f n = L := ⟨_, rfl⟩
      have hnx : lgF f (n + 1) = if L.2 < tookF now fr tt then ((n : Int), tookF now fr tt) else L := by rw [lgF, hL, hfn]
      rw [hL] at hnn2 ⊢
      obtain ⟨L1, L2⟩ := L
      have HX : Hid (lgF f (n + 1) = if L2 < tookF now fr tt then ((n : Int), tookF now fr tt) else (L1, L2)) := hnx
      have HL : Hid (0 ≤ L2) := hnn2
      have HB : Hid (Below N w WA) := hBA
      clear hB y hD hDN rD hbA hWA hzA hBA hfn hL hnx ho hnn2
      go_upto_region 6 with fail
      rw [HWA.out]
      try rw [HD.out]
      clear y0 y1 y2 y3 y4 y5 y6 y7 y8 y9 HWA HD
      by_cases h1 : tt = -1
      · have e1 : (if tt = -1 then now else tt) = now := if_pos h1
        have o1 : (tt == -1) = true := by simpa using h1
        by_cases h2 : fr < 0
        · have HX2 : Hid (lgF f (n + 1) = (L1, L2)) := by have := HX.out; rw [tookF_o0 h2, if_neg (by have := HL.out; omega)] at this; exact this
          have h4 : ¬ (0 : Int) ≤ fr := by omega
          clear HX e1 h1 h2
          go_wp2
          go_roundg (calls.length - (n + 1))
          case measure => omega
          case rel => exact ⟨n + 1, by omega, by go_num, by rw [HX2.out], by rw [HX2.out], HB.out⟩
        · by_cases h3 : now < fr
          · have HX2 : Hid (lgF f (n + 1) = (L1, L2)) := by have := HX.out; rw [tookF_o1 e1 h3, if_neg (by have := HL.out; omega)] at this; exact this
            have h4 : (0 : Int) ≤ fr := by omega
            have h5 : ¬ fr ≤ now := by omega
            clear HX e1 h1 h2 h3
            go_wp2
            go_roundg (calls.length - (n + 1))
            case measure => omega
            case rel => exact ⟨n + 1, by omega, by go_num, by rw [HX2.out], by rw [HX2.out], HB.out⟩
          · have hX := HX.out
            rw [tookF_o2 e1 h2 h3] at hX
            have h4 : (0 : Int) ≤ fr := by omega
            have h5 : fr ≤ now := by omega
            obtain ⟨K, hK⟩ : ∃ K, wrap64 (now - fr) = K := ⟨_, rfl⟩
            rw [hK] at hX
            clear HX e1 h1 h2 h3
            by_cases h6 : L2 < K
            · have HX2 : Hid (lgF f (n + 1) = ((n : Int), K)) := by rw [if_pos h6] at hX; exact hX
              clear hX
              go_wp2
              go_roundg (calls.length - (n + 1))
              case measure => omega
              case rel => exact ⟨n + 1, by omega, by go_num, by rw [HX2.out], by rw [HX2.out]; exact congrArg _ hK, HB.out⟩
            · have HX2 : Hid (lgF f (n + 1) = (L1, L2)) := by rw [if_neg h6] at hX; exact hX
              clear hX
              go_wp2
              go_roundg (calls.length - (n + 1))
              case measure => omega
              case rel => exact ⟨n + 1, by omega, by go_num, by rw [HX2.out], by rw [HX2.out], HB.out⟩
      · have e1 : (if tt = -1 then now else tt) = tt := if_neg h1
        have o1 : (tt == -1) = false := by simpa using h1
        by_cases h2 : fr < 0
        · have HX2 : Hid (lgF f (n + 1) = (L1, L2)) := by have := HX.out; rw [tookF_o0 h2, if_neg (by have := HL.out; omega)] at this; exact this
          have h4 : ¬ (0 : Int) ≤ fr := by omega
          clear HX e1 h1 h2
          go_wp2
          go_roundg (calls.length - (n + 1))
          case measure => omega
          case rel => exact ⟨n + 1, by omega, by go_num, by rw [HX2.out], by rw [HX2.out], HB.out⟩
        · by_cases h3 : tt < fr
          · have HX2 : Hid (lgF f (n + 1) = (L1, L2)) := by have := HX.out; rw [tookF_o1 e1 h3, if_neg (by have := HL.out; omega)] at this; exact this
            have h4 : (0 : Int) ≤ fr := by omega
            have h5 : ¬ fr ≤ tt := by omega
            clear HX e1 h1 h2 h3
            go_wp2
            go_roundg (calls.length - (n + 1))
            case measure => omega
            case rel => exact ⟨n + 1, by omega, by go_num, by rw [HX2.out], by rw [HX2.out], HB.out⟩
          · have hX := HX.out
            rw [tookF_o2 e1 h2 h3] at hX
            have h4 : (0 : Int) ≤ fr := by omega
            have h5 : fr ≤ tt := by omega
            obtain ⟨K, hK⟩ : ∃ K, wrap64 (tt - fr) = K := ⟨_, rfl⟩
            rw [hK] at hX
            clear HX e1 h1 h2 h3
            by_cases h6 : L2 < K
            · have HX2 : Hid (lgF f (n + 1) = ((n : Int), K)) := by rw [if_pos h6] at hX; exact hX
              clear hX
              go_wp2
              go_roundg (calls.length - (n + 1))
              case measure => omega
              case rel => exact ⟨n + 1, by omega, by go_num, by rw [HX2.out], by rw [HX2.out]; exact congrArg _ hK, HB.out⟩
            · have HX2 : Hid (lgF f (n + 1) = (L1, L2)) := by rw [if_neg h6] at hX; exact hX
              clear hX
              go_wp2
              go_roundg (calls.length - (n + 1))
              case measure => omega
              case rel => exact ⟨n + 1, by omega, by go_num, by rw [HX2.out], by rw [HX2.out], HB.out⟩
end Go.Proofs.YtihilkdokfdoeaaDoor
