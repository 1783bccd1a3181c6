/- What bytes say, by the program: walked. -/
import Derived.Test.YtmkjcfakopbdhaaGreatDoorMeF
import Derived.Deep.RegionHeld3
import Derived.Deep.DeepCutAuto
namespace Go.Proofs.YtmkjcfakopbdhaaGreatDoor
open Go.RowKit
attribute [local go_sem ↓] Go.wp_at_zero Go.wp_at_succ

set_option maxRecDepth 20000 in
set_option maxHeartbeats 4000000 in
theorem Decode_any (s : List UInt8) (w : World) (hs : s.length ≤ 500000) (he : EnvM w) :
    Calls Tryz.prog 8 #[.string (bs s)] w fun e W' => e = .returned (.tuple #[.agg #[.int .i64 (deV s).1, .int .i64 (deV s).2.1, .int .i64 (deV s).2.2.1, .int .i64 (deV s).2.2.2.1, .int .i64 (deV s).2.2.2.2.1, .string (bs (deV s).2.2.2.2.2.1), .string (bs (deV s).2.2.2.2.2.2)], .int .i64 (deE s)]) ∧ Below w.heap.size w W' := by
  have hb0 : Below w.heap.size w (w.alloc (.cells #[.int .i64 0, .int .i64 0, .int .i64 0, .int .i64 0, .int .i64 0, .string ⟨#[]⟩, .string ⟨#[]⟩] 25)) := (Below.refl _ w).alloc (Nat.le_refl _) _
  have r0 : (w.alloc (.cells #[.int .i64 0, .int .i64 0, .int .i64 0, .int .i64 0, .int .i64 0, .string ⟨#[]⟩, .string ⟨#[]⟩] 25)).heap[w.heap.size]? = some (.cells #[.int .i64 0, .int .i64 0, .int .i64 0, .int .i64 0, .int .i64 0, .string ⟨#[]⟩, .string ⟨#[]⟩] 25) := heap_alloc_new _ _
  have hlp : w.heap.size < (w.alloc (.cells #[.int .i64 0, .int .i64 0, .int .i64 0, .int .i64 0, .int .i64 0, .string ⟨#[]⟩, .string ⟨#[]⟩] 25)).heap.size := by simp
  have hU := Unpack_any s (w.alloc (.cells #[.int .i64 0, .int .i64 0, .int .i64 0, .int .i64 0, .int .i64 0, .string ⟨#[]⟩, .string ⟨#[]⟩] 25)) (by omega) (he.env.next hb0)
  by_cases hg : errOf s = 0 ∧ (texts s).length = 6
  · obtain ⟨h0, h6⟩ := hg
    obtain ⟨a, b, c, d, t, tg, hT⟩ := list6 h6
    have hla := texts_mem (s := s) (t := a) (by rw [hT]; simp)
    have hlb := texts_mem (s := s) (t := b) (by rw [hT]; simp)
    have hlc := texts_mem (s := s) (t := c) (by rw [hT]; simp)
    have hld := texts_mem (s := s) (t := d) (by rw [hT]; simp)
    have hlt := texts_mem (s := s) (t := t) (by rw [hT]; simp)
    rw [h0, hT] at hU
    have hTN : ∀ x : List UInt8, x.length ≤ s.length → ∀ W : World, Env W → Calls Tryz.prog 20 #[.string (bs x)] W fun e W' => e = .returned (.tuple #[.int .i64 (tnV x), .int .i64 (tnE x)]) ∧ Below W.heap.size W W' := fun x hx W h => ToNum_any (bs x) W (by rw [bs_size]; omega) h
    have hP := fun (W : World) (h : Env W) => Party_any b W (by omega) h
    have hC := fun (W : World) (h : EnvM W) => Encode_any (tnV a) (partyG b) (partyN b) (tnV c) (tnV d) t tg W h
    have hta := hTN a hla
    have htc := hTN c hlc
    have htd := hTN d hld
    have hcase := de_loose hT
    obtain ⟨K, hK⟩ : ∃ x, tnV a = x := ⟨_, rfl⟩
    obtain ⟨G, hG⟩ : ∃ x, partyG b = x := ⟨_, rfl⟩
    obtain ⟨N, hN⟩ : ∃ x, partyN b = x := ⟨_, rfl⟩
    obtain ⟨V, hV⟩ : ∃ x, tnV c = x := ⟨_, rfl⟩
    obtain ⟨M, hM⟩ : ∃ x, tnV d = x := ⟨_, rfl⟩
    obtain ⟨E1, hE1⟩ : ∃ x, tnE a = x := ⟨_, rfl⟩
    obtain ⟨E2, hE2⟩ : ∃ x, partyE b = x := ⟨_, rfl⟩
    obtain ⟨E3, hE3⟩ : ∃ x, tnE c = x := ⟨_, rfl⟩
    obtain ⟨E4, hE4⟩ : ∃ x, tnE d = x := ⟨_, rfl⟩
    rw [hK, hE1] at hta
    rw [hV, hE3] at htc
    rw [hM, hE4] at htd
    rw [hG, hN, hE2] at hP
    rw [hK, hG, hN, hV, hM] at hC
    rw [hK, hG, hN, hV, hM] at hcase
    clear hK hG hN hV hM hE1 hE2 hE3 hE4 hTN hT h0 h6 hla hlb hlc hld hs
    rcases hcase with ⟨hc, hm, hv9, he9⟩ | ⟨hn, hv9, he9⟩
    · rw [hv9, he9]
      simp only
      rw [meV, if_pos hc, hm, hc] at hC
      have hss := strs_same s
      clear hv9 he9 hc hm
      go_enter Tryz.func8, Tryz.ntmps8
      go_wp2_with fail
      refine hU.mono ?_
      clear hU
      rintro e w1 ⟨u, rfl, hv, hb1⟩
      obtain ⟨vb, vo, vc, rfl, hvl, c0, c1, c2, c3, c4, c5⟩ := (Sl.of_owns (l := [a, b, c, d, t, tg]) hv).cells6
      have hvg := own_geM hv vb rfl
      have hB1 := hb0.trans (hb1.mono hb0.size)
      have r1 := (hb1.block w.heap.size hlp).trans r0
      have hl1 : w.heap.size < w1.heap.size := (Array.getElem?_eq_some_iff.1 r1).1
      have HK : Hid (∀ W, Below w1.heap.size w1 W → (W.cell? ⟨vb, vo + 1, none⟩ = some (.string (bs b)) ∧ W.cell? ⟨vb, vo + 2, none⟩ = some (.string (bs c)) ∧ W.cell? ⟨vb, vo + 3, none⟩ = some (.string (bs d)) ∧ W.cell? ⟨vb, vo + 4, none⟩ = some (.string (bs t)) ∧ W.cell? ⟨vb, vo + 5, none⟩ = some (.string (bs tg)) ∧ W.heap[w.heap.size]? = some (.cells #[.int .i64 0, .int .i64 0, .int .i64 0, .int .i64 0, .int .i64 0, .string ⟨#[]⟩, .string ⟨#[]⟩] 25))) := fun W hb => ⟨(hb.cell hvl).trans c1, (hb.cell hvl).trans c2, (hb.cell hvl).trans c3, (hb.cell hvl).trans c4, (hb.cell hvl).trans c5, (hb.block _ hl1).trans r1⟩
      have HV : Hid (w.heap.size < vb) := by show _ < _; rw [World.size_alloc] at hvg; omega
      have HL : Hid (w.heap.size < w1.heap.size ∧ vb < w1.heap.size) := ⟨hl1, hvl⟩
      have HB1 : Hid (Below w.heap.size w w1) := hB1
      clear hv hb1 r0 hb0 hlp hvg c1 c2 c3 c4 c5 r1 hl1 hB1 hvl
      go_wp2_with fail
      refine (hta w1 (he.env.next HB1.out)).mono ?_
      clear hta
      rintro e w2 ⟨rfl, hb2⟩
      have HB2 : Hid (Below w1.heap.size w1 w2) := hb2
      obtain ⟨d1, -, -, -, -, -⟩ := HK.out w2 hb2
      clear hb2 c0
      go_wp2_with fail
      refine (hP w2 (he.env.next (HB1.out.trans (HB2.out.mono HB1.out.size)))).mono ?_
      clear hP
      rintro e w3 ⟨rfl, hb3⟩
      have HB3 : Hid (Below w1.heap.size w1 w3) := HB2.out.trans (hb3.mono HB2.out.size)
      obtain ⟨-, d2, -, -, -, -⟩ := HK.out w3 HB3.out
      have hb4 : Below w3.heap.size w3 (w3.alloc (.cells #[.int .i64 G, .int .i64 N] 23)) := (Below.refl _ _).alloc (Nat.le_refl _) _
      have HQ : Hid ((w3.alloc (.cells #[.int .i64 G, .int .i64 N] 23)).heap[w3.heap.size]? = some (.cells #[.int .i64 G, .int .i64 N] 23)) := heap_alloc_new _ _
      have HB4 : Hid (Below w1.heap.size w1 (w3.alloc (.cells #[.int .i64 G, .int .i64 N] 23))) := HB3.out.trans (hb4.mono HB3.out.size)
      obtain ⟨-, d22, -, -, -, -⟩ := HK.out _ HB4.out
      have HL3 : Hid (w3.heap.size < (w3.alloc (.cells #[.int .i64 G, .int .i64 N] 23)).heap.size) := by show _ < _; simp
      clear hb3 hb4 d1 d2
      go_wp2_with fail
      obtain ⟨W4, hW4⟩ : ∃ W, w3.alloc (.cells #[.int .i64 G, .int .i64 N] 23) = W := ⟨_, rfl⟩
      rw [hW4] at HQ HB4 HL3 ⊢
      have HY : Hid (∀ W, Below W4.heap.size W4 W → (W.cell? ⟨w3.heap.size, 0, none⟩ = some (.int .i64 G) ∧ W.cell? ⟨w3.heap.size, 1, none⟩ = some (.int .i64 N))) := fun W hb => by
        have r := (hb.block _ HL3.out).trans HQ.out
        exact ⟨cellB r 0 _ rfl, cellB r 1 _ rfl⟩
      clear hW4
      refine (htc W4 (he.env.next (HB1.out.trans (HB4.out.mono HB1.out.size)))).mono ?_
      clear htc
      rintro e w5 ⟨rfl, hb5⟩
      have HX5 : Hid (Below W4.heap.size W4 w5) := hb5
      have HB5 : Hid (Below w1.heap.size w1 w5) := HB4.out.trans (hb5.mono HB4.out.size)
      obtain ⟨-, -, d3, -, -, -⟩ := HK.out w5 HB5.out
      clear hb5 d22
      go_wp2_with fail
      refine (htd w5 (he.env.next (HB1.out.trans (HB5.out.mono HB1.out.size)))).mono ?_
      clear htd
      rintro e w6 ⟨rfl, hb6⟩
      have HX6 : Hid (Below W4.heap.size W4 w6) := HX5.out.trans (hb6.mono HX5.out.size)
      have HB6 : Hid (Below w1.heap.size w1 w6) := HB5.out.trans (hb6.mono HB5.out.size)
      obtain ⟨-, -, -, d4, d5, -⟩ := HK.out w6 HB6.out
      obtain ⟨y0, y1⟩ := HY.out w6 HX6.out
      clear hb6 d3
      go_wp2_with fail
      go_region_held3 (fun w' => w'.cell? ⟨w3.heap.size, 0, none⟩ = some (.int .i64 G) ∧ w'.cell? ⟨w3.heap.size, 1, none⟩ = some (.int .i64 N) ∧ w'.cell? ⟨vb, vo + 4, none⟩ = some (.string (bs t)) ∧ w'.cell? ⟨vb, vo + 5, none⟩ = some (.string (bs tg))) (go_keep) (fail)
      have hb7 : Below w6.heap.size w6 (w6.alloc (.cells #[.int .i64 K, .int .i64 G, .int .i64 N, .int .i64 V, .int .i64 M, .string (bs t), .string (bs tg)] 25)).drew := below_drew ((Below.refl _ _).alloc (Nat.le_refl _) _)
      have HM : Hid ((w6.alloc (.cells #[.int .i64 K, .int .i64 G, .int .i64 N, .int .i64 V, .int .i64 M, .string (bs t), .string (bs tg)] 25)).drew.heap[w6.heap.size]? = some (.cells #[.int .i64 K, .int .i64 G, .int .i64 N, .int .i64 V, .int .i64 M, .string (bs t), .string (bs tg)] 25)) := heap_alloc_new _ _
      have HL7 : Hid (w6.heap.size < (w6.alloc (.cells #[.int .i64 K, .int .i64 G, .int .i64 N, .int .i64 V, .int .i64 M, .string (bs t), .string (bs tg)] 25)).drew.heap.size) := by show _ < (w6.alloc _).heap.size; simp
      obtain ⟨W7, hW7⟩ : ∃ W, (w6.alloc (.cells #[.int .i64 K, .int .i64 G, .int .i64 N, .int .i64 V, .int .i64 M, .string (bs t), .string (bs tg)] 25)).drew = W := ⟨_, rfl⟩
      rw [hW7] at hb7 HM HL7 ⊢
      clear hW7 y0 y1 d4 d5
      have HB7 : Hid (Below w1.heap.size w1 W7) := HB6.out.trans (hb7.mono HB6.out.size)
      clear hb7
      have m7 := HM.out
      have v0 := cellB m7 0 (.int .i64 K) rfl
      have v1 := cellB m7 1 (.int .i64 G) rfl
      have v2 := cellB m7 2 (.int .i64 N) rfl
      have v3 := cellB m7 3 (.int .i64 V) rfl
      have v4 := cellB m7 4 (.int .i64 M) rfl
      have v5 := cellB m7 5 (.string (bs t)) rfl
      have v6 := cellB m7 6 (.string (bs tg)) rfl
      go_wp2_with fail
      refine (hC W7 (he.next (HB1.out.trans (HB7.out.mono HB1.out.size)))).mono ?_
      clear hC
      rintro e w8 ⟨rfl, hb8⟩
      have hB8 : Below w.heap.size w w8 := HB1.out.trans ((HB7.out.trans (hb8.mono HB7.out.size)).mono HB1.out.size)
      obtain ⟨-, -, -, -, -, r8⟩ := HK.out w8 (HB7.out.trans (hb8.mono HB7.out.size))
      clear v0 v1 v2 v3 v4 v5 v6 m7
      have m8 := (hb8.block _ HL7.out).trans HM.out
      have x0 := cellB m8 0 (.int .i64 K) rfl
      have x1 := cellB m8 1 (.int .i64 G) rfl
      have x2 := cellB m8 2 (.int .i64 N) rfl
      have x3 := cellB m8 3 (.int .i64 V) rfl
      have x4 := cellB m8 4 (.int .i64 M) rfl
      have x5 := cellB m8 5 (.string (bs t)) rfl
      have x6 := cellB m8 6 (.string (bs tg)) rfl
      clear hb8 HK HY HQ HM
      have f0 := frozenB r8 0
      have f1 := frozenB r8 1
      have f2 := frozenB r8 2
      have f3 := frozenB r8 3
      have f4 := frozenB r8 4
      have f5 := frozenB r8 5
      have f6 := frozenB r8 6
      have s0 := cellB r8 0 (.int .i64 0) rfl
      have s1 := cellB r8 1 (.int .i64 0) rfl
      have s2 := cellB r8 2 (.int .i64 0) rfl
      have s3 := cellB r8 3 (.int .i64 0) rfl
      have s4 := cellB r8 4 (.int .i64 0) rfl
      have s5 := cellB r8 5 (.string ⟨#[]⟩) rfl
      have s6 := cellB r8 6 (.string ⟨#[]⟩) rfl
      have hr7 := set7 r8 (.int .i64 K) (.int .i64 G) (.int .i64 N) (.int .i64 V) (.int .i64 M) (.string (bs t)) (.string (bs tg))
      have z0 := cellB hr7 0 (.int .i64 K) rfl
      have z1 := cellB hr7 1 (.int .i64 G) rfl
      have z2 := cellB hr7 2 (.int .i64 N) rfl
      have z3 := cellB hr7 3 (.int .i64 V) rfl
      have z4 := cellB hr7 4 (.int .i64 M) rfl
      have z5 := cellB hr7 5 (.string (bs t)) rfl
      have z6 := cellB hr7 6 (.string (bs tg)) rfl
      have hBz := (((((((hB8).setCell (p := ⟨w.heap.size, 0, none⟩) (Nat.le_refl _) (.int .i64 K)).setCell (p := ⟨w.heap.size, 1, none⟩) (Nat.le_refl _) (.int .i64 G)).setCell (p := ⟨w.heap.size, 2, none⟩) (Nat.le_refl _) (.int .i64 N)).setCell (p := ⟨w.heap.size, 3, none⟩) (Nat.le_refl _) (.int .i64 V)).setCell (p := ⟨w.heap.size, 4, none⟩) (Nat.le_refl _) (.int .i64 M)).setCell (p := ⟨w.heap.size, 5, none⟩) (Nat.le_refl _) (.string (bs t))).setCell (p := ⟨w.heap.size, 6, none⟩) (Nat.le_refl _) (.string (bs tg))
      clear hr7
      go_wp2
      exact bodyPost_ret (v := .tuple #[.agg #[.int .i64 K, .int .i64 G, .int .i64 N, .int .i64 V, .int .i64 M, .string (bs t), .string (bs tg)], .int .i64 0]) (by simp [results, Tryz.f8, go_sem, z0, z1, z2, z3, z4, z5, z6]) rfl ⟨rfl, hBz⟩
    · rw [hv9, he9]
      simp only [deZ]
      obtain ⟨PL, hPL⟩ : ∃ x, meV K G N V M t tg = x := ⟨_, rfl⟩
      obtain ⟨CE, hCE⟩ : ∃ x, cE K G N V M t.length tg.length = x := ⟨_, rfl⟩
      have hd : CE = 0 ∧ PL ≠ s ∨ (CE != 0) = true := by
        by_cases h0 : CE = 0
        · exact .inl ⟨h0, fun e => hn ⟨hCE.trans h0, by rw [← e, ← hPL, meV, if_pos (hCE.trans h0)]⟩⟩
        · exact .inr (by simpa using h0)
      rw [hPL, hCE] at hC
      clear hv9 he9 hn hPL hCE
      rcases hd with ⟨rfl, hne⟩ | hq
      · have hss := strs_other hne
        clear hne
        go_enter Tryz.func8, Tryz.ntmps8
        go_wp2_with fail
        refine hU.mono ?_
        clear hU
        rintro e w1 ⟨u, rfl, hv, hb1⟩
        obtain ⟨vb, vo, vc, rfl, hvl, c0, c1, c2, c3, c4, c5⟩ := (Sl.of_owns (l := [a, b, c, d, t, tg]) hv).cells6
        have hvg := own_geM hv vb rfl
        have hB1 := hb0.trans (hb1.mono hb0.size)
        have r1 := (hb1.block w.heap.size hlp).trans r0
        have hl1 : w.heap.size < w1.heap.size := (Array.getElem?_eq_some_iff.1 r1).1
        have HK : Hid (∀ W, Below w1.heap.size w1 W → (W.cell? ⟨vb, vo + 1, none⟩ = some (.string (bs b)) ∧ W.cell? ⟨vb, vo + 2, none⟩ = some (.string (bs c)) ∧ W.cell? ⟨vb, vo + 3, none⟩ = some (.string (bs d)) ∧ W.cell? ⟨vb, vo + 4, none⟩ = some (.string (bs t)) ∧ W.cell? ⟨vb, vo + 5, none⟩ = some (.string (bs tg)) ∧ W.heap[w.heap.size]? = some (.cells #[.int .i64 0, .int .i64 0, .int .i64 0, .int .i64 0, .int .i64 0, .string ⟨#[]⟩, .string ⟨#[]⟩] 25))) := fun W hb => ⟨(hb.cell hvl).trans c1, (hb.cell hvl).trans c2, (hb.cell hvl).trans c3, (hb.cell hvl).trans c4, (hb.cell hvl).trans c5, (hb.block _ hl1).trans r1⟩
        have HV : Hid (w.heap.size < vb) := by show _ < _; rw [World.size_alloc] at hvg; omega
        have HL : Hid (w.heap.size < w1.heap.size ∧ vb < w1.heap.size) := ⟨hl1, hvl⟩
        have HB1 : Hid (Below w.heap.size w w1) := hB1
        clear hv hb1 r0 hb0 hlp hvg c1 c2 c3 c4 c5 r1 hl1 hB1 hvl
        go_wp2_with fail
        refine (hta w1 (he.env.next HB1.out)).mono ?_
        clear hta
        rintro e w2 ⟨rfl, hb2⟩
        have HB2 : Hid (Below w1.heap.size w1 w2) := hb2
        obtain ⟨d1, -, -, -, -, -⟩ := HK.out w2 hb2
        clear hb2 c0
        go_wp2_with fail
        refine (hP w2 (he.env.next (HB1.out.trans (HB2.out.mono HB1.out.size)))).mono ?_
        clear hP
        rintro e w3 ⟨rfl, hb3⟩
        have HB3 : Hid (Below w1.heap.size w1 w3) := HB2.out.trans (hb3.mono HB2.out.size)
        obtain ⟨-, d2, -, -, -, -⟩ := HK.out w3 HB3.out
        have hb4 : Below w3.heap.size w3 (w3.alloc (.cells #[.int .i64 G, .int .i64 N] 23)) := (Below.refl _ _).alloc (Nat.le_refl _) _
        have HQ : Hid ((w3.alloc (.cells #[.int .i64 G, .int .i64 N] 23)).heap[w3.heap.size]? = some (.cells #[.int .i64 G, .int .i64 N] 23)) := heap_alloc_new _ _
        have HB4 : Hid (Below w1.heap.size w1 (w3.alloc (.cells #[.int .i64 G, .int .i64 N] 23))) := HB3.out.trans (hb4.mono HB3.out.size)
        obtain ⟨-, d22, -, -, -, -⟩ := HK.out _ HB4.out
        have HL3 : Hid (w3.heap.size < (w3.alloc (.cells #[.int .i64 G, .int .i64 N] 23)).heap.size) := by show _ < _; simp
        clear hb3 hb4 d1 d2
        go_wp2_with fail
        obtain ⟨W4, hW4⟩ : ∃ W, w3.alloc (.cells #[.int .i64 G, .int .i64 N] 23) = W := ⟨_, rfl⟩
        rw [hW4] at HQ HB4 HL3 ⊢
        have HY : Hid (∀ W, Below W4.heap.size W4 W → (W.cell? ⟨w3.heap.size, 0, none⟩ = some (.int .i64 G) ∧ W.cell? ⟨w3.heap.size, 1, none⟩ = some (.int .i64 N))) := fun W hb => by
          have r := (hb.block _ HL3.out).trans HQ.out
          exact ⟨cellB r 0 _ rfl, cellB r 1 _ rfl⟩
        clear hW4
        refine (htc W4 (he.env.next (HB1.out.trans (HB4.out.mono HB1.out.size)))).mono ?_
        clear htc
        rintro e w5 ⟨rfl, hb5⟩
        have HX5 : Hid (Below W4.heap.size W4 w5) := hb5
        have HB5 : Hid (Below w1.heap.size w1 w5) := HB4.out.trans (hb5.mono HB4.out.size)
        obtain ⟨-, -, d3, -, -, -⟩ := HK.out w5 HB5.out
        clear hb5 d22
        go_wp2_with fail
        refine (htd w5 (he.env.next (HB1.out.trans (HB5.out.mono HB1.out.size)))).mono ?_
        clear htd
        rintro e w6 ⟨rfl, hb6⟩
        have HX6 : Hid (Below W4.heap.size W4 w6) := HX5.out.trans (hb6.mono HX5.out.size)
        have HB6 : Hid (Below w1.heap.size w1 w6) := HB5.out.trans (hb6.mono HB5.out.size)
        obtain ⟨-, -, -, d4, d5, -⟩ := HK.out w6 HB6.out
        obtain ⟨y0, y1⟩ := HY.out w6 HX6.out
        clear hb6 d3
        go_wp2_with fail
        go_region_held3 (fun w' => w'.cell? ⟨w3.heap.size, 0, none⟩ = some (.int .i64 G) ∧ w'.cell? ⟨w3.heap.size, 1, none⟩ = some (.int .i64 N) ∧ w'.cell? ⟨vb, vo + 4, none⟩ = some (.string (bs t)) ∧ w'.cell? ⟨vb, vo + 5, none⟩ = some (.string (bs tg))) (go_keep) (fail)
        have hb7 : Below w6.heap.size w6 (w6.alloc (.cells #[.int .i64 K, .int .i64 G, .int .i64 N, .int .i64 V, .int .i64 M, .string (bs t), .string (bs tg)] 25)).drew := below_drew ((Below.refl _ _).alloc (Nat.le_refl _) _)
        have HM : Hid ((w6.alloc (.cells #[.int .i64 K, .int .i64 G, .int .i64 N, .int .i64 V, .int .i64 M, .string (bs t), .string (bs tg)] 25)).drew.heap[w6.heap.size]? = some (.cells #[.int .i64 K, .int .i64 G, .int .i64 N, .int .i64 V, .int .i64 M, .string (bs t), .string (bs tg)] 25)) := heap_alloc_new _ _
        have HL7 : Hid (w6.heap.size < (w6.alloc (.cells #[.int .i64 K, .int .i64 G, .int .i64 N, .int .i64 V, .int .i64 M, .string (bs t), .string (bs tg)] 25)).drew.heap.size) := by show _ < (w6.alloc _).heap.size; simp
        obtain ⟨W7, hW7⟩ : ∃ W, (w6.alloc (.cells #[.int .i64 K, .int .i64 G, .int .i64 N, .int .i64 V, .int .i64 M, .string (bs t), .string (bs tg)] 25)).drew = W := ⟨_, rfl⟩
        rw [hW7] at hb7 HM HL7 ⊢
        clear hW7 y0 y1 d4 d5
        have HB7 : Hid (Below w1.heap.size w1 W7) := HB6.out.trans (hb7.mono HB6.out.size)
        clear hb7
        have m7 := HM.out
        have v0 := cellB m7 0 (.int .i64 K) rfl
        have v1 := cellB m7 1 (.int .i64 G) rfl
        have v2 := cellB m7 2 (.int .i64 N) rfl
        have v3 := cellB m7 3 (.int .i64 V) rfl
        have v4 := cellB m7 4 (.int .i64 M) rfl
        have v5 := cellB m7 5 (.string (bs t)) rfl
        have v6 := cellB m7 6 (.string (bs tg)) rfl
        go_wp2_with fail
        refine (hC W7 (he.next (HB1.out.trans (HB7.out.mono HB1.out.size)))).mono ?_
        clear hC
        rintro e w8 ⟨rfl, hb8⟩
        have hB8 : Below w.heap.size w w8 := HB1.out.trans ((HB7.out.trans (hb8.mono HB7.out.size)).mono HB1.out.size)
        obtain ⟨-, -, -, -, -, r8⟩ := HK.out w8 (HB7.out.trans (hb8.mono HB7.out.size))
        clear v0 v1 v2 v3 v4 v5 v6 m7
        clear hb8 HK HY HQ HM
        have f0 := frozenB r8 0
        have f1 := frozenB r8 1
        have f2 := frozenB r8 2
        have f3 := frozenB r8 3
        have f4 := frozenB r8 4
        have f5 := frozenB r8 5
        have f6 := frozenB r8 6
        have s0 := cellB r8 0 (.int .i64 0) rfl
        have s1 := cellB r8 1 (.int .i64 0) rfl
        have s2 := cellB r8 2 (.int .i64 0) rfl
        have s3 := cellB r8 3 (.int .i64 0) rfl
        have s4 := cellB r8 4 (.int .i64 0) rfl
        have s5 := cellB r8 5 (.string ⟨#[]⟩) rfl
        have s6 := cellB r8 6 (.string ⟨#[]⟩) rfl
        have hr7 := set7 r8 (.int .i64 0) (.int .i64 0) (.int .i64 0) (.int .i64 0) (.int .i64 0) (.string ⟨#[]⟩) (.string ⟨#[]⟩)
        have z0 := cellB hr7 0 (.int .i64 0) rfl
        have z1 := cellB hr7 1 (.int .i64 0) rfl
        have z2 := cellB hr7 2 (.int .i64 0) rfl
        have z3 := cellB hr7 3 (.int .i64 0) rfl
        have z4 := cellB hr7 4 (.int .i64 0) rfl
        have z5 := cellB hr7 5 (.string ⟨#[]⟩) rfl
        have z6 := cellB hr7 6 (.string ⟨#[]⟩) rfl
        have hBz := (((((((hB8).setCell (p := ⟨w.heap.size, 0, none⟩) (Nat.le_refl _) (.int .i64 0)).setCell (p := ⟨w.heap.size, 1, none⟩) (Nat.le_refl _) (.int .i64 0)).setCell (p := ⟨w.heap.size, 2, none⟩) (Nat.le_refl _) (.int .i64 0)).setCell (p := ⟨w.heap.size, 3, none⟩) (Nat.le_refl _) (.int .i64 0)).setCell (p := ⟨w.heap.size, 4, none⟩) (Nat.le_refl _) (.int .i64 0)).setCell (p := ⟨w.heap.size, 5, none⟩) (Nat.le_refl _) (.string ⟨#[]⟩)).setCell (p := ⟨w.heap.size, 6, none⟩) (Nat.le_refl _) (.string ⟨#[]⟩)
        clear hr7
        go_wp2
        exact bodyPost_ret (v := .tuple #[.agg #[.int .i64 0, .int .i64 0, .int .i64 0, .int .i64 0, .int .i64 0, .string ⟨#[]⟩, .string ⟨#[]⟩], .int .i64 4]) (by simp [results, Tryz.f8, go_sem, z0, z1, z2, z3, z4, z5, z6]) rfl ⟨rfl, hBz⟩
      · go_enter Tryz.func8, Tryz.ntmps8
        go_wp2_with fail
        refine hU.mono ?_
        clear hU
        rintro e w1 ⟨u, rfl, hv, hb1⟩
        obtain ⟨vb, vo, vc, rfl, hvl, c0, c1, c2, c3, c4, c5⟩ := (Sl.of_owns (l := [a, b, c, d, t, tg]) hv).cells6
        have hvg := own_geM hv vb rfl
        have hB1 := hb0.trans (hb1.mono hb0.size)
        have r1 := (hb1.block w.heap.size hlp).trans r0
        have hl1 : w.heap.size < w1.heap.size := (Array.getElem?_eq_some_iff.1 r1).1
        have HK : Hid (∀ W, Below w1.heap.size w1 W → (W.cell? ⟨vb, vo + 1, none⟩ = some (.string (bs b)) ∧ W.cell? ⟨vb, vo + 2, none⟩ = some (.string (bs c)) ∧ W.cell? ⟨vb, vo + 3, none⟩ = some (.string (bs d)) ∧ W.cell? ⟨vb, vo + 4, none⟩ = some (.string (bs t)) ∧ W.cell? ⟨vb, vo + 5, none⟩ = some (.string (bs tg)) ∧ W.heap[w.heap.size]? = some (.cells #[.int .i64 0, .int .i64 0, .int .i64 0, .int .i64 0, .int .i64 0, .string ⟨#[]⟩, .string ⟨#[]⟩] 25))) := fun W hb => ⟨(hb.cell hvl).trans c1, (hb.cell hvl).trans c2, (hb.cell hvl).trans c3, (hb.cell hvl).trans c4, (hb.cell hvl).trans c5, (hb.block _ hl1).trans r1⟩
        have HV : Hid (w.heap.size < vb) := by show _ < _; rw [World.size_alloc] at hvg; omega
        have HL : Hid (w.heap.size < w1.heap.size ∧ vb < w1.heap.size) := ⟨hl1, hvl⟩
        have HB1 : Hid (Below w.heap.size w w1) := hB1
        clear hv hb1 r0 hb0 hlp hvg c1 c2 c3 c4 c5 r1 hl1 hB1 hvl
        go_wp2_with fail
        refine (hta w1 (he.env.next HB1.out)).mono ?_
        clear hta
        rintro e w2 ⟨rfl, hb2⟩
        have HB2 : Hid (Below w1.heap.size w1 w2) := hb2
        obtain ⟨d1, -, -, -, -, -⟩ := HK.out w2 hb2
        clear hb2 c0
        go_wp2_with fail
        refine (hP w2 (he.env.next (HB1.out.trans (HB2.out.mono HB1.out.size)))).mono ?_
        clear hP
        rintro e w3 ⟨rfl, hb3⟩
        have HB3 : Hid (Below w1.heap.size w1 w3) := HB2.out.trans (hb3.mono HB2.out.size)
        obtain ⟨-, d2, -, -, -, -⟩ := HK.out w3 HB3.out
        have hb4 : Below w3.heap.size w3 (w3.alloc (.cells #[.int .i64 G, .int .i64 N] 23)) := (Below.refl _ _).alloc (Nat.le_refl _) _
        have HQ : Hid ((w3.alloc (.cells #[.int .i64 G, .int .i64 N] 23)).heap[w3.heap.size]? = some (.cells #[.int .i64 G, .int .i64 N] 23)) := heap_alloc_new _ _
        have HB4 : Hid (Below w1.heap.size w1 (w3.alloc (.cells #[.int .i64 G, .int .i64 N] 23))) := HB3.out.trans (hb4.mono HB3.out.size)
        obtain ⟨-, d22, -, -, -, -⟩ := HK.out _ HB4.out
        have HL3 : Hid (w3.heap.size < (w3.alloc (.cells #[.int .i64 G, .int .i64 N] 23)).heap.size) := by show _ < _; simp
        clear hb3 hb4 d1 d2
        go_wp2_with fail
        obtain ⟨W4, hW4⟩ : ∃ W, w3.alloc (.cells #[.int .i64 G, .int .i64 N] 23) = W := ⟨_, rfl⟩
        rw [hW4] at HQ HB4 HL3 ⊢
        have HY : Hid (∀ W, Below W4.heap.size W4 W → (W.cell? ⟨w3.heap.size, 0, none⟩ = some (.int .i64 G) ∧ W.cell? ⟨w3.heap.size, 1, none⟩ = some (.int .i64 N))) := fun W hb => by
          have r := (hb.block _ HL3.out).trans HQ.out
          exact ⟨cellB r 0 _ rfl, cellB r 1 _ rfl⟩
        clear hW4
        refine (htc W4 (he.env.next (HB1.out.trans (HB4.out.mono HB1.out.size)))).mono ?_
        clear htc
        rintro e w5 ⟨rfl, hb5⟩
        have HX5 : Hid (Below W4.heap.size W4 w5) := hb5
        have HB5 : Hid (Below w1.heap.size w1 w5) := HB4.out.trans (hb5.mono HB4.out.size)
        obtain ⟨-, -, d3, -, -, -⟩ := HK.out w5 HB5.out
        clear hb5 d22
        go_wp2_with fail
        refine (htd w5 (he.env.next (HB1.out.trans (HB5.out.mono HB1.out.size)))).mono ?_
        clear htd
        rintro e w6 ⟨rfl, hb6⟩
        have HX6 : Hid (Below W4.heap.size W4 w6) := HX5.out.trans (hb6.mono HX5.out.size)
        have HB6 : Hid (Below w1.heap.size w1 w6) := HB5.out.trans (hb6.mono HB5.out.size)
        obtain ⟨-, -, -, d4, d5, -⟩ := HK.out w6 HB6.out
        obtain ⟨y0, y1⟩ := HY.out w6 HX6.out
        clear hb6 d3
        go_wp2_with fail
        go_region_held3 (fun w' => w'.cell? ⟨w3.heap.size, 0, none⟩ = some (.int .i64 G) ∧ w'.cell? ⟨w3.heap.size, 1, none⟩ = some (.int .i64 N) ∧ w'.cell? ⟨vb, vo + 4, none⟩ = some (.string (bs t)) ∧ w'.cell? ⟨vb, vo + 5, none⟩ = some (.string (bs tg))) (go_keep) (fail)
        have hb7 : Below w6.heap.size w6 (w6.alloc (.cells #[.int .i64 K, .int .i64 G, .int .i64 N, .int .i64 V, .int .i64 M, .string (bs t), .string (bs tg)] 25)).drew := below_drew ((Below.refl _ _).alloc (Nat.le_refl _) _)
        have HM : Hid ((w6.alloc (.cells #[.int .i64 K, .int .i64 G, .int .i64 N, .int .i64 V, .int .i64 M, .string (bs t), .string (bs tg)] 25)).drew.heap[w6.heap.size]? = some (.cells #[.int .i64 K, .int .i64 G, .int .i64 N, .int .i64 V, .int .i64 M, .string (bs t), .string (bs tg)] 25)) := heap_alloc_new _ _
        have HL7 : Hid (w6.heap.size < (w6.alloc (.cells #[.int .i64 K, .int .i64 G, .int .i64 N, .int .i64 V, .int .i64 M, .string (bs t), .string (bs tg)] 25)).drew.heap.size) := by show _ < (w6.alloc _).heap.size; simp
        obtain ⟨W7, hW7⟩ : ∃ W, (w6.alloc (.cells #[.int .i64 K, .int .i64 G, .int .i64 N, .int .i64 V, .int .i64 M, .string (bs t), .string (bs tg)] 25)).drew = W := ⟨_, rfl⟩
        rw [hW7] at hb7 HM HL7 ⊢
        clear hW7 y0 y1 d4 d5
        have HB7 : Hid (Below w1.heap.size w1 W7) := HB6.out.trans (hb7.mono HB6.out.size)
        clear hb7
        have m7 := HM.out
        have v0 := cellB m7 0 (.int .i64 K) rfl
        have v1 := cellB m7 1 (.int .i64 G) rfl
        have v2 := cellB m7 2 (.int .i64 N) rfl
        have v3 := cellB m7 3 (.int .i64 V) rfl
        have v4 := cellB m7 4 (.int .i64 M) rfl
        have v5 := cellB m7 5 (.string (bs t)) rfl
        have v6 := cellB m7 6 (.string (bs tg)) rfl
        go_wp2_with fail
        refine (hC W7 (he.next (HB1.out.trans (HB7.out.mono HB1.out.size)))).mono ?_
        clear hC
        rintro e w8 ⟨rfl, hb8⟩
        have hB8 : Below w.heap.size w w8 := HB1.out.trans ((HB7.out.trans (hb8.mono HB7.out.size)).mono HB1.out.size)
        obtain ⟨-, -, -, -, -, r8⟩ := HK.out w8 (HB7.out.trans (hb8.mono HB7.out.size))
        clear v0 v1 v2 v3 v4 v5 v6 m7
        clear hb8 HK HY HQ HM
        have f0 := frozenB r8 0
        have f1 := frozenB r8 1
        have f2 := frozenB r8 2
        have f3 := frozenB r8 3
        have f4 := frozenB r8 4
        have f5 := frozenB r8 5
        have f6 := frozenB r8 6
        have s0 := cellB r8 0 (.int .i64 0) rfl
        have s1 := cellB r8 1 (.int .i64 0) rfl
        have s2 := cellB r8 2 (.int .i64 0) rfl
        have s3 := cellB r8 3 (.int .i64 0) rfl
        have s4 := cellB r8 4 (.int .i64 0) rfl
        have s5 := cellB r8 5 (.string ⟨#[]⟩) rfl
        have s6 := cellB r8 6 (.string ⟨#[]⟩) rfl
        have hr7 := set7 r8 (.int .i64 0) (.int .i64 0) (.int .i64 0) (.int .i64 0) (.int .i64 0) (.string ⟨#[]⟩) (.string ⟨#[]⟩)
        have z0 := cellB hr7 0 (.int .i64 0) rfl
        have z1 := cellB hr7 1 (.int .i64 0) rfl
        have z2 := cellB hr7 2 (.int .i64 0) rfl
        have z3 := cellB hr7 3 (.int .i64 0) rfl
        have z4 := cellB hr7 4 (.int .i64 0) rfl
        have z5 := cellB hr7 5 (.string ⟨#[]⟩) rfl
        have z6 := cellB hr7 6 (.string ⟨#[]⟩) rfl
        have hBz := (((((((hB8).setCell (p := ⟨w.heap.size, 0, none⟩) (Nat.le_refl _) (.int .i64 0)).setCell (p := ⟨w.heap.size, 1, none⟩) (Nat.le_refl _) (.int .i64 0)).setCell (p := ⟨w.heap.size, 2, none⟩) (Nat.le_refl _) (.int .i64 0)).setCell (p := ⟨w.heap.size, 3, none⟩) (Nat.le_refl _) (.int .i64 0)).setCell (p := ⟨w.heap.size, 4, none⟩) (Nat.le_refl _) (.int .i64 0)).setCell (p := ⟨w.heap.size, 5, none⟩) (Nat.le_refl _) (.string ⟨#[]⟩)).setCell (p := ⟨w.heap.size, 6, none⟩) (Nat.le_refl _) (.string ⟨#[]⟩)
        clear hr7
        go_wp2
        exact bodyPost_ret (v := .tuple #[.agg #[.int .i64 0, .int .i64 0, .int .i64 0, .int .i64 0, .int .i64 0, .string ⟨#[]⟩, .string ⟨#[]⟩], .int .i64 4]) (by simp [results, Tryz.f8, go_sem, z0, z1, z2, z3, z4, z5, z6]) rfl ⟨rfl, hBz⟩
  · obtain ⟨hV, hE⟩ := de_bad hg
    rw [hV, hE]
    have hcase : errOf s = 0 ∧ (((texts s).length : Int) != 6) = true ∨ errOf s = 4 := by
      rcases err_cases s with h | ⟨h, _⟩
      · exact .inl ⟨h, by simp; intro c; exact hg ⟨h, by omega⟩⟩
      · exact .inr h
    obtain ⟨ES, hES⟩ : ∃ x, errOf s = x := ⟨_, rfl⟩
    rw [hES] at hU hcase
    obtain ⟨L, hL⟩ : ∃ L, texts s = L := ⟨_, rfl⟩
    rw [hL] at hU hcase
    clear hES hL hg hV hE
    go_enter Tryz.func8, Tryz.ntmps8
    go_wp2_with fail
    refine hU.mono ?_
    clear hU
    rintro e w1 ⟨u, rfl, hv, hb1⟩
    have hB1 := hb0.trans (hb1.mono hb0.size)
    have r1 := (hb1.block w.heap.size hlp).trans r0
    have f0 := frozenB r1 0
    have f1 := frozenB r1 1
    have f2 := frozenB r1 2
    have f3 := frozenB r1 3
    have f4 := frozenB r1 4
    have f5 := frozenB r1 5
    have f6 := frozenB r1 6
    have s0 := cellB r1 0 (.int .i64 0) rfl
    have s1 := cellB r1 1 (.int .i64 0) rfl
    have s2 := cellB r1 2 (.int .i64 0) rfl
    have s3 := cellB r1 3 (.int .i64 0) rfl
    have s4 := cellB r1 4 (.int .i64 0) rfl
    have s5 := cellB r1 5 (.string ⟨#[]⟩) rfl
    have s6 := cellB r1 6 (.string ⟨#[]⟩) rfl
    have hr7 := set7 r1 (.int .i64 0) (.int .i64 0) (.int .i64 0) (.int .i64 0) (.int .i64 0) (.string ⟨#[]⟩) (.string ⟨#[]⟩)
    have z0 := cellB hr7 0 (.int .i64 0) rfl
    have z1 := cellB hr7 1 (.int .i64 0) rfl
    have z2 := cellB hr7 2 (.int .i64 0) rfl
    have z3 := cellB hr7 3 (.int .i64 0) rfl
    have z4 := cellB hr7 4 (.int .i64 0) rfl
    have z5 := cellB hr7 5 (.string ⟨#[]⟩) rfl
    have z6 := cellB hr7 6 (.string ⟨#[]⟩) rfl
    have hBz := (((((((hB1).setCell (p := ⟨w.heap.size, 0, none⟩) (Nat.le_refl _) (.int .i64 0)).setCell (p := ⟨w.heap.size, 1, none⟩) (Nat.le_refl _) (.int .i64 0)).setCell (p := ⟨w.heap.size, 2, none⟩) (Nat.le_refl _) (.int .i64 0)).setCell (p := ⟨w.heap.size, 3, none⟩) (Nat.le_refl _) (.int .i64 0)).setCell (p := ⟨w.heap.size, 4, none⟩) (Nat.le_refl _) (.int .i64 0)).setCell (p := ⟨w.heap.size, 5, none⟩) (Nat.le_refl _) (.string ⟨#[]⟩)).setCell (p := ⟨w.heap.size, 6, none⟩) (Nat.le_refl _) (.string ⟨#[]⟩)
    clear hr7
    clear hb1 r0 hb0
    obtain ⟨va, vc, rfl⟩ := (Sl.of_owns hv).slice
    clear hv
    rcases hcase with ⟨rfl, hne⟩ | rfl
    all_goals
      go_wp2
      exact bodyPost_ret (v := .tuple #[.agg #[.int .i64 0, .int .i64 0, .int .i64 0, .int .i64 0, .int .i64 0, .string ⟨#[]⟩, .string ⟨#[]⟩], .int .i64 4]) (by simp [results, Tryz.f8, go_sem, z0, z1, z2, z3, z4, z5, z6]) rfl ⟨rfl, hBz⟩
end Go.Proofs.YtmkjcfakopbdhaaGreatDoor
