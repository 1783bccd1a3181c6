/- The law MarkOne, walked. -/
import Derived.Test.YtmggfkhfiggloaaDoorMkY
namespace Go.Proofs.YtmggfkhfiggloaaDoor
open Go.RowKit
attribute [local go_sem ↓] Go.wp_at_zero Go.wp_at_succ

/-- Two marks side by side. -/
structure Two (w0 w : World) (A B f : Nat) (sa sb : St) : Prop where
  ab : A ≠ B
  lA : w0.heap.size ≤ A
  lB : w0.heap.size ≤ B
  bel : Below w0.heap.size w0 w
  at2 : ∃ ca cb, MarkAt w A 1 f sa ca ∧ MarkAt w B 1 f sb cb ∧ (∀ k, ca.ownBlock = some k → k ≠ B) ∧ (∀ k, cb.ownBlock = some k → k ≠ A)
theorem Two.next {w0 w w' : World} {A B f : Nat} {sa sb : St} (h : Two w0 w A B f sa sb) (hb : Below w.heap.size w w') : Two w0 w' A B f sa sb := by
  obtain ⟨ca, cb, h1, h2, h3, h4⟩ := h.at2
  exact ⟨h.ab, h.lA, h.lB, h.bel.trans (hb.mono h.bel.size), ca, cb, h1.on hb, h2.on hb, h3, h4⟩
theorem Two.ltA {w0 w : World} {A B f : Nat} {sa sb : St} (h : Two w0 w A B f sa sb) : A < w.heap.size := by
  obtain ⟨ca, cb, h1, h2, _⟩ := h.at2
  exact h1.lt
theorem Two.ltB {w0 w : World} {A B f : Nat} {sa sb : St} (h : Two w0 w A B f sa sb) : B < w.heap.size := by
  obtain ⟨ca, cb, h1, h2, _⟩ := h.at2
  exact h2.lt
theorem Two.swap {w0 w : World} {A B f : Nat} {sa sb : St} (h : Two w0 w A B f sa sb) : Two w0 w B A f sb sa := by
  obtain ⟨ca, cb, h1, h2, h3, h4⟩ := h.at2
  exact ⟨Ne.symm h.ab, h.lB, h.lA, h.bel, cb, ca, h2, h1, h4, h3⟩
theorem Two.vote {w0 w : World} {A B f : Nat} {sa sb : St} (h : Two w0 w A B f sa sb) (he : EnvP w0) {H : List UInt8} {bad : Nat → Bool} (hI : InvO H bad sa) (hf : nP bad 10 ≤ f) (i : Nat) (x : List UInt8) (hs : x.length ≤ 140737488351232) (hx : x = H ∨ bad i = true) :
    ∃ b E sa', Calls Tryd.prog 15 #[.pointer (some ⟨A, 0, none⟩), .int .i64 i, .int .i64 4, .string (bs x), .string (bs tag16)] w fun e W' => e = .returned (.tuple #[.bool b, .int .i64 E]) ∧ Two w0 W' A B f sa' sb ∧ InvO H bad sa' ∧ Mv A w W' := by
  obtain ⟨⟨b, E, sa'⟩, hR⟩ : ∃ r, voteR 1 f sa i 4 x tag16 = r := ⟨_, rfl⟩
  obtain ⟨ca, cb, h1, h2, h3, h4⟩ := h.at2
  refine ⟨b, E, sa', (Vote_any h1 i 4 x tag16 hs (he.next h.bel) b E sa' hR).mono ?_⟩
  rintro e W' ⟨rfl, ca', k1, k2, k3⟩
  refine ⟨rfl, ⟨h.ab, h.lA, h.lB, h.bel.trans (k2.below h.lA h.bel.size), ca', cb, k1, h2.moved k2 (Ne.symm h.ab) (fun k hk _ => h4 k hk), fun k hk => ?_, h4⟩, hI.vote hf hx hR, k2⟩
  rcases k3 k hk with e | e
  · exact h3 k e
  · have := h2.lt
    omega
theorem Two.stable {w0 w : World} {A B f : Nat} {sa sb : St} (h : Two w0 w A B f sa sb) : Calls Tryd.prog 20 #[.pointer (some ⟨A, 0, none⟩)] w fun e W' => ∃ a c, e = .returned (.tuple #[.int .i64 sa.n, .string (bs sa.s), .agg #[.string (bs sa.t), .int .i64 sa.g, .slice a sa.T.length c]]) ∧ Two w0 W' A B f sa sb ∧ Below w.heap.size w W' := by
  obtain ⟨ca, cb, h1, h2, h3, h4⟩ := h.at2
  refine (Stable_any h1).mono ?_
  rintro e W' ⟨v, rfl, ho, hb⟩
  obtain ⟨a, c, rfl⟩ := owns_slice ho
  exact ⟨a, c, rfl, h.next hb, hb⟩
theorem New_two {w0 w : World} {A f : Nat} (hb : Below w0.heap.size w0 w) (hf : f ≤ 3) (h : MarkAt w A 1 f st0 (.slice none 0 0)) (hA : w0.heap.size ≤ A) : Calls Tryd.prog 13 #[.int .i64 1, .int .i64 f] w fun e W' => e = .returned (.tuple #[.pointer (some ⟨w.heap.size, 0, none⟩), .int .i64 0]) ∧ Two w0 W' A w.heap.size f st0 st0 ∧ Below w.heap.size w W' := by
  refine (New_ok (g := 1) rfl hf w).mono ?_
  rintro e W' ⟨rfl, h1, h2⟩
  have := h.lt
  exact ⟨rfl, ⟨by omega, hA, hb.size, hb.trans (h2.mono hb.size), .slice none 0 0, .slice none 0 0, h.on h2, h1, (fun k hk => by cases hk), (fun k hk => by cases hk)⟩, h2⟩
theorem Sl.get {w : World} {a : Option Addr} {c : Nat} {l : List (List UInt8)} (h : Sl w (.slice a l.length c) l) {i : Nat} {t : List UInt8} (hi : l[i]? = some t) : ∃ b o, a = some ⟨b, o, none⟩ ∧ w.cell? ⟨b, o + i, none⟩ = some (.string (bs t)) := by
  rcases h with ⟨rfl, _⟩ | ⟨b, o, cap, he, _, h⟩
  · cases hi
  · injection he with ha _ _
    exact ⟨b, o, ha, h i t hi⟩
set_option maxRecDepth 20000 in
set_option maxHeartbeats 4000000 in
theorem mone_any (f set : Int) (H : List UInt8) (va vb : Value) (LA LB : List (List UInt8)) (w : World) (he : EnvP w) (hH : H.length ≤ 140737488351232) (hA : Sl w va LA) (hB : Sl w vb LB) (hla : ∀ t ∈ LA, t.length ≤ 140737488351232) (hlb : ∀ t ∈ LB, t.length ≤ 140737488351232) :
    Calls Tryd.prog 5 #[.int .i64 f, .agg #[.int .i64 set, .string (bs H), va, vb]] w fun e W' => e = .returned (.bool true) ∧ Below w.heap.size w W' := by
  obtain ⟨aa, ac, rfl⟩ := hA.slice
  obtain ⟨ba, bc, rfl⟩ := hB.slice
  have hba := (Below.refl w.heap.size w).alloc (Nat.le_refl _) (.cells #[.int .i64 set, .string (bs H), .slice aa LA.length ac, .slice ba LB.length bc] 68)
  have rT := heap_alloc_new w (.cells #[.int .i64 set, .string (bs H), .slice aa LA.length ac, .slice ba LB.length bc] 68)
  obtain ⟨W0, hW0⟩ : ∃ W, w.alloc (.cells #[.int .i64 set, .string (bs H), .slice aa LA.length ac, .slice ba LB.length bc] 68) = W := ⟨_, rfl⟩
  have HW : Hid (w.alloc (.cells #[.int .i64 set, .string (bs H), .slice aa LA.length ac, .slice ba LB.length bc] 68) = W0) := hW0
  rw [hW0] at hba rT
  have hltT := (Array.getElem?_eq_some_iff.1 rT).1
  have he0 : EnvP W0 := he.next hba
  have HO : Hid (∀ W, Below W0.heap.size W0 W → Calls Tryd.prog 12 #[] W fun e W' => e = .returned (.bool true) ∧ Below w.heap.size w W') := by
    intro W hb
    have hb2 := hba.trans (hb.mono hba.size)
    refine (one_any W (he.next hb2)).mono ?_
    rintro e W' ⟨rfl, h⟩
    exact ⟨rfl, hb2.trans (h.mono hb2.size)⟩
  have HT : Hid (∀ W, Below W0.heap.size W0 W → W.heap[w.heap.size]? = some (.cells #[.int .i64 set, .string (bs H), .slice aa LA.length ac, .slice ba LB.length bc] 68) ∧ Sl W (.slice aa LA.length ac) LA ∧ Sl W (.slice ba LB.length bc) LB) := by
    intro W hb
    have hb2 := hba.trans (hb.mono hba.size)
    exact ⟨(hb.block _ hltT).trans rT, hA.below hb2 (Nat.le_refl _), hB.below hb2 (Nat.le_refl _)⟩
  by_cases hf : f < 0 ∨ 3 < f
  · have hO := HO.out W0 (Below.refl _ _)
    clear hW0 HT hA hB hla hlb hba rT
    rcases hf with hf | hf
    · go_enter Tryd.func5, Tryd.ntmps5
      go_upto_region 1 with fail
      rw [HW.out]
      clear HW
      go_wp2_with (first | (go_at_call 12; refine hO.mono ?_; rintro e w2 ⟨rfl, hb2⟩))
      go_ret
      exact ⟨rfl, hb2⟩
    · go_enter Tryd.func5, Tryd.ntmps5
      have hf0 : 0 ≤ f := by omega
      go_upto_region 1 with fail
      rw [HW.out]
      clear HW
      go_wp2_with (first | (go_at_call 12; refine hO.mono ?_; rintro e w2 ⟨rfl, hb2⟩))
      go_ret
      exact ⟨rfl, hb2⟩
  · obtain ⟨f', rfl, hf3⟩ : ∃ f' : Nat, f = f' ∧ f' ≤ 3 := ⟨f.toNat, by omega, by omega⟩
    have hf4 : (f' : Int) ≤ 3 := by omega
    have hN := New_ok (g := 1) rfl hf3 W0
    clear hW0 hf hA hB
    go_enter Tryd.func5, Tryd.ntmps5
    go_upto_region 1 with fail
    rw [HW.out]
    clear HW
    go_upto_region 4 with (first | (go_at_call 13; refine hN.mono ?_; clear hN; rintro e w1 ⟨rfl, h1, hb1⟩))
    have hN := New_two (w0 := W0) hb1 hf3 h1 (Nat.le_refl _)
    go_wp2_with (first | (go_at_call 13; refine hN.mono ?_; clear hN; rintro e w2 ⟨rfl, h2, hb2⟩))
    obtain ⟨A, hAe⟩ : ∃ A, W0.heap.size = A := ⟨_, rfl⟩
    obtain ⟨B, hBe⟩ : ∃ B, w1.heap.size = B := ⟨_, rfl⟩
    have HA : Hid (W0.heap.size = A) := hAe
    have hfew := (fail_few set f' 10).2
    rw [hAe] at h2 ⊢
    rw [hBe] at h2 ⊢
    clear h1 hb1 hb2 hAe hBe
    go_loopg [9] (3 * f' + 1) (fun gk i wr => ∃ (j : Nat) (sa sb : St), j + gk = 3 * f' + 1 ∧ i = .int .i64 j ∧ Two W0 wr A B f' sa sb ∧ InvO H (failB set f') sa ∧ InvO H (failB set f') sb)
    case atStart => exact ⟨0, st0, st0, by omega, rfl, h2, invO_0 _ _, invO_0 _ _⟩
    case round =>
      clear h2
      obtain ⟨j, sa, sb, hj, rfl, hTw, hIa, hIb⟩ := hrel
      obtain ⟨rT2, hSa, hSb⟩ := HT.out _ hTw.bel
      by_cases hlt : j ≤ 3 * f'
      · have t0 := cellB rT2 0 _ rfl
        have t1 := cellB rT2 1 _ rfl
        have t2 := cellB rT2 2 _ rfl
        have t3 := cellB rT2 3 _ rfl
        have j0 : (0 : Int) ≤ (j : Int) := by omega
        have j1 : (j : Int) ≤ 3 * (f' : Int) := by omega
        have j9 : (j : Int) ≤ 9 := by omega
        have hF := fails_any set f' j (by omega) wr
        have HY : Hid (_ ∧ _ ∧ _ ∧ _ ∧ _) := ⟨hTw, hIa, hIb, hSa, hSb⟩
        have HL : Hid (_ ∧ _) := ⟨hla, hlb⟩
        clear hTw hIa hIb rT2 hSa hSb hla hlb
        go_upto_if 63 with (first | (go_at_call 24; refine hF.mono ?_; clear hF; rintro e w3 ⟨rfl, h9⟩; replace h9 := h9.symm; subst h9))
        go_cut [10, 11] (fun x y wx => ∃ X Y, x = .string (bs X) ∧ y = .string (bs Y) ∧ (X = H ∨ failB set f' j = true) ∧ (Y = H ∨ failB set f' j = true) ∧ X.length ≤ 140737488351232 ∧ Y.length ≤ 140737488351232 ∧ wx = wr)
        case first =>
          have hbs : bs [] = (⟨#[]⟩ : ByteArray) := rfl
          cases hv : failB set f' j
          · go_wp2
            go_meet
            case rel => exact ⟨H, H, rfl, rfl, .inl rfl, .inl rfl, hH, hH, rfl⟩
          · obtain ⟨_, _, _, hSa, hSb⟩ := HY.out
            by_cases hja : j < LA.length
            · obtain ⟨ta, hta⟩ : ∃ t, LA[j]? = some t := ⟨_, List.getElem?_eq_getElem hja⟩
              obtain ⟨ab, ao, rfl, hca⟩ := hSa.get hta
              have hta2 := HL.out.1 ta (List.mem_of_getElem? hta)
              have ja2 : (j : Int) < (LA.length : Int) := by omega
              by_cases hjb : j < LB.length
              · obtain ⟨tb, htb⟩ : ∃ t, LB[j]? = some t := ⟨_, List.getElem?_eq_getElem hjb⟩
                obtain ⟨bb, bo, rfl, hcb⟩ := hSb.get htb
                have htb2 := HL.out.2 tb (List.mem_of_getElem? htb)
                have jb2 : (j : Int) < (LB.length : Int) := by omega
                clear hta htb hja hjb hSa hSb
                go_wp2
                go_meet
                case rel => exact ⟨ta, tb, rfl, rfl, .inr hv, .inr hv, hta2, htb2, rfl⟩
              · have jb2 : (LB.length : Int) ≤ (j : Int) := by omega
                clear hta hja hjb hSa hSb
                go_wp2
                go_meet
                case rel => exact ⟨ta, [], rfl, rfl, .inr hv, .inr hv, hta2, by simp, rfl⟩
            · have ja2 : (LA.length : Int) ≤ (j : Int) := by omega
              by_cases hjb : j < LB.length
              · obtain ⟨tb, htb⟩ : ∃ t, LB[j]? = some t := ⟨_, List.getElem?_eq_getElem hjb⟩
                obtain ⟨bb, bo, rfl, hcb⟩ := hSb.get htb
                have htb2 := HL.out.2 tb (List.mem_of_getElem? htb)
                have jb2 : (j : Int) < (LB.length : Int) := by omega
                clear htb hja hjb hSa hSb
                go_wp2
                go_meet
                case rel => exact ⟨[], tb, rfl, rfl, .inr hv, .inr hv, by simp, htb2, rfl⟩
              · have jb2 : (LB.length : Int) ≤ (j : Int) := by omega
                clear hja hjb hSa hSb
                go_wp2
                go_meet
                case rel => exact ⟨[], [], rfl, rfl, .inr hv, .inr hv, by simp, by simp, rfl⟩
        case rest =>
          rename World => W9
          obtain ⟨X, Y, rfl, rfl, hX, hY, hXl, hYl, h9⟩ := hcut
          subst h9
          obtain ⟨hTw, hIa, hIb, _, _⟩ := HY.out
          obtain ⟨b1, E1, sa', hV1⟩ := hTw.vote he0 hIa hfew j X hXl hX
          have HV2 : Hid (∀ W, Two W0 W A B f' sa' sb → ∃ b E sb', Calls Tryd.prog 15 #[.pointer (some ⟨B, 0, none⟩), .int .i64 j, .int .i64 4, .string (bs Y), .string (bs tag16)] W fun e W' => e = .returned (.tuple #[.bool b, .int .i64 E]) ∧ Two W0 W' B A f' sb' sa' ∧ InvO H (failB set f') sb' ∧ Mv B W W') := fun W hW => hW.swap.vote he0 hIb hfew j Y hYl hY
          clear HY HL t0 t1 t2 t3 hIa hIb hTw hX hY hXl hYl
          go_wp2_with (first
            | (go_at_call 15; refine hV1.mono ?_; clear hV1; rintro e w4 ⟨rfl, hT4, hI4, _⟩; obtain ⟨b2, E2, sb', hV2⟩ := HV2.out _ hT4; have HI4 : Hid (_) := hI4; clear hT4 hI4)
            | (go_at_call 15; refine hV2.mono ?_; clear hV2; rintro e w5 ⟨rfl, hT5, hI5, _⟩))
          go_roundg (3 * f' + 1 - (j + 1))
          case measure => omega
          case rel => exact ⟨j + 1, sa', sb', by omega, by go_num, hT5.swap, HI4.out, hI5⟩
      · have j2 : 3 * (f' : Int) < (j : Int) := by omega
        have j9 : (j : Int) ≤ 10 := by omega
        obtain ⟨Va, na, ssa, ta, ga, Ta⟩ := sa
        obtain ⟨Vb, nb, ssb, tb, gb, Tb⟩ := sb
        have hna := hIa.n
        have hnb := hIb.n
        have hSt := hTw.stable
        simp only at hna hnb hSt
        have HS2 : Hid (∀ W, Two W0 W A B f' ⟨Va, na, ssa, ta, ga, Ta⟩ ⟨Vb, nb, ssb, tb, gb, Tb⟩ → Calls Tryd.prog 20 #[.pointer (some ⟨B, 0, none⟩)] W fun e W' => ∃ a c, e = .returned (.tuple #[.int .i64 nb, .string (bs ssb), .agg #[.string (bs tb), .int .i64 gb, .slice a Tb.length c]]) ∧ Below W0.heap.size W0 W') := by
          intro W hW
          refine hW.swap.stable.mono ?_
          rintro e W' ⟨a, c, rfl, hT, _⟩
          exact ⟨a, c, rfl, hT.bel⟩
        clear hIa hIb hTw hla hlb hSa hSb rT2 hlt
        go_upto_region 22 with (first
          | (go_at_call 20; refine hSt.mono ?_; clear hSt; rintro e w4 ⟨a4, c4, rfl, hT4, hb4⟩))
        have hT5 := hT4.next ((Below.refl w4.heap.size w4).alloc (Nat.le_refl _) (.cells #[.string (bs ta), .int .i64 ga, .slice a4 Ta.length c4] 49))
        obtain ⟨W5, hW5⟩ : ∃ W, w4.alloc (.cells #[.string (bs ta), .int .i64 ga, .slice a4 Ta.length c4] 49) = W := ⟨_, rfl⟩
        rw [hW5] at hT5 ⊢
        have hS2 := HS2.out _ hT5
        clear hW5 hT4 hb4 hT5 HS2
        go_upto_region 23 with (first
          | (go_at_call 20; refine hS2.mono ?_; clear hS2; rintro e w6 ⟨a6, c6, rfl, hb6⟩))
        have hb7 := hb6.alloc hb6.size (.cells #[.string (bs tb), .int .i64 gb, .slice a6 Tb.length c6] 49)
        obtain ⟨W7, hW7⟩ : ∃ W, w6.alloc (.cells #[.string (bs tb), .int .i64 gb, .slice a6 Tb.length c6] 49) = W := ⟨_, rfl⟩
        rw [hW7] at hb7 ⊢
        have t1 := cellB (HT.out _ hb7).1 1 _ rfl
        have hO := HO.out _ hb7
        have hs1 := str_same H
        clear hW7 hb6 hb7 HO HT
        rcases hna with rfl | ⟨rfl, rfl⟩ <;> rcases hnb with rfl | ⟨rfl, rfl⟩
        all_goals
          go_wp2_with (first | (go_at_call 12; refine hO.mono ?_; rintro e w8 ⟨rfl, hb8⟩))
          go_ret
          exact ⟨rfl, hb8⟩
end Go.Proofs.YtmggfkhfiggloaaDoor
