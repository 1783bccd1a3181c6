/- The small case that each law of tables asks. -/
import Derived.Test.YtmkmidahfcjcgaaDoorTbI
namespace Go.Proofs.YtmkmidahfcjcgaaDoor
open Go.RowKit
attribute [local go_sem ↓] Go.wp_at_zero Go.wp_at_succ

theorem text_kc : textT [([107], [99])] = [49, 58, 107, 44, 49, 58, 99, 44] := by
  rw [textT, flat]
  simp only [List.flatMap_cons, List.flatMap_nil, List.append_nil]
  rw [pack_cons, pack_cons, one_small _ (by decide), one_small _ (by decide)]
  rfl
theorem d1 : doR [] 2 [107] [97] [] = ([], 0, [([107], [97])]) := by decide +kernel
theorem d2 : doR [([107], [97])] 3 [107] [98] [] = ([97, 98], 0, [([107], [97, 98])]) := by decide +kernel
theorem d3 : doR [([107], [97, 98])] 5 [107] [99] [97, 98] = ([97, 98], 0, [([107], [99])]) := by decide +kernel
theorem d4 : doR [([107], [99])] 1 [107] [] [] = ([99], 0, [([107], [99])]) := by decide +kernel
set_option maxRecDepth 20000 in
set_option maxHeartbeats 2000000 in
theorem four_any (w : World) (he : EnvP w) : Calls Tryd.prog 10 #[] w fun e W' => e = .returned (.bool true) ∧ Below w.heap.size w W' := by
  have hN := New_any w
  have HD : ∀ W kind k vl o l v t E l', doR l kind k vl o = (t, E, l') → Below w.heap.size w W → TabAt W w.heap.size l v → Calls Tryd.prog 11 #[.pointer (some ⟨w.heap.size, 0, none⟩), opV kind k vl o] W fun e W' => e = .returned (.tuple #[.string (bs t), .int .i64 E]) ∧ (∃ v', TabAt W' w.heap.size l' v') ∧ Below w.heap.size w W' := by
    intro W kind k vl o l v t E l' hd hb ht
    have := Do_any ht kind k vl o
    rw [hd] at this
    refine this.mono ?_
    rintro e W' ⟨rfl, v', h1, _, h3⟩
    exact ⟨rfl, ⟨v', h1⟩, hb.trans (h3.below (Nat.le_refl _) hb.size)⟩
  have H1 : Hid (∀ W v, Below w.heap.size w W → TabAt W w.heap.size [] v → _) := fun W v => HD W 2 [107] [97] [] [] v _ _ _ d1
  have H2 : Hid (∀ W v, Below w.heap.size w W → TabAt W w.heap.size [([107], [97])] v → _) := fun W v => HD W 3 [107] [98] [] _ v _ _ _ d2
  have H3 : Hid (∀ W v, Below w.heap.size w W → TabAt W w.heap.size [([107], [97, 98])] v → _) := fun W v => HD W 5 [107] [99] [97, 98] _ v _ _ _ d3
  have H4 : Hid (∀ W v, Below w.heap.size w W → TabAt W w.heap.size [([107], [99])] v → _) := fun W v => HD W 1 [107] [] [] _ v _ _ _ d4
  have HT : Hid (∀ W v, Below w.heap.size w W → TabAt W w.heap.size [([107], [99])] v → Calls Tryd.prog 16 #[.pointer (some ⟨w.heap.size, 0, none⟩)] W fun e W' => e = .returned (.string (bs [49, 58, 107, 44, 49, 58, 99, 44])) ∧ Below w.heap.size w W') := by
    intro W v hb ht
    have := Text_any ht (he.next hb)
    rw [text_kc] at this
    refine this.mono ?_
    rintro e W' ⟨rfl, h1⟩
    exact ⟨rfl, hb.trans (h1.mono hb.size)⟩
  clear HD he
  unfold opV at H1 H2 H3 H4
  obtain ⟨K, hK⟩ : ∃ K, bs [107] = K := ⟨_, rfl⟩
  obtain ⟨A, hA⟩ : ∃ K, bs [97] = K := ⟨_, rfl⟩
  obtain ⟨B, hB⟩ : ∃ K, bs [98] = K := ⟨_, rfl⟩
  obtain ⟨C, hC⟩ : ∃ K, bs [99] = K := ⟨_, rfl⟩
  obtain ⟨AB, hAB⟩ : ∃ K, bs [97, 98] = K := ⟨_, rfl⟩
  have hZ : bs [] = ⟨#[]⟩ := rfl
  obtain ⟨X, hX⟩ : ∃ K, bs [49, 58, 107, 44, 49, 58, 99, 44] = K := ⟨_, rfl⟩
  have k1 : ({ data := #[107] } : ByteArray) = K := hK
  have k2 : ({ data := #[97] } : ByteArray) = A := hA
  have k3 : ({ data := #[98] } : ByteArray) = B := hB
  have k4 : ({ data := #[99] } : ByteArray) = C := hC
  have k5 : ({ data := #[97, 98] } : ByteArray) = AB := hAB
  have k7 : ({ data := #[49, 58, 107, 44, 49, 58, 99, 44] } : ByteArray) = X := hX
  rw [hK, hA, hZ] at H1
  rw [hK, hB, hZ, hAB] at H2
  rw [hK, hC, hAB] at H3
  rw [hK, hC, hZ] at H4
  rw [hX] at HT
  clear hK hA hB hC hAB hX hZ
  go_enter Tryd.func10, Tryd.ntmps10
  rw [k1, k2, k3, k4, k5, k7]
  have s1 : (AB.toList == AB.toList) = true := by simp
  have s2 : (C.toList == C.toList) = true := by simp
  have s3 : (X.toList == X.toList) = true := by simp
  clear k1 k2 k3 k4 k5 k7
  go_wp2_with (first
    | (go_at_call 9; refine hN.mono ?_; clear hN; rintro e w1 ⟨rfl, ht, hb, _⟩; have h1 := H1.out _ _ hb ht; clear H1 ht hb)
    | (go_at_call 11; refine h1.mono ?_; clear h1; rintro e w2 ⟨rfl, ⟨v2, ht⟩, hb⟩; have h2 := H2.out _ _ hb ht; clear H2 ht hb)
    | (go_at_call 11; refine h2.mono ?_; clear h2; rintro e w3 ⟨rfl, ⟨v3, ht⟩, hb⟩; have h3 := H3.out _ _ hb ht; clear H3 ht hb)
    | (go_at_call 11; refine h3.mono ?_; clear h3; rintro e w4 ⟨rfl, ⟨v4, ht⟩, hb⟩; have h4 := H4.out _ _ hb ht; clear H4 ht hb)
    | (go_at_call 11; refine h4.mono ?_; clear h4; rintro e w5 ⟨rfl, ⟨v5, ht⟩, hb⟩; have hT := HT.out _ _ hb ht; clear HT ht hb)
    | (go_at_call 16; refine hT.mono ?_; clear hT; rintro e w6 ⟨rfl, hb6⟩))
  go_ret
  exact ⟨rfl, hb6⟩
end Go.Proofs.YtmkmidahfcjcgaaDoor
