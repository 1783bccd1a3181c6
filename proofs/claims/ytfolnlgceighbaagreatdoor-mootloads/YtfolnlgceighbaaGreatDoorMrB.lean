/- Moots, the document's side: numbers, walked. -/
import Derived.Test.YtfolnlgceighbaaGreatDoorMpQ
namespace Go.Proofs.YtfolnlgceighbaaGreatDoor
open Go.RowKit
attribute [local go_sem ↓] Go.wp_at_zero Go.wp_at_succ

/-- The numbers that a text says, three by three. -/
def nu3 (s : List UInt8) : Option (List Int) := if errOf s = 0 ∧ (texts s).length % 3 = 0 then numsOf (texts s) else none
theorem un3_nu (s : List UInt8) : un3 s = (nu3 s).map chunk3 := by
  unfold un3 nu3
  split <;> rfl
theorem nu3_three {s : List UInt8} {ns : List Int} (h : nu3 s = some ns) : ns.length % 3 = 0 := by
  unfold nu3 at h
  split at h
  · rename_i hc
    rw [(numsOf_back _ _ h).2]; exact hc.2
  · cases h
def NuPost (s : List UInt8) (base : Nat) (v : Value) (b : Bool) (W' : World) : Prop :=
  match nu3 s with
  | some ns => b = true ∧ Il W' v ns ∧ ns.length ≤ s.length ∧ ∀ k, v.ownBlock = some k → base ≤ k ∧ k < W'.heap.size
  | none => b = false
set_option maxRecDepth 20000 in
set_option maxHeartbeats 4000000 in
theorem numbers_any (s : List UInt8) (w : World) (hs : s.length ≤ 1000000) :
    Calls Tryz.prog 48 #[.string (bs s)] w fun e W' => ∃ v b, e = .returned (.tuple #[v, .bool b]) ∧ NuPost s w.heap.size v b W' ∧ Below w.heap.size w W' := by
  have hU := rUnpack_any s w (by omega)
  have HNO : Hid (nu3 s = none → ∀ v W', NuPost s w.heap.size v false W') := fun h v W' => by unfold NuPost; rw [h]
  rcases err_cases s with e0 | e0
  · by_cases h3 : (texts s).length % 3 = 0
    · have HUN : Hid (nu3 s = numsOf (texts s)) := by show _ = _; unfold nu3; rw [if_pos ⟨e0, h3⟩]
      have HTL : Hid ((texts s).length ≤ s.length) := texts_count s
      rw [e0] at hU
      have HTS : Hid (∀ t ∈ texts s, t.length ≤ s.length) := fun t ht => texts_mem_len ht
      have HYS : Hid (∀ v W' ns, numsOf (texts s) = some ns → Il W' v ns → (∀ k, v.ownBlock = some k → w.heap.size ≤ k ∧ k < W'.heap.size) → NuPost s w.heap.size v true W') := fun v W' ns h h1 h2 => by
        unfold NuPost
        rw [HUN.out, h]
        have e1 := (numsOf_back _ _ h).2
        have e4 := HTL.out
        exact ⟨rfl, h1, by omega, h2⟩
      obtain ⟨L, hL⟩ : ∃ L, texts s = L := ⟨_, rfl⟩
      rw [hL] at hU HUN HTL HTS HYS h3
      obtain ⟨i0, hi, hz0, hz1, hz2⟩ := info_parts Tryz.info3
      have HSZ : Hid (s.length ≤ 1000000) := hs
      have hl : L.length ≤ 1000000 := Nat.le_trans HTL.out hs
      have hm2 : ((L.length : Int) % 3 != 0) = false := by simp; omega
      clear hs hL e0 h3
      go_enter Tryz.func48, Tryz.ntmps48
      go_wp2_with (first
        | (go_at_call 39; refine hU.mono ?_; clear hU; rintro e w1 ⟨v, rfl, hown, hb1⟩; obtain ⟨va, vc, rfl⟩ := owns_slice hown; have HO1 : Hid (w1.ownsRow w.heap.size 9 1 (.slice va L.length vc) L.length (strs L)) := hown; have HB1 : Hid (Below w.heap.size w w1) := hb1; clear hown hb1))
      go_loopg [6, 26] L.length (fun gk u i wr => ∃ (k : Nat) (ns : List Int), k + gk = L.length ∧ i = .int .i64 k ∧ numsOf (L.take k) = some ns ∧ wr.ownsRow w1.heap.size 3 1 u k (zcs ns) ∧ ns.length = k ∧ Below w1.heap.size w1 wr)
      case atStart => exact ⟨0, [], by omega, rfl, rfl, World.ownsRow_nil _ _ _ _, rfl, Below.refl _ _⟩
      case round =>
        obtain ⟨k, ns, hk, rfl, hns, hown, hnl, hB⟩ := hrel
        by_cases hlt : k < L.length
        · obtain ⟨t, ht⟩ : ∃ t, L[k]? = some t := ⟨_, List.getElem?_eq_getElem hlt⟩
          have hts := HTS.out t (List.mem_of_getElem? ht)
          obtain ⟨b1, o1, hva, q1⟩ := Sl_at ((Sl.of_owns HO1.out).below hB (Nat.le_refl _)) ht
          subst hva
          have hN := rToNum_any (bs t) wr (by show t.toArray.size ≤ _; rw [List.size_toArray]; have := HSZ.out; omega)
          rw [show (bs t).data.toList = t from rfl] at hN
          have k0 : (0 : Int) ≤ (k : Int) := by omega
          have k1 : (k : Int) < (L.length : Int) := by omega
          rcases tn_cases t with et | et
          · have HT : Hid (numsOf (L.take (k + 1)) = some (ns ++ [tnV t])) := numsOf_take ht et hns
            rw [et] at hN
            obtain ⟨X, hX⟩ : ∃ X, tnV t = X := ⟨_, rfl⟩
            rw [hX] at hN HT
            have hml : k + 1 ≤ maxLen := by unfold maxLen; omega
            have hkb : (k + 1) * 8 ≤ 140737488355328 := by omega
            obtain ⟨ua, uc, rfl⟩ := owns_slice hown
            have HO : Hid (wr.ownsRow w1.heap.size 3 1 (.slice ua k uc) k (zcs ns) ∧ ns.length = k) := ⟨hown, hnl⟩
            have HB : Hid (Below w1.heap.size w1 wr) := hB
            clear ht hts et hX hns hown hB hnl HYS
            go_wp2_with (first
              | (go_at_call 40; refine hN.mono ?_; clear hN; rintro e w2 ⟨rfl, hb2⟩; have hown := own_kept HO.out.1 hb2; have hB := HB.out.trans (hb2.mono HB.out.size); clear hb2)
              | (at_builtin; refine wpList_append_own _ rfl _ _ 22 rfl w1.heap.size 3 i0 (.int .i64 0) 1 8 Tryz.underlying22 hi hz0 hz1 hz2 rfl (by decide) (.slice ua k uc) k (zcs ns) rfl (hown.alloc _) _ 1 1 [.int .i64 X] rfl rfl (World.news_of_block (heap_alloc_new _ _)) (by simp [Value.oneCell']) hml hkb (by have := hB.size; simp; omega) ?_; intro v' w' g1 g2 _))
            have hB3 := (hB.alloc hB.size (.cells #[.int .i64 X] 3)).grown g2 (by have := hB.size; simp; omega) (fun q hq => (hown.lt q hq).1)
            go_roundg (L.length - (k + 1))
            case measure => omega
            case rel => exact ⟨k + 1, ns ++ [X], by omega, by go_num, HT.out, by rw [zcs_snoc]; exact g1, by have := HO.out.2; simp; omega, hB3⟩
          · have HT : Hid (numsOf L = none) := numsOf_at ht (by rw [et]; decide)
            rw [et] at hN
            obtain ⟨X, hX⟩ : ∃ X, tnV t = X := ⟨_, rfl⟩
            rw [hX] at hN
            have HB : Hid (Below w1.heap.size w1 wr) := hB
            have HN3 : Hid (nu3 s = none) := by show _ = _; rw [HUN.out, HT.out]
            obtain ⟨ua, uc, rfl⟩ := owns_slice hown
            clear ht hts et hX hns hown hB hnl
            go_wp2_with (first
              | (go_at_call 40; refine hN.mono ?_; clear hN; rintro e w2 ⟨rfl, hb2⟩; have hB := HB.out.trans (hb2.mono HB.out.size); clear hb2))
            exact bodyPost_ret (v := .tuple #[.slice none 0 0, .bool false]) (by simp [results, Tryz.f48, go_sem]) rfl ⟨_, _, rfl, HNO.out HN3.out _ _, HB1.out.trans (hB.mono HB1.out.size)⟩
        · have hkl : k = L.length := by omega
          subst hkl
          obtain ⟨ua, uc, rfl⟩ := owns_slice hown
          have HR : Hid (_ ∧ _ ∧ _ ∧ _) := ⟨hns, hown, hnl, hB⟩
          clear hns hown hnl hB
          go_wp2
          obtain ⟨hns, hown, hnl, hB⟩ := HR.out
          rw [List.take_length] at hns
          have hil : Il wr (.slice ua L.length uc) ns := by
            rw [← hnl] at hown ⊢
            exact Il_owns hown
          exact bodyPost_ret (v := .tuple #[.slice ua L.length uc, .bool true]) (by simp [results, Tryz.f48, go_sem]) rfl ⟨_, _, rfl, HYS.out _ _ ns hns hil (fun k hk => by
            have := hown.lt k hk
            have := HB1.out.size
            omega), HB1.out.trans (hB.mono HB1.out.size)⟩
    · have HN3 : Hid (nu3 s = none) := by show _ = _; unfold nu3; rw [if_neg (fun h => h3 h.2)]
      rw [e0] at hU
      have hl := Nat.le_trans (texts_count s) hs
      obtain ⟨L, hL⟩ : ∃ L, texts s = L := ⟨_, rfl⟩
      rw [hL] at hU h3 hl
      have hm2 : ((L.length : Int) % 3 != 0) = true := by rw [bne_iff_ne]; omega
      clear hL e0 h3
      go_enter Tryz.func48, Tryz.ntmps48
      go_wp2_with (first
        | (go_at_call 39; refine hU.mono ?_; clear hU; rintro e w1 ⟨v, rfl, hown, hb1⟩; obtain ⟨va, vc, rfl⟩ := owns_slice hown; clear hown))
      exact bodyPost_ret (v := .tuple #[.slice none 0 0, .bool false]) (by simp [results, Tryz.f48, go_sem]) rfl ⟨_, _, rfl, HNO.out HN3.out _ _, hb1⟩
  · have HN3 : Hid (nu3 s = none) := by show _ = _; unfold nu3; rw [if_neg (fun h => by rw [e0] at h; exact absurd h.1 (by decide))]
    have hT : texts s = [] := texts_bad (by rw [e0]; decide)
    rw [e0, hT] at hU
    clear e0 hT
    go_enter Tryz.func48, Tryz.ntmps48
    go_wp2_with (first
      | (go_at_call 39; refine hU.mono ?_; clear hU; rintro e w1 ⟨v, rfl, hown, hb1⟩; obtain ⟨va, vc, rfl⟩ := owns_slice hown; clear hown))
    exact bodyPost_ret (v := .tuple #[.slice none 0 0, .bool false]) (by simp [results, Tryz.f48, go_sem]) rfl ⟨_, _, rfl, HNO.out HN3.out _ _, hb1⟩
end Go.Proofs.YtfolnlgceighbaaGreatDoor
