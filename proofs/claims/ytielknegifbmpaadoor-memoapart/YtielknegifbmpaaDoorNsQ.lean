import Derived.Test.YtielknegifbmpaaDoorNsN
namespace Go.Proofs.YtielknegifbmpaaDoor
open Go.RowKit
attribute [local go_sem ↓] Go.wp_at_zero Go.wp_at_succ

/-- Of the first ten bytes none before the place k is a colon. -/
theorem index_none {l : List UInt8} {c : UInt8} (h : c ∉ l) : Lib.indexByte l c = -1 := by
  rcases index_spec c l with ⟨e, _⟩ | ⟨k, _, hk, _⟩
  · exact e
  · exact absurd (List.mem_of_getElem? hk) h
theorem first_none {d : Nat} {s : List UInt8} (h : (58 : UInt8) ∉ s.take (d + 1)) : firstL d s = none := by
  have e : s.take (min s.length (d + 1)) = s.take (d + 1) := by
    by_cases hs : d + 1 ≤ s.length
    · rw [Nat.min_eq_right hs]
    · rw [Nat.min_eq_left (by omega), List.take_length, List.take_of_length_le (by omega)]
  rw [firstL, e, index_none h]
  rfl
theorem first_at {d : Nat} {s : List UInt8} {k : Nat} (hk : k ≤ d) (hc : s[k]? = some 58) (hn : (58 : UInt8) ∉ s.take k) :
    firstL d s = match toNumL (s.take k) with
      | none => none
      | some z => if z < 0 then none else if ((s.drop (k + 1))[z.toNat]?) = some 44 then some ((s.drop (k + 1)).take z.toNat, (s.drop (k + 1)).drop (z.toNat + 1)) else none := by
  have hlt : k < s.length := (List.getElem?_eq_some_iff.1 hc).1
  have e : s.take (min s.length (d + 1)) = s.take (d + 1) := by
    by_cases hs : d + 1 ≤ s.length
    · rw [Nat.min_eq_right hs]
    · rw [Nat.min_eq_left (by omega), List.take_length, List.take_of_length_le (by omega)]
  have hi : Lib.indexByte (s.take (d + 1)) 58 = k := by
    refine index_at ?_ ?_
    · rw [List.getElem?_take_of_lt (by omega)]; exact hc
    · rw [List.take_take, Nat.min_eq_left (by omega)]; exact hn
  rw [firstL, e, hi]
  simp only [Int.toNat_natCast]
  rw [if_neg (by omega)]
  cases toNumL (s.take k) <;> rfl
theorem not_take_succ {s : List UInt8} {k : Nat} {c b : UInt8} (hn : c ∉ s.take k) (hb : s[k]? = some b) (hne : b ≠ c) : c ∉ s.take (k + 1) := by
  rw [List.take_add_one, hb, List.mem_append]
  rintro (h | h)
  · exact hn h
  · simp at h; exact hne h.symm

set_option maxRecDepth 20000 in
set_option maxHeartbeats 2000000 in
theorem rTake_any (s : ByteArray) (w : World) (hs : s.size ≤ 140737488355328) :
    Calls Tryd.prog 41 #[.string s] w fun e w' => e = .returned (firstV (firstL 9 s.data.toList)) ∧ Below w.heap.size w w' := by
  obtain ⟨R, hR⟩ : ∃ R, firstL 9 s.data.toList = R := ⟨_, rfl⟩
  rw [hR]
  go_enter Tryd.func41, Tryd.ntmps41
  go_wp2
  go_loopw [5] (fun i wr => ∃ (k : Nat), i = .int .i64 k ∧ k ≤ s.size ∧ k ≤ 10 ∧ Hid ((58 : UInt8) ∉ s.data.toList.take k) ∧ Below w.heap.size w wr)
    (fun i _ => 10 - numOf i)
  case atStart => exact ⟨0, rfl, Nat.zero_le _, by omega, (show (58 : UInt8) ∉ s.data.toList.take 0 by simp), Below.refl _ _⟩
  case round =>
    obtain ⟨k, rfl, hk, hk10, hn, hB⟩ := hrel
    by_cases hk1 : k = s.size
    · subst hk1
      have e : R = none := by
        rw [← hR]
        refine first_none fun h => hn.out ?_
        rw [← size_list, List.take_length]
        exact List.mem_of_mem_take h
      subst e
      go_wp2
      go_ret3
      exact ⟨rfl, hB⟩
    · have hk2 : k < s.size := by omega
      by_cases hk3 : k = 10
      · subst hk3
        have e : R = none := by rw [← hR]; exact first_none hn.out
        subst e
        go_wp2
        go_ret3
        exact ⟨rfl, hB⟩
      · have hat := byte_at s k hk2
        by_cases hc : s[k] = 58
        · have hf := first_at (d := 9) (by omega) (by rw [hat, hc]) hn.out
          rw [hR] at hf
          have hc1 : ((s[k].toNat : Int) != 58) = false := by rw [hc]; rfl
          clear hn hat hc hR
          have e1 : (s.extract 0 k).data.toList = s.data.toList.take k := by rw [extract_list, List.drop_zero]
          have hex : (s.extract 0 k).size ≤ 281474976710656 := by rw [ByteArray.size_extract]; omega
          cases hz : toNumL (s.data.toList.take k) with
          | none =>
            rw [hz] at hf
            subst hf
            have hN := rToNum_any (s.extract 0 k) wr hex
            rw [e1, (tnV_none hz).1, (tnV_none hz).2] at hN
            clear hz e1
            go_wp2_with fail
            refine hN.mono ?_
            rintro e w2 ⟨rfl, hb2⟩
            have hB2 := hB.trans (hb2.mono hB.size)
            go_wp2
            go_ret3
            exact ⟨rfl, hB2⟩
          | some z =>
            rw [hz] at hf
            simp only at hf
            obtain ⟨z0, z1⟩ := toNum_range hz
            have hN := rToNum_any (s.extract 0 k) wr hex
            rw [e1, (tnV_some hz).1, (tnV_some hz).2] at hN
            clear hz e1 hex
            by_cases hz0 : z < 0
            · rw [if_pos hz0] at hf
              subst hf
              go_wp2_with fail
              refine hN.mono ?_
              rintro e w2 ⟨rfl, hb2⟩
              have hB2 := hB.trans (hb2.mono hB.size)
              go_wp2
              go_ret3
              exact ⟨rfl, hB2⟩
            · rw [if_neg hz0] at hf
              obtain ⟨m, rfl⟩ := Int.eq_ofNat_of_zero_le (by omega : 0 ≤ z)
              rw [Int.toNat_natCast, List.getElem?_drop] at hf
              by_cases hm : m < s.size - (k + 1)
              · have hat2 := byte_at s (k + 1 + m) (by omega)
                rw [hat2] at hf
                go_wp2_with fail
                refine hN.mono ?_
                rintro e w2 ⟨rfl, hb2⟩
                have hB2 := hB.trans (hb2.mono hB.size)
                clear hN
                by_cases h44 : s[k + 1 + m] = 44
                · rw [h44, if_pos rfl] at hf
                  have h44b : ((s[k + 1 + m].toNat : Int) != 44) = false := by rw [h44]; rfl
                  clear hat2 h44
                  subst hf
                  go_wp2
                  go_region
                  go_wp2
                  go_ret3
                  refine ⟨?_, hB2.drew⟩
                  have e3 : s.extract (k + 1) (k + 1 + m) = bs ((s.data.toList.drop (k + 1)).take m) := bs_of _ _ (by rw [extract_list, List.take_drop])
                  have e4 : s.extract (k + 2 + m) s.size = bs ((s.data.toList.drop (k + 1)).drop (m + 1)) := bs_of _ _ (by rw [extract_list, ← size_list, List.take_length, List.drop_drop]; congr 1; omega)
                  rw [firstV, ← e3, ← e4]
                  rfl
                · rw [if_neg (by intro h; injection h with h; exact h44 h)] at hf
                  have h44b : ((s[k + 1 + m].toNat : Int) != 44) = true := by
                    rw [← Bool.not_eq_false]
                    exact fun h => h44 (byte_44 _ h)
                  clear hat2 h44
                  subst hf
                  go_wp2
                  go_ret3
                  exact ⟨rfl, hB2⟩
              · rw [List.getElem?_eq_none (by rw [size_list]; omega), if_neg (by simp)] at hf
                subst hf
                go_wp2_with fail
                refine hN.mono ?_
                rintro e w2 ⟨rfl, hb2⟩
                have hB2 := hB.trans (hb2.mono hB.size)
                clear hN
                go_wp2
                go_ret3
                exact ⟨rfl, hB2⟩
        · have hn2 := not_take_succ hn.out hat hc
          have hn3 : Hid ((58 : UInt8) ∉ s.data.toList.take (k + 1)) := hn2
          have hc1 : ((s[k].toNat : Int) != 58) = true := by
            rw [← Bool.not_eq_false]
            intro h
            apply hc
            have : (s[k].toNat : Int) = 58 := by simpa using h
            apply UInt8.toNat_inj.1
            show s[k].toNat = 58
            omega
          clear hn hn2 hat hc
          go_wp2
          go_roundw
          case rel => exact ⟨k + 1, by rw [Int.natCast_succ], by omega, by omega, hn3, hB⟩
          case measure => simp only [numOf]; omega

end Go.Proofs.YtielknegifbmpaaDoor
