import Derived.Test.YtnachkdclmcaiabDoorBkQ
namespace Go.Proofs.YtnachkdclmcaiabDoor
open Go.RowKit

/-- All texts of the first k, one behind the other. -/
def catTo (ss : List ByteArray) (k : Nat) : List UInt8 := ((ss.take k).map (·.data.toList)).flatten
theorem catTo_succ (ss : List ByteArray) (k : Nat) (hk : k < ss.length) : catTo ss (k + 1) = catTo ss k ++ (ss.getD k ByteArray.empty).data.toList := by
  unfold catTo
  rw [List.take_succ_eq_append_getElem hk, List.map_append, List.flatten_append, List.getD_eq_getElem?_getD, List.getElem?_eq_getElem hk]
  simp
theorem catTo_le (ss : List ByteArray) (k : Nat) : (catTo ss k).length ≤ (catTo ss ss.length).length := by
  have e : (ss.map (·.data.toList)).flatten = catTo ss k ++ ((ss.drop k).map (·.data.toList)).flatten := by
    unfold catTo
    rw [← List.flatten_append, ← List.map_append, List.take_append_drop]
  have e2 : catTo ss ss.length = (ss.map (·.data.toList)).flatten := by unfold catTo; rw [List.take_length]
  rw [e2, e, List.length_append]
  omega
theorem join_nil : ∀ xs : List (List UInt8), Lib.join xs [] = xs.flatten
  | [] => rfl
  | [x] => by simp [Lib.join, List.intercalate]
  | x :: y :: r => by
    have ih := join_nil (y :: r)
    unfold Lib.join at ih ⊢
    rw [List.intercalate_cons_cons, ih]
    simp
theorem join_parts (b off cap : Nat) (ss : List ByteArray) (A : ByteArray) (w w1 : World) (hA : A.data.toList = catTo ss ss.length) (hAs : A.size ≤ 1048576) (hl : ss.length ≤ 1000) (hcap : ss.length ≤ cap) (hb : b < w.heap.size)
    (hc : ∀ i, i < ss.length → w.cell? ⟨b, off + i, none⟩ = some (.string (ss.getD i ByteArray.empty))) (hbw : Below w.heap.size w w1) :
    Calls Tryd.prog 28 #[.slice (some ⟨b, off, none⟩) ss.length cap, .string ⟨#[]⟩] w1 fun e w2 => e = .returned (.string A) ∧ Below w1.heap.size w1 w2 := by
  have ej : Lib.join (ss.map (·.data.toList)) (⟨#[]⟩ : ByteArray).data.toList = A.data.toList := by
    rw [hA]; unfold catTo; rw [List.take_length]; exact join_nil _
  have := Tryd.strings_Join b off cap ss ⟨#[]⟩ w1 (fun j x hx => by
    have hj : j < ss.length := by
      by_cases hj : j < ss.length
      · exact hj
      · rw [List.getElem?_eq_none (by omega)] at hx; cases hx
    rw [hbw.cell (p := ⟨b, off + j, none⟩) hb, hc j hj, List.getD_eq_getElem?_getD, hx]; rfl) (Nat.lt_of_lt_of_le hb hbw.size) (by omega) hcap (by rw [ej, size_list]; omega)
  rw [ej] at this
  exact this

set_option maxRecDepth 4000 in
set_option maxHeartbeats 1000000 in
theorem parts_some (key : ByteArray) (b off len cap : Nat) (ss : List ByteArray) (w : World) (h2 : key.size ≤ maxLen) (hlen : ss.length = len) (hl9 : len ≤ maxLen) (hcap : len ≤ cap) (hb : b < w.heap.size)
    (hc : ∀ i, i < len → w.cell? ⟨b, off + i, none⟩ = some (.string (ss.getD i ByteArray.empty))) (htot : (catTo ss ss.length).length ≤ 1048576)
    (hg : Reads w 0 .u32 8 ivL) (hr : Reads w 1 .u8 160 rowsF) (hz : 1 < w.heap.size) :
    Calls Tryd.prog 5 #[.string key, .slice (some ⟨b, off, none⟩) len cap] w fun e w' => e = .returned (.bool true) ∧ Below w.heap.size w w' := by
  unfold maxLen at hl9
  by_cases h1000 : 1000 < len
  · go_enter Tryd.func5, Tryd.ntmps5
    go_wp2_with (go_at_call 15; refine (abc_any w hg hr hz).mono ?_; rintro e w3 ⟨rfl, hb3⟩)
    go_ret
    exact ⟨rfl, hb3⟩
  · have HC : Hid (∀ i, i < len → w.cell? ⟨b, off + i, none⟩ = some (.string (ss.getD i ByteArray.empty))) := hc
    have HT : Hid ((catTo ss ss.length).length ≤ 1048576) := htot
    have HLn : Hid (ss.length = len) := hlen
    clear hc htot hlen
    go_enter Tryd.func5, Tryd.ntmps5
    go_wp2
    go_loop [5, 18] (fun al i => ∃ (k : Nat) (A : ByteArray), k ≤ len ∧ i = .int .i64 k ∧ al = .string A ∧ A.data.toList = catTo ss k) (fun _ i => len - (intOf i).toNat)
    case atStart => exact ⟨0, ⟨#[]⟩, by omega, rfl, rfl, by simp [catTo]⟩
    case round =>
      obtain ⟨k, A, hk, rfl, rfl, hA⟩ := hrel
      have HA : Hid (A.data.toList = catTo ss k) := hA
      have hAs : A.size ≤ 1048576 := by rw [← size_list, hA]; exact Nat.le_trans (catTo_le ss k) HT.out
      clear hA
      by_cases hlt : k < len
      · have c1 := HC.out k hlt
        obtain ⟨S, hS⟩ : ∃ S, ss.getD k ByteArray.empty = S := ⟨_, rfl⟩
        have hcs := catTo_succ ss k (by rw [HLn.out]; exact hlt)
        have hsum : A.size + S.size ≤ 1048576 := by
          have e := catTo_le ss (k + 1)
          rw [hcs, List.length_append, ← HA.out, hS, size_list, size_list] at e
          exact Nat.le_trans e HT.out
        rw [hS] at c1 hcs
        have HSk : Hid (catTo ss (k + 1) = catTo ss k ++ S.data.toList) := hcs
        clear hS hcs
        by_cases hbig : 20000 < A.size
        · go_wp2_with (go_at_call 15; refine (abc_any w hg hr hz).mono ?_; rintro e w3 ⟨rfl, hb3⟩)
          go_ret
          exact ⟨rfl, hb3⟩
        · go_wp2
          go_round
          case rel => exact ⟨k + 1, A ++ S, by omega, by go_num, rfl, by rw [ByteArray.data_append, Array.toList_append, HA.out, HSk.out]⟩
          case measure => simp [intOf]; omega
      · have HAl : Hid (A.data.toList = catTo ss ss.length) := by rw [HLn.out, ← show k = len by omega]; exact HA.out
        clear HA
        by_cases h1 : key.size ≤ 32
        · have HJ : Hid (∀ w1, Below w.heap.size w w1 → Calls Tryd.prog 28 #[.slice (some ⟨b, off, none⟩) len cap, .string ⟨#[]⟩] w1 fun e w2 => e = .returned (.string A) ∧ Below w1.heap.size w1 w2) := fun w1 hbw => by
            rw [← HLn.out]
            exact join_parts b off cap ss A w w1 HAl.out hAs (by rw [HLn.out]; omega) (by rw [HLn.out]; exact hcap) hb (fun i hi => HC.out i (by rw [HLn.out] at hi; exact hi)) hbw
          go_wp2_with fail
          refine (Parts_any key A _ len cap w h1 (by omega) HJ.out hg hr hz).mono ?_
          rintro e w1 ⟨rfl, hb1⟩
          have hg1 := hg.below hb1 (by omega)
          have hr1 := hr.below hb1 hz
          have hz1 : 1 < w1.heap.size := Nat.lt_of_lt_of_le hz hb1.size
          have href := refSum_any key A w1 h1 (by omega)
          obtain ⟨R, hR⟩ : ∃ R, strOfNums (sumL (key.size : Int) (keyL key.data.toList ++ A.data.toList)) = R := ⟨_, rfl⟩
          rw [hR] at href ⊢
          clear hR hg hr
          go_wp2_with fail
          refine href.mono ?_
          clear href
          rintro e w2 ⟨rfl, hb2⟩
          have hg2 := hg1.below hb2 (by omega)
          have hr2 := hr1.below hb2 hz1
          have hz2 : 1 < w2.heap.size := Nat.lt_of_lt_of_le hz1 hb2.size
          have hbb := hb1.trans (hb2.mono hb1.size)
          clear hg1 hr1 hz1 hb1 hb2
          go_wp2_with (go_at_call 15; refine (abc_any w2 hg2 hr2 hz2).mono ?_; rintro e w3 ⟨rfl, hb3⟩)
          go_ret
          exact ⟨rfl, hbb.trans (hb3.mono hbb.size)⟩
        · skip
          go_wp2_with fail
          refine (Parts_long key _ _ _ w (by omega) h2).mono ?_
          rintro e w1 ⟨rfl, rfl⟩
          have href := refSum_long key A w1 (by omega) h2
          go_wp2_with fail
          refine href.mono ?_
          clear href
          rintro e w2 ⟨rfl, rfl⟩
          go_wp2_with (go_at_call 15; refine (abc_any _ hg hr hz).mono ?_; rintro e w3 ⟨rfl, hb3⟩)
          go_ret
          exact ⟨rfl, hb3⟩

set_option maxRecDepth 4000 in
set_option maxHeartbeats 1000000 in
theorem parts_nil (key : ByteArray) (a : Option Addr) (cap : Nat) (w : World) (h2 : key.size ≤ maxLen) (hg : Reads w 0 .u32 8 ivL) (hr : Reads w 1 .u8 160 rowsF) (hz : 1 < w.heap.size) :
    Calls Tryd.prog 5 #[.string key, .slice a 0 cap] w fun e w' => e = .returned (.bool true) ∧ Below w.heap.size w w' := by
  go_enter Tryd.func5, Tryd.ntmps5
  go_wp2
  go_loop [5, 18] (fun al i => i = .int .i64 0 ∧ al = .string ⟨#[]⟩) (fun _ i => 0)
  case atStart => exact ⟨rfl, rfl⟩
  case round =>
    obtain ⟨rfl, rfl⟩ := hrel
    obtain ⟨A, hA⟩ : ∃ A : ByteArray, (⟨#[]⟩ : ByteArray) = A := ⟨_, rfl⟩
    have hAs : A.size ≤ 1048576 := by rw [← hA]; decide
    rw [hA]
    have HA : Hid ((⟨#[]⟩ : ByteArray) = A) := hA
    clear hA
    by_cases h1 : key.size ≤ 32
    · have HJ : Hid (∀ w1, Below w.heap.size w w1 → Calls Tryd.prog 28 #[.slice a 0 cap, .string ⟨#[]⟩] w1 fun e w2 => e = .returned (.string A) ∧ Below w1.heap.size w1 w2) := fun w1 _ => by
        refine (Tryd.strings_Join_none a cap ⟨#[]⟩ w1).mono ?_
        rintro e w2 ⟨rfl, rfl⟩
        exact ⟨by rw [HA.out], Below.refl _ _⟩
      go_wp2_with fail
      refine (Parts_any key A _ 0 cap w h1 (by omega) HJ.out hg hr hz).mono ?_
      rintro e w1 ⟨rfl, hb1⟩
      have hg1 := hg.below hb1 (by omega)
      have hr1 := hr.below hb1 hz
      have hz1 : 1 < w1.heap.size := Nat.lt_of_lt_of_le hz hb1.size
      have href := refSum_any key A w1 h1 (by omega)
      obtain ⟨R, hR⟩ : ∃ R, strOfNums (sumL (key.size : Int) (keyL key.data.toList ++ A.data.toList)) = R := ⟨_, rfl⟩
      rw [hR] at href ⊢
      clear hR hg hr
      go_wp2_with fail
      refine href.mono ?_
      clear href
      rintro e w2 ⟨rfl, hb2⟩
      have hg2 := hg1.below hb2 (by omega)
      have hr2 := hr1.below hb2 hz1
      have hz2 : 1 < w2.heap.size := Nat.lt_of_lt_of_le hz1 hb2.size
      have hbb := hb1.trans (hb2.mono hb1.size)
      clear hg1 hr1 hz1 hb1 hb2
      go_wp2_with (go_at_call 15; refine (abc_any w2 hg2 hr2 hz2).mono ?_; rintro e w3 ⟨rfl, hb3⟩)
      go_ret
      exact ⟨rfl, hbb.trans (hb3.mono hbb.size)⟩
    · skip
      go_wp2_with fail
      refine (Parts_long key _ _ _ w (by omega) h2).mono ?_
      rintro e w1 ⟨rfl, rfl⟩
      have href := refSum_long key A w1 (by omega) h2
      go_wp2_with fail
      refine href.mono ?_
      clear href
      rintro e w2 ⟨rfl, rfl⟩
      go_wp2_with (go_at_call 15; refine (abc_any _ hg hr hz).mono ?_; rintro e w3 ⟨rfl, hb3⟩)
      go_ret
      exact ⟨rfl, hb3⟩
end Go.Proofs.YtnachkdclmcaiabDoor
