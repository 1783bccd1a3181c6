import Derived.Test.YtnachkdclmcaiaaDoorNsN
namespace Go.Proofs.YtnachkdclmcaiaaDoor
open Go.RowKit
attribute [local go_sem ↓] Go.wp_at_zero Go.wp_at_succ

set_option maxHeartbeats 1000000 in
theorem nums_any (n : Int) (s : ByteArray) (w : World) (h0 : -9223372036854775808 ≤ n) (h1 : n ≤ 9223372036854775807) (hs : s.size ≤ 140737488355328) (he : Env w) :
    Calls Tryd.prog 6 #[.int .i64 n, .string s] w fun e W' => e = .returned (.bool true) ∧ Below w.heap.size w W' := by
  have hit := toNum_itoa n h0 h1
  obtain ⟨t1, t2⟩ := tnV_some hit
  have hsz : (bs (Lib.itoa n)).size ≤ 281474976710656 := by
    rw [bs_size]
    unfold Lib.itoa
    split
    · rw [List.length_cons, decDigits_len]; have := nDigits_le 19 n.natAbs (by simp; omega); omega
    · rw [decDigits_len]; have := nDigits_le 19 n.toNat (by simp; omega); omega
  have hN : ∀ w1 : World, Env w1 → Calls Tryd.prog 19 #[.string (bs (Lib.itoa n))] w1 fun e w' => e = .returned (.tuple #[.int .i64 n, .int .i64 0]) ∧ Below w1.heap.size w1 w' := by
    intro w1 he1
    have := ToNum_any (bs (Lib.itoa n)) w1 hsz he1
    rw [bs_list, t1, t2] at this
    exact this
  clear hit t1 t2 hsz
  have hq1 : ((bs (Lib.itoa n)).toList == (bs (Lib.itoa n)).toList) = true := by simp
  cases hz : toNumL s.data.toList with
  | none =>
    obtain ⟨e1, e2⟩ := tnV_none hz
    have hT := ToNum_any s w
    go_enter Tryd.func6, Tryd.ntmps6
    go_wp2_with fail
    refine (Num_any n w h0 h1 he).mono ?_
    rintro e w1 ⟨rfl, hb1⟩
    have he1 := he.next hb1
    go_wp2_with fail
    refine (ToNum_any s w1 (by omega) he1).mono ?_
    rw [e1, e2]
    rintro e w2 ⟨rfl, hb2⟩
    have hB2 := hb1.trans (hb2.mono hb1.size)
    go_wp2_with fail
    refine (rToNum_any s w2 (by omega)).mono ?_
    rw [e1, e2]
    rintro e w3 ⟨rfl, hb3⟩
    have hB3 := hB2.trans (hb3.mono hB2.size)
    go_wp2_with fail
    refine (hN w3 (he.next hB3)).mono ?_
    rintro e w4 ⟨rfl, hb4⟩
    have hB4 := hB3.trans (hb4.mono hB3.size)
    go_wp2_with fail
    refine (rNum_any n w4 h0 h1).mono ?_
    rintro e w5 ⟨rfl, hb5⟩
    have hB5 := hB4.trans (hb5.mono hB4.size)
    clear hT hN
    go_wp2_with fail
    refine (two_any w5 (he.next hB5)).mono ?_
    rintro e w6 ⟨rfl, hb6⟩
    go_wp2
    go_ret
    exact ⟨rfl, hB5.trans (hb6.mono hB5.size)⟩
  | some z =>
    obtain ⟨e1, e2⟩ := tnV_some hz
    obtain ⟨z0, z1⟩ := toNum_range hz
    have hbk : bs (Lib.itoa z) = s := by rw [toNum_back hz, bs_data]
    have hq2 : (s.toList == s.toList) = true := by simp
    go_enter Tryd.func6, Tryd.ntmps6
    go_wp2_with fail
    refine (Num_any n w h0 h1 he).mono ?_
    rintro e w1 ⟨rfl, hb1⟩
    have he1 := he.next hb1
    go_wp2_with fail
    refine (ToNum_any s w1 (by omega) he1).mono ?_
    rw [e1, e2]
    rintro e w2 ⟨rfl, hb2⟩
    have hB2 := hb1.trans (hb2.mono hb1.size)
    go_wp2_with fail
    refine (rToNum_any s w2 (by omega)).mono ?_
    rw [e1, e2]
    rintro e w3 ⟨rfl, hb3⟩
    have hB3 := hB2.trans (hb3.mono hB2.size)
    go_wp2_with fail
    refine (hN w3 (he.next hB3)).mono ?_
    rintro e w4 ⟨rfl, hb4⟩
    have hB4 := hB3.trans (hb4.mono hB3.size)
    go_wp2_with fail
    refine (rNum_any n w4 h0 h1).mono ?_
    rintro e w5 ⟨rfl, hb5⟩
    have hB5 := hB4.trans (hb5.mono hB4.size)
    clear hN
    go_wp2_with fail
    refine (Num_any z w5 z0 z1 (he.next hB5)).mono ?_
    rw [hbk]
    rintro e w6 ⟨rfl, hb6⟩
    have hB6 := hB5.trans (hb6.mono hB5.size)
    clear hbk
    go_wp2_with fail
    refine (two_any w6 (he.next hB6)).mono ?_
    rintro e w7 ⟨rfl, hb7⟩
    go_wp2
    go_ret
    exact ⟨rfl, hB6.trans (hb7.mono hB6.size)⟩
end Go.Proofs.YtnachkdclmcaiaaDoor
