import Derived.Test.YtmkjcfakopbdhaaGreatDoorNsJ
import Derived.Test.YtmkjcfakopbdhaaGreatDoorNsK
import Derived.Laws.BytesArg
namespace Go.Proofs.YtmkjcfakopbdhaaGreatDoor
open Go.RowKit
attribute [local go_sem ↓] Go.wp_at_zero Go.wp_at_succ

def absOf : Value → Nat
  | .int _ i => i.natAbs
  | _ => 0
theorem bs_append (a b : List UInt8) : bs a ++ bs b = bs (a ++ b) := by
  apply ByteArray.ext
  simp [bs, ByteArray.data_append]

theorem one_byte (w : World) (x : Int) (c : UInt8) (hc : UInt8.ofNat x.toNat = c) :
    (convert 75 9 (.slice (some ⟨w.heap.size, 0, none⟩) 1 1)).run Tryz.prog (w.alloc (.cells #[.int .u8 x] 5)) = .ok (.string (bs [c])) (w.alloc (.cells #[.int .u8 x] 5)) := by
  have h := run_convert_bytes_arg (P := Tryz.prog) (w.alloc (.cells #[.int .u8 x] 5)) 75 5 Tryz.underlying75 Tryz.underlying5 w.heap.size 0 1 1 [x] rfl (fun i hi => by
    obtain rfl : i = 0 := by omega
    rw [World.cell?, World.alloc_heap_new]; rfl) 9 Tryz.underlying9
  rw [h]
  subst hc
  rfl

set_option maxRecDepth 20000 in
set_option maxHeartbeats 1000000 in
theorem rNum_any (n : Int) (w : World) (h0 : -9223372036854775808 ≤ n) (h1 : n ≤ 9223372036854775807) :
    Calls Tryz.prog 45 #[.int .i64 n] w fun e w' => e = .returned (.string (bs (Lib.itoa n))) ∧ Below w.heap.size w w' := by
  by_cases hn : n = 0
  · subst hn
    go_enter Tryz.func45, Tryz.ntmps45
    go_wp2
    go_ret
    exact ⟨by rw [show Lib.itoa 0 = [48] from by rw [show (0 : Int) = ((0 : Nat) : Int) from rfl, itoa_nat, Lib.decDigits_one (by decide)]; rfl]; rfl, Below.refl _ _⟩
  · obtain ⟨R, hR⟩ : ∃ R, Lib.itoa n = R := ⟨_, rfl⟩
    rw [hR]
    go_enter Tryz.func45, Tryz.ntmps45
    go_wp2
    go_loopw [3, 4] (fun s k wr => ∃ (z : Int) (q : List UInt8), s = .string (bs q) ∧ k = .int .i64 z ∧ -9223372036854775808 ≤ z ∧ z ≤ 9223372036854775807 ∧ Hid (decs n.natAbs = decs z.natAbs ++ q) ∧ q.length ≤ 100 ∧ Below w.heap.size w wr)
      (fun _ k _ => absOf k)
    case atStart => exact ⟨n, [], rfl, rfl, h0, h1, (show decs n.natAbs = decs n.natAbs ++ [] by simp), by simp, Below.refl _ _⟩
    case round =>
      obtain ⟨z, q, rfl, rfl, hz0, hz1, hq, hql, hB⟩ := hrel
      have hqs : (bs q).size = q.length := bs_size q
      by_cases hz : z = 0
      · subst hz
        have hq1 : Lib.decDigits n.natAbs = q := by
          have := hq.out
          rw [decs, if_neg (by omega)] at this
          exact this
        clear hq
        by_cases hneg : n < 0
        · have e : R = 45 :: q := by rw [← hR, Lib.itoa, if_pos hneg, hq1]
          clear hq1
          go_wp2
          go_ret
          exact ⟨by rw [e]; exact congrArg (fun s => Ending.returned (Value.string s)) (bs_append [45] q), hB⟩
        · have e : R = q := by rw [← hR, Lib.itoa, if_neg hneg, ← hq1]; congr 1; omega
          clear hq1
          go_wp2
          go_ret
          exact ⟨by first | rfl | (rw [e]; rfl), hB⟩
      · obtain ⟨d, hd⟩ : ∃ d, z.tmod 10 = d := ⟨_, rfl⟩
        obtain ⟨k, hk⟩ : ∃ k, z.tdiv 10 = k := ⟨_, rfl⟩
        have hzk : z.natAbs / 10 = k.natAbs := by rw [← hk]; exact (Int.natAbs_tdiv z 10).symm
        have hzd : z.natAbs % 10 = d.natAbs := by rw [← hd]; exact (Int.natAbs_tmod z 10).symm
        have hq2 : Hid (decs n.natAbs = decs k.natAbs ++ (UInt8.ofNat (48 + d.natAbs) :: q)) := by
          show decs n.natAbs = decs k.natAbs ++ (UInt8.ofNat (48 + d.natAbs) :: q)
          rw [hq.out, decs_step (by omega), hzk, hzd, List.append_assoc]; rfl
        clear hq
        have hlen : q.length + 1 ≤ 100 := by
          have h1 := congrArg List.length hq2.out
          have h2 : (decs n.natAbs).length ≤ 20 := by
            unfold decs
            split
            · simp
            · rw [decDigits_len]; exact nDigits_le 19 _ (by simp; omega)
          rw [List.length_append, List.length_cons] at h1
          omega
        have hcv0 := one_byte wr (48 + (d.natAbs : Int)) (UInt8.ofNat (48 + d.natAbs)) (by congr 1)
        obtain ⟨c, hc⟩ : ∃ c, UInt8.ofNat (48 + d.natAbs) = c := ⟨_, rfl⟩
        rw [hc] at hq2 hcv0
        clear hc
        have hcs : (bs [c]).size = 1 := rfl
        have hlt : k.natAbs < z.natAbs := by omega
        have hbb := hB.trans (((Below.refl wr.heap.size wr).alloc (Nat.le_refl _) (.cells #[.int .u8 (48 + (d.natAbs : Int))] 5)).mono hB.size)
        have eapp : bs [c] ++ bs q = bs (c :: q) := bs_append _ _
        by_cases hneg : d < 0
        · have hdd : (48 + -d : Int) = 48 + (d.natAbs : Int) := by omega
          have hcv := hcv0
          rw [← hdd] at hcv hbb
          clear hdd
          go_wp2
          go_roundw
          case rel => exact ⟨k, c :: q, by first | rfl | rw [eapp], rfl, by omega, by omega, hq2, by simpa using hlen, hbb⟩
          case measure => simp only [absOf]; omega
        · have hdd : (48 + d : Int) = 48 + (d.natAbs : Int) := by omega
          have hcv := hcv0
          rw [← hdd] at hcv hbb
          clear hdd
          go_wp2
          go_roundw
          case rel => exact ⟨k, c :: q, by first | rfl | rw [eapp], rfl, by omega, by omega, hq2, by simpa using hlen, hbb⟩
          case measure => simp only [absOf]; omega
end Go.Proofs.YtmkjcfakopbdhaaGreatDoor
