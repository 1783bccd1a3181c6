/- large, walked; a shard beside what was done. -/
import Derived.Test.YtgmobjdjojffgaaDoorSfA
import Derived.Test.YtgmobjdjojffgaaDoorSdT
namespace Go.Proofs.YtgmobjdjojffgaaDoor
open Go.RowKit
attribute [local go_sem ↓] Go.wp_at_zero Go.wp_at_succ

theorem wrap_in64 {y q : Int} (h : y = q) (h0 : -9223372036854775808 ≤ q) (h1 : q ≤ 9223372036854775807) : IntKind.i64.wrap y = q := by
  subst h
  simp [IntKind.wrap, IntKind.bits, IntKind.signed]; omega
/-- What large gives. -/
def LgPost (w : World) (k : Nat) (e : Ending) (W' : World) : Prop := ∃ b : Bool, e = .returned (.bool b) ∧ (b = false → k ≤ 200) ∧ Below w.heap.size w W'
set_option maxRecDepth 20000 in
set_option maxHeartbeats 1000000 in
theorem large_any {w : World} {v : Value} {l : List St8} (hI : Stl w v l) (hT : ∀ s ∈ l, s.t.length ≤ 140737488355328) (hM : l.length ≤ 9223372036854775807) : Calls Tryd.prog 14 #[v] w fun e W' => LgPost w l.length e W' := by
  obtain ⟨va, vc, rfl⟩ := hI.slice
  have HI : Hid (Stl w (.slice va l.length vc) l) := hI
  have HT : Hid (_) := hT
  clear hI hT
  go_enter Tryd.func14, Tryd.ntmps14
  go_wp2
  go_loopg [3, 8] l.length (fun gk n i wr => ∃ (j : Nat) (q : Int), j + gk = l.length ∧ n = .int .i64 q ∧ i = .int .i64 (j : Int) ∧ 0 ≤ q ∧ q ≤ 30000 ∧ Below w.heap.size w wr)
  case atStart => exact ⟨0, 0, by omega, rfl, rfl, by decide, by decide, Below.refl _ _⟩
  case round =>
    obtain ⟨j, q, hj, rfl, rfl, hq0, hq1, hB⟩ := hrel
    by_cases hne : j = l.length
    · subst hne
      have HB : Hid (_) := hB
      clear hB
      go_wp2
      refine bodyPost_ret (v := .bool (decide ((200 : Int) < (l.length : Int)))) (by simp [results, Tryd.f14, go_sem]) rfl ⟨_, rfl, fun h => ?_, HB.out⟩
      have := of_decide_eq_false h
      omega
    · obtain ⟨s, hs⟩ : ∃ s, l[j]? = some s := ⟨_, List.getElem?_eq_getElem (by omega)⟩
      obtain ⟨b, o, rfl, hb0, hc⟩ := (HI.out.on hB).row hs
      have c0 := hc 0 _ rfl
      have c1 := hc 1 _ rfl
      have c2 := hc 2 _ rfl
      have c3 := hc 3 _ rfl
      have c4 := hc 4 _ rfl
      have c5 := hc 5 _ rfl
      have c6 := hc 6 _ rfl
      have c7 := hc 7 _ rfl
      rw [Nat.add_zero] at c0
      have hts : (bs s.t).size = s.t.length := bs_size s.t
      have ht := HT.out s (List.mem_of_getElem? hs)
      have hji : (j : Int) < (l.length : Int) := by omega
      have hwj : IntKind.i64.wrap ((j : Int) + 1) = ((j + 1 : Nat) : Int) := wrap_in64 (by omega) (by omega) (by omega)
      obtain ⟨q', hq'⟩ : ∃ q' : Int, q + (s.t.length : Int) = q' := ⟨_, rfl⟩
      have hwq : IntKind.i64.wrap (q + (s.t.length : Int)) = q' := wrap_in64 hq' (by omega) (by omega)
      have HB : Hid (Below w.heap.size w (wr.alloc (.cells #[.int .i64 s.op, .int .i64 s.client, .int .i64 s.number, .int .i64 s.x.kind, .string (bs s.x.k), .string (bs s.x.v), .string (bs s.x.o), .string (bs s.t)] 44))) := hB.alloc hB.size _
      clear hc hs hB
      by_cases hbig : 30000 < q'
      · go_wp2
        exact bodyPost_ret (v := .bool true) (by simp [results, Tryd.f14, go_sem]) rfl ⟨true, rfl, (fun h => by cases h), HB.out⟩
      · have hq2 : q' ≤ 30000 := by omega
        have hq3 : 0 ≤ q' := by omega
        clear hbig
        go_wp2
        go_roundg (l.length - (j + 1))
        case measure => omega
        case rel => exact ⟨j + 1, q', by omega, rfl, rfl, hq3, hq2, HB.out⟩
end Go.Proofs.YtgmobjdjojffgaaDoor
