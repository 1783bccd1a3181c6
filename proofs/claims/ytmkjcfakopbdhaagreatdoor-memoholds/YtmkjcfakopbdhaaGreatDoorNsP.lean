import Derived.Test.YtmkjcfakopbdhaaGreatDoorNsN
import Derived.Test.YtmkjcfakopbdhaaGreatDoorNsI
namespace Go.Proofs.YtmkjcfakopbdhaaGreatDoor
open Go.RowKit
attribute [local go_sem ↓] Go.wp_at_zero Go.wp_at_succ

set_option maxRecDepth 20000 in
set_option maxHeartbeats 1000000 in
theorem rPack_any (l : List (List UInt8)) (v : Value) (w : World) (hl : tot l ≤ 1000000) (hll : l.length ≤ 1000000) (hv : Sl w v l) :
    Calls Tryz.prog 44 #[v] w fun e W' => e = .returned (.string (bs (packL l))) ∧ Below w.heap.size w W' := by
  obtain ⟨va, vc, rfl⟩ := hv.slice
  go_enter Tryz.func44, Tryz.ntmps44
  go_wp2
  go_loopw [3, 8] (fun o i wr => ∃ (k : Nat), o = .string (bs (packL (l.take k))) ∧ i = .int .i64 k ∧ k ≤ l.length ∧ Below w.heap.size w wr)
    (fun _ i _ => l.length - lenOf i)
  case atStart => exact ⟨0, rfl, rfl, Nat.zero_le _, Below.refl _ _⟩
  case round =>
    obtain ⟨k, rfl, rfl, hk, hB⟩ := hrel
    by_cases hk1 : k = l.length
    · subst hk1
      go_wp2
      go_ret
      exact ⟨by rw [List.take_length]; rfl, hB⟩
    · have hk2 : k < l.length := by omega
      obtain ⟨t, ht⟩ : ∃ t, l[k]? = some t := ⟨_, List.getElem?_eq_getElem hk2⟩
      have hsum := sum_take l k t ht
      have htake := pack_take l k t ht
      have hpl : (packL (l.take k)).length ≤ 100000000 := by
        have h1 : tot (l.take k) + t.length ≤ tot l := hsum
        have := pack_len (l.take k) (by omega)
        rw [List.length_take] at this
        omega
      have htl : t.length ≤ 1000000 := by
        have h1 : tot (l.take k) + t.length ≤ tot l := hsum
        omega
      rcases hv.below hB (Nat.le_refl _) with ⟨rfl, _⟩ | ⟨vb, vo, vcap, hve, _, hvc⟩
      · cases ht
      injection hve with hva _ hvcap
      subst hva hvcap
      have hct := hvc k t ht
      clear ht hvc
      have hts : (bs t).size = t.length := bs_size t
      have hit := itoa_len t.length (by omega)
      go_wp2_with fail
      refine (rNum_any t.length wr (by omega) (by omega)).mono ?_
      rintro e w1 ⟨rfl, hb1⟩
      have hB1 := hB.trans (hb1.mono hB.size)
      clear hct
      obtain ⟨p, hp⟩ : ∃ p, Lib.itoa (t.length : Int) = p := ⟨_, rfl⟩
      rw [hp] at hit ⊢
      have hps : (bs p).size = p.length := bs_size p
      obtain ⟨q, hq⟩ : ∃ q, packL (l.take k) = q := ⟨_, rfl⟩
      rw [hq] at hpl htake ⊢
      rw [one, hp] at htake
      have hqs : (bs q).size = q.length := bs_size q
      have htk : Hid (packL (l.take (k + 1)) = q ++ (p ++ ([58] ++ (t ++ [44])))) := htake
      clear hp htake hq
      go_wp2
      go_roundw
      case rel =>
        refine ⟨k + 1, ?_, by rw [Int.natCast_succ], hk2, hB1⟩
        rw [htk.out]
        have e : bs q ++ bs p ++ bs [58] ++ bs t ++ bs [44] = bs (q ++ (p ++ ([58] ++ (t ++ [44])))) := by simp only [bs_append, List.append_assoc]
        exact congrArg Value.string e
      case measure => simp only [lenOf]; omega

end Go.Proofs.YtmkjcfakopbdhaaGreatDoor
