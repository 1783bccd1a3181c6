/- What a memo's tag is of: walked. -/
import Derived.Test.YtielknegifbmpaaDoorMsB
import Derived.Test.YtielknegifbmpaaDoorMeE
import Derived.Deep.RegionHeld3
namespace Go.Proofs.YtielknegifbmpaaDoor
open Go.RowKit
attribute [local go_sem ↓] Go.wp_at_zero Go.wp_at_succ

def memoW : List UInt8 := [109, 101, 109, 111]
def orderW : List UInt8 := [111, 114, 100, 101, 114]
def settleW : List UInt8 := [115, 101, 116, 116, 108, 101]
def ownT (k g v m : Int) (t : List UInt8) : List UInt8 := packL [memoW, Lib.itoa k, Lib.itoa g, Lib.itoa v, Lib.itoa m, t]
def utB (k : Int) : Bool := decide (isK k) && (tgK k.toNat == 0)
theorem bs_toListC (l : List UInt8) : (bs l).toList = l := by rw [ByteArray.toList_eq]; rfl

set_option maxRecDepth 20000 in
set_option maxHeartbeats 2000000 in
theorem isUntagged_any (k : Int) (w : World) (he : EnvM w) : Calls Tryd.prog 26 #[.int .i64 k] w fun e W' => e = .returned (.bool (utB k)) ∧ W' = w := by
  by_cases hk : isK k
  · have hk0 := hk.1
    have hk1 := hk.2
    have hK := isKind_any k
    rw [decide_eq_true hk] at hK
    rw [utB, decide_eq_true hk, Bool.true_and]
    obtain ⟨j, rfl⟩ : ∃ j : Nat, k = (j : Int) := ⟨k.toNat, by omega⟩
    have s6 := (he.shapes.row j (by omega)).c6
    rw [Int.toNat_natCast]
    obtain ⟨T, hT⟩ : ∃ T, tgK j = T := ⟨_, rfl⟩
    rw [hT] at s6 ⊢
    have k1 : (j : Int) < 13 := by omega
    have k0 : (0 : Int) ≤ (j : Int) := by omega
    clear hT hk0 hk1 hk
    go_enter Tryd.func26, Tryd.ntmps26
    go_wp2_with (first | (go_at_call 42; refine (hK _).mono ?_; rintro e w1 ⟨rfl, rfl⟩))
    go_ret
    exact ⟨rfl, rfl⟩
  · have hK := isKind_any k
    rw [decide_eq_false hk] at hK
    rw [utB, decide_eq_false hk, Bool.false_and]
    clear hk
    go_enter Tryd.func26, Tryd.ntmps26
    go_wp2_with (first | (go_at_call 42; refine (hK _).mono ?_; rintro e w1 ⟨rfl, rfl⟩))
    go_ret
    exact ⟨rfl, rfl⟩

set_option maxRecDepth 20000 in
set_option maxHeartbeats 2000000 in
theorem Order_any (g v n : Int) (b : List UInt8) (w : World) (hs : b.length ≤ 20000) (he : EnvP w) : Calls Tryd.prog 28 #[.int .i64 g, .int .i64 v, .int .i64 n, .string (bs b)] w fun e W' => e = .returned (.tuple #[.string (bs (saidV orderW g v n b)), .int .i64 (saidE orderW g v n b)]) ∧ Below w.heap.size w W' := by
  have hT := textOf_any orderW g v n b w (by decide) (by omega) he
  obtain ⟨L, hL⟩ : ∃ L, orderW = L := ⟨_, rfl⟩
  have hlit : Value.string { data := #[111, 114, 100, 101, 114] } = .string (bs L) := by rw [← hL]; rfl
  rw [hL] at hT ⊢
  clear hL
  go_enter Tryd.func28, Tryd.ntmps28
  rw [hlit]
  clear hlit
  go_wp2_with fail
  refine hT.mono ?_
  rintro e w1 ⟨rfl, hb1⟩
  go_wp2
  go_ret2
  exact ⟨rfl, hb1⟩

set_option maxRecDepth 20000 in
set_option maxHeartbeats 2000000 in
theorem Settle_any (g v n : Int) (b : List UInt8) (w : World) (hs : b.length ≤ 20000) (he : EnvP w) : Calls Tryd.prog 29 #[.int .i64 g, .int .i64 v, .int .i64 n, .string (bs b)] w fun e W' => e = .returned (.tuple #[.string (bs (saidV settleW g v n b)), .int .i64 (saidE settleW g v n b)]) ∧ Below w.heap.size w W' := by
  have hT := textOf_any settleW g v n b w (by decide) (by omega) he
  obtain ⟨L, hL⟩ : ∃ L, settleW = L := ⟨_, rfl⟩
  have hlit : Value.string { data := #[115, 101, 116, 116, 108, 101] } = .string (bs L) := by rw [← hL]; rfl
  rw [hL] at hT ⊢
  clear hL
  go_enter Tryd.func29, Tryd.ntmps29
  rw [hlit]
  clear hlit
  go_wp2_with fail
  refine hT.mono ?_
  rintro e w1 ⟨rfl, hb1⟩
  go_wp2
  go_ret2
  exact ⟨rfl, hb1⟩

theorem Sl_builtO (w : World) (a b c d e f : List UInt8) : Sl (w.alloc (.cells #[.string (bs a), .string (bs b), .string (bs c), .string (bs d), .string (bs e), .string (bs f)] 9)) (.slice (some ⟨w.heap.size, 0, none⟩) 6 6) [a, b, c, d, e, f] := Sl_built6 w a b c d e f

set_option maxRecDepth 20000 in
set_option maxHeartbeats 2000000 in
theorem own_any (k g n v m : Int) (t tg : List UInt8) (w : World) (he : EnvP w) (hk : isK k) (hp : isP g n) (hv0 : 0 ≤ v) (hv1 : v ≤ 1099511627776) (hm0 : 0 ≤ m) (hm1 : m ≤ 1099511627776) (ht : t.length ≤ 524288) :
    Calls Tryd.prog 31 #[.agg #[.int .i64 k, .int .i64 g, .int .i64 n, .int .i64 v, .int .i64 m, .string (bs t), .string (bs tg)]] w fun e W' => e = .returned (.string (bs (ownT k g v m t))) ∧ Below w.heap.size w W' := by
  have hba : Below w.heap.size w (w.alloc (.cells #[.int .i64 k, .int .i64 g, .int .i64 n, .int .i64 v, .int .i64 m, .string (bs t), .string (bs tg)] 25)) := (Below.refl _ w).alloc (Nat.le_refl _) _
  have rQ : (w.alloc (.cells #[.int .i64 k, .int .i64 g, .int .i64 n, .int .i64 v, .int .i64 m, .string (bs t), .string (bs tg)] 25)).heap[w.heap.size]? = some (.cells #[.int .i64 k, .int .i64 g, .int .i64 n, .int .i64 v, .int .i64 m, .string (bs t), .string (bs tg)] 25) := heap_alloc_new _ _
  obtain ⟨W0, hW0⟩ : ∃ W, w.alloc (.cells #[.int .i64 k, .int .i64 g, .int .i64 n, .int .i64 v, .int .i64 m, .string (bs t), .string (bs tg)] 25) = W := ⟨_, rfl⟩
  have HW : Hid (w.alloc (.cells #[.int .i64 k, .int .i64 g, .int .i64 n, .int .i64 v, .int .i64 m, .string (bs t), .string (bs tg)] 25) = W0) := hW0
  rw [hW0] at hba rQ
  have hlQ := (Array.getElem?_eq_some_iff.1 rQ).1
  have HK : Hid (∀ W, Below W0.heap.size W0 W → (W.cell? ⟨w.heap.size, 0, none⟩ = some (.int .i64 k) ∧ W.cell? ⟨w.heap.size, 1, none⟩ = some (.int .i64 g) ∧ W.cell? ⟨w.heap.size, 3, none⟩ = some (.int .i64 v) ∧ W.cell? ⟨w.heap.size, 4, none⟩ = some (.int .i64 m) ∧ W.cell? ⟨w.heap.size, 5, none⟩ = some (.string (bs t)))) := fun W hb => by
    have r := (hb.block _ hlQ).trans rQ
    exact ⟨cellB r 0 _ rfl, cellB r 1 _ rfl, cellB r 3 _ rfl, cellB r 4 _ rfl, cellB r 5 _ rfl⟩
  have hk0 := hk.1
  have hk1 := hk.2
  have hg0 := hp.1
  have hg1 := hp.2.1
  have a1 := itoa_le (z := k) (by omega) (by omega)
  have a2 := itoa_le (z := g) (by omega) (by omega)
  have a3 := itoa_le (z := v) (by omega) (by omega)
  have a4 := itoa_le (z := m) (by omega) (by omega)
  have HN : Hid (∀ W, Below W0.heap.size W0 W → ∀ z : Int, -9223372036854775808 ≤ z → z ≤ 9223372036854775807 → Calls Tryd.prog 15 #[.int .i64 z] W fun e w' => e = .returned (.string (bs (Lib.itoa z))) ∧ Below W0.heap.size W0 w') := fun W hb z h0 h1 => by
    have hB := hba.trans (hb.mono hba.size)
    refine (Num_any z W h0 h1 (he.next hB)).mono ?_
    rintro e W' ⟨rfl, h⟩
    exact ⟨rfl, hb.trans (h.mono hb.size)⟩
  have HP : Hid (∀ w2, Below W0.heap.size W0 w2 → Calls Tryd.prog 14 #[.slice (some ⟨w2.heap.size, 0, none⟩) 6 6] (w2.alloc (.cells #[.string (bs memoW), .string (bs (Lib.itoa k)), .string (bs (Lib.itoa g)), .string (bs (Lib.itoa v)), .string (bs (Lib.itoa m)), .string (bs t)] 9)) fun e W' => e = .returned (.string (bs (ownT k g v m t))) ∧ Below W0.heap.size W0 W') := by
    intro w2 hb
    have hb2 := hba.trans (hb.mono hba.size)
    have hb3 : Below w2.heap.size w2 (w2.alloc (.cells #[.string (bs memoW), .string (bs (Lib.itoa k)), .string (bs (Lib.itoa g)), .string (bs (Lib.itoa v)), .string (bs (Lib.itoa m)), .string (bs t)] 9)) := (Below.refl _ _).alloc (Nat.le_refl _) _
    have hB3 := hb2.trans (hb3.mono hb2.size)
    have htot : tot [memoW, Lib.itoa k, Lib.itoa g, Lib.itoa v, Lib.itoa m, t] ≤ 1000000 := by rw [tot6]; have : memoW.length = 4 := rfl; omega
    refine (Pack_any [memoW, Lib.itoa k, Lib.itoa g, Lib.itoa v, Lib.itoa m, t] _ _ htot (by simp) (he.next hB3) (Sl_builtO w2 _ _ _ _ _ _)).mono ?_
    rintro e W' ⟨rfl, hb4⟩
    have hb5 := hb3.trans (hb4.mono hb3.size)
    exact ⟨rfl, hb.trans (hb5.mono hb.size)⟩
  have HBa : Hid (_) := hba
  obtain ⟨X, hX⟩ : ∃ X, bs (Lib.itoa k) = X := ⟨_, rfl⟩
  obtain ⟨G, hG⟩ : ∃ G, bs (Lib.itoa g) = G := ⟨_, rfl⟩
  obtain ⟨Vv, hV⟩ : ∃ M, bs (Lib.itoa v) = M := ⟨_, rfl⟩
  obtain ⟨M, hM⟩ : ∃ M, bs (Lib.itoa m) = M := ⟨_, rfl⟩
  have HN0 : Hid (∀ W, Below W0.heap.size W0 W → Calls Tryd.prog 15 #[.int .i64 k] W fun e w' => e = .returned (.string X) ∧ Below W0.heap.size W0 w') := fun W hb => by rw [← hX]; exact HN.out W hb k (by omega) (by omega)
  have HN1 : Hid (∀ W, Below W0.heap.size W0 W → Calls Tryd.prog 15 #[.int .i64 g] W fun e w' => e = .returned (.string G) ∧ Below W0.heap.size W0 w') := fun W hb => by rw [← hG]; exact HN.out W hb g (by omega) (by omega)
  have HN2 : Hid (∀ W, Below W0.heap.size W0 W → Calls Tryd.prog 15 #[.int .i64 v] W fun e w' => e = .returned (.string Vv) ∧ Below W0.heap.size W0 w') := fun W hb => by rw [← hV]; exact HN.out W hb v (by omega) (by omega)
  have HN3 : Hid (∀ W, Below W0.heap.size W0 W → Calls Tryd.prog 15 #[.int .i64 m] W fun e w' => e = .returned (.string M) ∧ Below W0.heap.size W0 w') := fun W hb => by rw [← hM]; exact HN.out W hb m (by omega) (by omega)
  rw [hX, hG, hV, hM] at HP
  obtain ⟨T, hT⟩ : ∃ T, ownT k g v m t = T := ⟨_, rfl⟩
  rw [hT] at HP ⊢
  obtain ⟨L, hL⟩ : ∃ L, memoW = L := ⟨_, rfl⟩
  have hlit : Value.string { data := #[109, 101, 109, 111] } = .string (bs L) := by rw [← hL]; rfl
  rw [hL] at HP
  have hN1 := HN0.out W0.drew (below_drew (Below.refl _ _))
  obtain ⟨q0, q1, q2, q3, q4⟩ := HK.out W0 (Below.refl _ _)
  clear hT hG hV hM hX hL ht he HN hba rQ hW0 hlQ hk hp hv0 hv1 hm0 hm1 hk0 hk1 hg0 hg1 a1 a2 a3 a4
  go_enter Tryd.func31, Tryd.ntmps31
  rw [hlit]
  clear hlit
  go_upto_region 1 with fail
  rw [HW.out]
  clear HW
  obtain ⟨Q, hQ⟩ : ∃ Q, w.heap.size = Q := ⟨_, rfl⟩
  have HP2 : Hid (∀ w2, Below W0.heap.size W0 w2 → Calls Tryd.prog 14 #[.slice (some ⟨w2.heap.size, 0, none⟩) 6 6] (w2.alloc (.cells #[.string (bs L), .string X, .string G, .string Vv, .string M, .string (bs t)] 9)) fun e W' => e = .returned (.string (bs T)) ∧ Below W0.heap.size W0 W') := HP.out
  have HK2 := HK.out
  rw [hQ] at HK2 q0 q1 q2 q3 q4 ⊢
  have HK3 : Hid (_) := HK2
  clear HK HK2 HP hQ
  go_region_held3 (fun w' => w'.cell? ⟨Q, 0, none⟩ = some (.int .i64 k) ∧ w'.cell? ⟨Q, 1, none⟩ = some (.int .i64 g) ∧ w'.cell? ⟨Q, 3, none⟩ = some (.int .i64 v) ∧ w'.cell? ⟨Q, 4, none⟩ = some (.int .i64 m) ∧ w'.cell? ⟨Q, 5, none⟩ = some (.string (bs t))) (go_keep)
    (first
      | (go_at_call 14; have hgd := hb4; refine (HP2.out _ hb4).mono ?_; rintro e w5 ⟨rfl, hb5⟩; obtain ⟨k0, k1, k2, k3, k4⟩ := HK3.out _ hb5)
      | (go_at_call 15; have hgd := hb3; refine (HN3.out _ hb3).mono ?_; rintro e w4 ⟨rfl, hb4⟩; obtain ⟨k0, k1, k2, k3, k4⟩ := HK3.out _ hb4)
      | (go_at_call 15; have hgd := hb2; refine (HN2.out _ hb2).mono ?_; rintro e w3 ⟨rfl, hb3⟩; obtain ⟨k0, k1, k2, k3, k4⟩ := HK3.out _ hb3)
      | (go_at_call 15; have hgd := hb1; refine (HN1.out _ hb1).mono ?_; rintro e w2 ⟨rfl, hb2⟩; obtain ⟨k0, k1, k2, k3, k4⟩ := HK3.out _ hb2)
      | (go_at_call 15; refine hN1.mono ?_; rintro e w1 ⟨rfl, hb1⟩; obtain ⟨k0, k1, k2, k3, k4⟩ := HK3.out _ hb1))
  all_goals
    go_wp2
    exact bodyPost_ret (v := .string (bs T)) (by simp [results, Tryd.f31, go_sem]) rfl ⟨rfl, HBa.out.trans (hb5.mono HBa.out.size)⟩
end Go.Proofs.YtielknegifbmpaaDoor
