/- Texts by the plain text: an order's, a settlement's, a mark's; walked. -/
import Derived.Test.YtmkjcfakopbdhaaGreatDoorMs1
import Derived.Deep.RegionHeld3
import Derived.Test.YtmkjcfakopbdhaaGreatDoorMhD
import Derived.Test.YtmkjcfakopbdhaaGreatDoorMf1
namespace Go.Proofs.YtmkjcfakopbdhaaGreatDoor
section
open Go.RowKit
attribute [local go_sem ↓] Go.wp_at_zero Go.wp_at_succ

theorem pack_mem {l : List (List UInt8)} {t : List UInt8} (h : t ∈ l) (hl : ∀ x ∈ l, x.length ≤ 1000000000) : t.length ≤ (packL l).length := texts_mem (by rw [texts_pack l hl]; exact h)
theorem ins_ranges {g v n : Int} (h : inS g v n = true) : 0 ≤ g ∧ g ≤ 4 ∧ 0 ≤ v ∧ v ≤ 1099511627776 ∧ 1 ≤ n ∧ n ≤ 1099511627776 := by
  simp only [inS, Bool.and_eq_true] at h
  obtain ⟨h1, h2, h3⟩ := h
  have := inR_t h1
  have := inR_t h2
  have := inR_t h3
  omega
theorem ins_not {g v n : Int} (h : ¬ (0 ≤ g ∧ g ≤ 4 ∧ 0 ≤ v ∧ v ≤ 1099511627776 ∧ 1 ≤ n ∧ n ≤ 1099511627776)) : inS g v n = false := by
  cases hi : inS g v n
  · rfl
  · exact absurd (ins_ranges hi) h
theorem ins_yes {g v n : Int} (h : 0 ≤ g ∧ g ≤ 4 ∧ 0 ≤ v ∧ v ≤ 1099511627776 ∧ 1 ≤ n ∧ n ≤ 1099511627776) : inS g v n = true := by
  simp [inS, inR]; omega

set_option maxRecDepth 20000 in
set_option maxHeartbeats 4000000 in
theorem rText12_any (K : List UInt8) (g v n : Int) (b : List UInt8) (w : World) (hk : K.length ≤ 1000) (hs : b.length ≤ 1000000) :
    Calls Tryz.prog 42 #[.string (bs K), .int .i64 g, .int .i64 v, .agg #[.int .i64 n, .string (bs b)]] w fun e W' => e = .returned (.tuple #[.string (bs (saidV K g v n b)), .int .i64 (saidE K g v n b)]) ∧ Below w.heap.size w W' := by
  have hba : Below w.heap.size w (w.alloc (.cells #[.int .i64 n, .string (bs b)] 92)) := (Below.refl _ w).alloc (Nat.le_refl _) _
  have rQ : (w.alloc (.cells #[.int .i64 n, .string (bs b)] 92)).heap[w.heap.size]? = some (.cells #[.int .i64 n, .string (bs b)] 92) := heap_alloc_new _ _
  by_cases hr : 0 ≤ g ∧ g ≤ 4 ∧ 0 ≤ v ∧ v ≤ 1099511627776 ∧ 1 ≤ n ∧ n ≤ 1099511627776
  case neg =>
    obtain ⟨e1, e2⟩ := saidE_1 (g := g) (v := v) (n := n) K b (ins_not hr)
    rw [e1, e2]
    clear e1 e2 rQ
    by_cases a1 : 0 ≤ g
    case neg => go_enter Tryz.func42, Tryz.ntmps42; go_wp2; go_ret2; exact ⟨rfl, hba⟩
    by_cases a2 : g ≤ 4
    case neg => go_enter Tryz.func42, Tryz.ntmps42; go_wp2; go_ret2; exact ⟨rfl, hba⟩
    by_cases a3 : 0 ≤ v
    case neg => go_enter Tryz.func42, Tryz.ntmps42; go_wp2; go_ret2; exact ⟨rfl, hba⟩
    by_cases a4 : v ≤ 1099511627776
    case neg => go_enter Tryz.func42, Tryz.ntmps42; go_wp2; go_ret2; exact ⟨rfl, hba⟩
    by_cases a5 : 1 ≤ n
    case neg => go_enter Tryz.func42, Tryz.ntmps42; go_wp2; go_ret2; exact ⟨rfl, hba⟩
    have a6 : ¬ n ≤ 1099511627776 := fun a6 => hr ⟨a1, a2, a3, a4, a5, a6⟩
    clear hr
    go_enter Tryz.func42, Tryz.ntmps42
    go_wp2
    go_ret2
    exact ⟨rfl, hba⟩
  have hin := ins_yes hr
  obtain ⟨g0, g4, v0, v4, n0, n4⟩ := hr
  have ht := said_tot (k := K) (g := g) (v := v) (n := n) (b := b) hin
  have HD2 : Hid (30000 < (saidT K g v n b).length → saidE K g v n b = 2 ∧ saidV K g v n b = []) := saidE_2 hin
  have HD0 : Hid ((saidT K g v n b).length ≤ 30000 → saidE K g v n b = 0 ∧ saidV K g v n b = saidT K g v n b) := saidE_0 hin
  have i1 := itoa_le (z := g) (by omega) (by omega)
  have i2 := itoa_le (z := v) (by omega) (by omega)
  have i3 := itoa_le (z := n) (by omega) (by omega)
  have hbl : b.length ≤ (saidT K g v n b).length := pack_mem (by simp) (by intro x hx; simp at hx; rcases hx with rfl | rfl | rfl | rfl | rfl <;> omega)
  have hlen : (bs b).size = b.length := bs_size b
  by_cases hb3 : 30000 < b.length
  · obtain ⟨e1, e2⟩ := HD2.out (by omega)
    rw [e1, e2]
    have hq : decide ((30000 : Int) < ((bs b).size : Int)) = true := by rw [hlen]; exact decide_eq_true (by omega)
    clear e1 e2 HD2 HD0 hbl hb3 hlen ht hin i1 i2 i3 rQ
    go_enter Tryz.func42, Tryz.ntmps42
    go_wp2
    go_ret2
    exact ⟨rfl, hba⟩
  have hq : decide ((30000 : Int) < ((bs b).size : Int)) = false := by rw [hlen]; exact decide_eq_false (by omega)
  obtain ⟨W0, hW0⟩ : ∃ W, w.alloc (.cells #[.int .i64 n, .string (bs b)] 92) = W := ⟨_, rfl⟩
  have HW : Hid (w.alloc (.cells #[.int .i64 n, .string (bs b)] 92) = W0) := hW0
  rw [hW0] at hba rQ
  have hlQ := (Array.getElem?_eq_some_iff.1 rQ).1
  have HK : Hid (∀ W, Below W0.heap.size W0 W → (W.cell? ⟨w.heap.size, 0, none⟩ = some (.int .i64 n) ∧ W.cell? ⟨w.heap.size, 1, none⟩ = some (.string (bs b)))) := fun W hb => by
    have r := (hb.block _ hlQ).trans rQ
    exact ⟨cellB r 0 _ rfl, cellB r 1 _ rfl⟩
  have HN : Hid (∀ W, Below W0.heap.size W0 W → ∀ z : Int, -9223372036854775808 ≤ z → z ≤ 9223372036854775807 → Calls Tryz.prog 45 #[.int .i64 z] W fun e w' => e = .returned (.string (bs (Lib.itoa z))) ∧ Below W0.heap.size W0 w') := fun W hb z h0 h1 => by
    refine (rNum_any z W h0 h1).mono ?_
    rintro e W' ⟨rfl, h⟩
    exact ⟨rfl, hb.trans (h.mono hb.size)⟩
  have HP : Hid (∀ w2, Below W0.heap.size W0 w2 → Calls Tryz.prog 44 #[.slice (some ⟨w2.heap.size, 0, none⟩) 5 5] (w2.alloc (.cells #[.string (bs K), .string (bs (Lib.itoa g)), .string (bs (Lib.itoa v)), .string (bs (Lib.itoa n)), .string (bs b)] 9)) fun e W' => e = .returned (.string (bs (saidT K g v n b))) ∧ Below W0.heap.size W0 W') := by
    intro w2 hb
    have hb3 : Below w2.heap.size w2 (w2.alloc (.cells #[.string (bs K), .string (bs (Lib.itoa g)), .string (bs (Lib.itoa v)), .string (bs (Lib.itoa n)), .string (bs b)] 9)) := (Below.refl _ _).alloc (Nat.le_refl _) _
    refine (rPack_any [K, Lib.itoa g, Lib.itoa v, Lib.itoa n, b] _ _ (by omega) (by simp) (Sl_five w2 _ _ _ _ _)).mono ?_
    rintro e W' ⟨rfl, hb4⟩
    have hb5 := hb3.trans (hb4.mono hb3.size)
    exact ⟨rfl, hb.trans (hb5.mono hb.size)⟩
  have HBa : Hid (_) := hba
  have hsz : (bs (saidT K g v n b)).size = (saidT K g v n b).length := bs_size _
  obtain ⟨G, hG⟩ : ∃ G, bs (Lib.itoa g) = G := ⟨_, rfl⟩
  obtain ⟨Vv, hV⟩ : ∃ M, bs (Lib.itoa v) = M := ⟨_, rfl⟩
  obtain ⟨M, hM⟩ : ∃ M, bs (Lib.itoa n) = M := ⟨_, rfl⟩
  have HN1 : Hid (∀ W, Below W0.heap.size W0 W → Calls Tryz.prog 45 #[.int .i64 g] W fun e w' => e = .returned (.string G) ∧ Below W0.heap.size W0 w') := fun W hb => by rw [← hG]; exact HN.out W hb g (by omega) (by omega)
  have HN2 : Hid (∀ W, Below W0.heap.size W0 W → Calls Tryz.prog 45 #[.int .i64 v] W fun e w' => e = .returned (.string Vv) ∧ Below W0.heap.size W0 w') := fun W hb => by rw [← hV]; exact HN.out W hb v (by omega) (by omega)
  have HN3 : Hid (∀ W, Below W0.heap.size W0 W → Calls Tryz.prog 45 #[.int .i64 n] W fun e w' => e = .returned (.string M) ∧ Below W0.heap.size W0 w') := fun W hb => by rw [← hM]; exact HN.out W hb n (by omega) (by omega)
  rw [hG, hV, hM] at HP
  obtain ⟨E, hE⟩ : ∃ E, saidE K g v n b = E := ⟨_, rfl⟩
  obtain ⟨X, hX⟩ : ∃ X, saidV K g v n b = X := ⟨_, rfl⟩
  obtain ⟨T, hT⟩ : ∃ T, saidT K g v n b = T := ⟨_, rfl⟩
  rw [hE, hX, hT] at HD2 HD0
  rw [hT] at HP hsz
  rw [hE, hX]
  have hN1 := HN1.out W0.drew (below_drew (Below.refl _ _))
  obtain ⟨q0, q1⟩ := HK.out W0 (Below.refl _ _)
  clear hE hX hT hin hG hV hM ht hs HN hba rQ hW0 hlQ hbl hb3 hlen i1 i2 i3 hk
  go_enter Tryz.func42, Tryz.ntmps42
  go_upto_region 1 with fail
  rw [HW.out]
  clear HW
  go_upto_region 5 with fail
  clear g0 g4 v0 v4 n0 n4
  obtain ⟨Q, hQ⟩ : ∃ Q, w.heap.size = Q := ⟨_, rfl⟩
  have HP2 : Hid (∀ w2, Below W0.heap.size W0 w2 → Calls Tryz.prog 44 #[.slice (some ⟨w2.heap.size, 0, none⟩) 5 5] (w2.alloc (.cells #[.string (bs K), .string G, .string Vv, .string M, .string (bs b)] 9)) fun e W' => e = .returned (.string (bs T)) ∧ Below W0.heap.size W0 W') := HP.out
  have HK2 := HK.out
  rw [hQ] at HK2 q0 q1 ⊢
  have HK3 : Hid (_) := HK2
  clear HK HK2 HP hQ
  go_region_held3 (fun w' => w'.cell? ⟨Q, 0, none⟩ = some (.int .i64 n) ∧ w'.cell? ⟨Q, 1, none⟩ = some (.string (bs b))) (go_keep)
    (first
      | (go_at_call 44; have hgd := hb3; refine (HP2.out _ hb3).mono ?_; rintro e w4 ⟨rfl, hb4⟩; obtain ⟨k0, k1⟩ := HK3.out _ hb4)
      | (go_at_call 45; have hgd := hb2; refine (HN3.out _ hb2).mono ?_; rintro e w3 ⟨rfl, hb3⟩; obtain ⟨k0, k1⟩ := HK3.out _ hb3)
      | (go_at_call 45; have hgd := hb1; refine (HN2.out _ hb1).mono ?_; rintro e w2 ⟨rfl, hb2⟩; obtain ⟨k0, k1⟩ := HK3.out _ hb2)
      | (go_at_call 45; refine hN1.mono ?_; rintro e w1 ⟨rfl, hb1⟩; obtain ⟨k0, k1⟩ := HK3.out _ hb1))
  all_goals
    clear k0 k1 q0 q1 HK3 HP2 HN1 HN2 HN3 hN1
    by_cases hl : 30000 < T.length
    · obtain ⟨rfl, rfl⟩ := HD2.out hl
      have hl2 : (30000 : Int) < (T.length : Int) := by omega
      go_wp2
      exact bodyPost_ret (v := .tuple #[.string (bs []), .int .i64 2]) (by simp [results, Tryz.f42, go_sem, bs]) rfl ⟨rfl, HBa.out.trans (hb4.mono HBa.out.size)⟩
    · obtain ⟨rfl, rfl⟩ := HD0.out (by omega)
      have hl2 : (X.length : Int) ≤ 30000 := by omega
      go_wp2
      exact bodyPost_ret (v := .tuple #[.string (bs X), .int .i64 0]) (by simp [results, Tryz.f42, go_sem]) rfl ⟨rfl, HBa.out.trans (hb4.mono HBa.out.size)⟩

set_option maxRecDepth 20000 in
set_option maxHeartbeats 4000000 in
theorem rText11_any (g n : Int) (st : List UInt8) (w : World) (hs : st.length ≤ 1000000) :
    Calls Tryz.prog 43 #[.int .i64 g, .int .i64 n, .string (bs st)] w fun e W' => e = .returned (.tuple #[.string (bs (textV g n st)), .int .i64 (textE g n st)]) ∧ Below w.heap.size w W' := by
  by_cases hr : 0 ≤ g ∧ g ≤ 4 ∧ 1 ≤ n ∧ n ≤ 1099511627776
  case neg =>
    have hnt : inT g n = false := by
      cases hi : inT g n
      · rfl
      · simp only [inT, Bool.and_eq_true] at hi
        have := inR_t hi.1
        have := inR_t hi.2
        exact absurd ⟨by omega, by omega, by omega, by omega⟩ hr
    obtain ⟨e1, e2⟩ := textE_1 (g := g) (n := n) st hnt
    rw [e1, e2]
    clear e1 e2 hnt
    by_cases a1 : 0 ≤ g
    case neg => go_enter Tryz.func43, Tryz.ntmps43; go_wp2; go_ret2; exact ⟨rfl, Below.refl _ _⟩
    by_cases a2 : g ≤ 4
    case neg => go_enter Tryz.func43, Tryz.ntmps43; go_wp2; go_ret2; exact ⟨rfl, Below.refl _ _⟩
    by_cases a5 : 1 ≤ n
    case neg => go_enter Tryz.func43, Tryz.ntmps43; go_wp2; go_ret2; exact ⟨rfl, Below.refl _ _⟩
    have a6 : ¬ n ≤ 1099511627776 := fun a6 => hr ⟨a1, a2, a5, a6⟩
    clear hr
    go_enter Tryz.func43, Tryz.ntmps43
    go_wp2
    go_ret2
    exact ⟨rfl, Below.refl _ _⟩
  obtain ⟨g0, g4, n0, n4⟩ := hr
  have hin : inT g n = true := by simp [inT, inR]; omega
  have ht := mark_tot (g := g) (n := n) (st := st) hin
  have HD2 : Hid (30000 < (markT g n st).length → textE g n st = 2 ∧ textV g n st = []) := textE_2 hin
  have HD0 : Hid ((markT g n st).length ≤ 30000 → textE g n st = 0 ∧ textV g n st = markT g n st) := textE_0 hin
  have i1 := itoa_le (z := g) (by omega) (by omega)
  have i3 := itoa_le (z := n) (by omega) (by omega)
  have w4 : ([109, 97, 114, 107] : List UInt8).length = 4 := rfl
  have hbl : st.length ≤ (markT g n st).length := pack_mem (by simp) (by intro x hx; simp only [List.mem_cons, List.not_mem_nil, or_false] at hx; rcases hx with rfl | rfl | rfl | rfl <;> omega)
  have hlen : (bs st).size = st.length := bs_size st
  by_cases hb3 : 30000 < st.length
  · obtain ⟨e1, e2⟩ := HD2.out (by omega)
    rw [e1, e2]
    have hq : decide ((30000 : Int) < ((bs st).size : Int)) = true := by rw [hlen]; exact decide_eq_true (by omega)
    clear e1 e2 HD2 HD0 hbl hb3 hlen ht hin i1 i3
    go_enter Tryz.func43, Tryz.ntmps43
    go_wp2
    go_ret2
    exact ⟨rfl, Below.refl _ _⟩
  have hq : decide ((30000 : Int) < ((bs st).size : Int)) = false := by rw [hlen]; exact decide_eq_false (by omega)
  have hN1 := rNum_any g w (by omega) (by omega)
  have HN2 : Hid (∀ w1, Below w.heap.size w w1 → Calls Tryz.prog 45 #[.int .i64 n] w1 fun e w' => e = .returned (.string (bs (Lib.itoa n))) ∧ Below w1.heap.size w1 w') := fun w1 _ => rNum_any n w1 (by omega) (by omega)
  have HP : Hid (∀ w2, Below w.heap.size w w2 → Calls Tryz.prog 44 #[.slice (some ⟨w2.heap.size, 0, none⟩) 4 4] (w2.alloc (.cells #[.string (bs [109, 97, 114, 107]), .string (bs (Lib.itoa g)), .string (bs (Lib.itoa n)), .string (bs st)] 9)) fun e W' => e = .returned (.string (bs (markT g n st))) ∧ Below w.heap.size w W') := by
    intro w2 hb
    have hb3 : Below w2.heap.size w2 (w2.alloc (.cells #[.string (bs [109, 97, 114, 107]), .string (bs (Lib.itoa g)), .string (bs (Lib.itoa n)), .string (bs st)] 9)) := (Below.refl _ _).alloc (Nat.le_refl _) _
    have hB3 := hb.trans (hb3.mono hb.size)
    refine (rPack_any [[109, 97, 114, 107], Lib.itoa g, Lib.itoa n, st] _ _ (by omega) (by simp) (Sl_four w2 _ _ _ _)).mono ?_
    rintro e W' ⟨rfl, hb4⟩
    exact ⟨rfl, hB3.trans (hb4.mono hB3.size)⟩
  have hsz : (bs (markT g n st)).size = (markT g n st).length := bs_size _
  obtain ⟨G, hG⟩ : ∃ G, bs (Lib.itoa g) = G := ⟨_, rfl⟩
  obtain ⟨M, hM⟩ : ∃ M, bs (Lib.itoa n) = M := ⟨_, rfl⟩
  rw [hG] at hN1 HP
  rw [hM] at HN2 HP
  obtain ⟨E, hE⟩ : ∃ E, textE g n st = E := ⟨_, rfl⟩
  obtain ⟨X, hX⟩ : ∃ X, textV g n st = X := ⟨_, rfl⟩
  obtain ⟨T, hT⟩ : ∃ T, markT g n st = T := ⟨_, rfl⟩
  rw [hE, hX, hT] at HD2 HD0
  rw [hT] at HP hsz
  rw [hE, hX]
  clear hE hX hT hin hG hM ht hs hbl hb3 hlen i1 i3 w4
  go_enter Tryz.func43, Tryz.ntmps43
  by_cases hl : 30000 < T.length
  · obtain ⟨rfl, rfl⟩ := HD2.out hl
    have hl2 : (30000 : Int) < (T.length : Int) := by omega
    go_wp2_with (first
      | (go_at_call 45; refine hN1.mono ?_; clear hN1; rintro e w1 ⟨rfl, hb1⟩; have hN2 := HN2.out _ hb1)
      | (go_at_call 45; refine hN2.mono ?_; clear hN2; rintro e w2 ⟨rfl, hb2⟩; have hP := HP.out _ (hb1.trans (hb2.mono hb1.size)))
      | (go_at_call 44; refine hP.mono ?_; rintro e w4 ⟨rfl, hb4⟩))
    exact bodyPost_ret (v := .tuple #[.string (bs []), .int .i64 2]) (by simp [results, Tryz.f43, go_sem, bs]) rfl ⟨rfl, hb4⟩
  · obtain ⟨rfl, rfl⟩ := HD0.out (by omega)
    have hl2 : (X.length : Int) ≤ 30000 := by omega
    go_wp2_with (first
      | (go_at_call 45; refine hN1.mono ?_; clear hN1; rintro e w1 ⟨rfl, hb1⟩; have hN2 := HN2.out _ hb1)
      | (go_at_call 45; refine hN2.mono ?_; clear hN2; rintro e w2 ⟨rfl, hb2⟩; have hP := HP.out _ (hb1.trans (hb2.mono hb1.size)))
      | (go_at_call 44; refine hP.mono ?_; rintro e w4 ⟨rfl, hb4⟩))
    exact bodyPost_ret (v := .tuple #[.string (bs X), .int .i64 0]) (by simp [results, Tryz.f43, go_sem]) rfl ⟨rfl, hb4⟩
end
section
open Go.RowKit
attribute [local go_sem ↓] Go.wp_at_zero Go.wp_at_succ

theorem ut_iff {k : Int} (hk : isK k) : utB k = (tgK k.toNat == 0) := by rw [utB, decide_eq_true hk, Bool.true_and]

set_option maxRecDepth 20000 in
set_option maxHeartbeats 8000000 in
theorem rSaid_any (k g n v m : Int) (t tg : List UInt8) (w : World) (ht : t.length ≤ 40000) (hc : cE k g n v m t.length tg.length = 0) :
    Calls Tryz.prog 24 #[.agg #[.int .i64 k, .int .i64 g, .int .i64 n, .int .i64 v, .int .i64 m, .string (bs t), .string (bs tg)]] w fun e W' => e = .returned (.tuple #[.string (bs (saX k g n v m t tg)), .int .i64 (saE k g n v m t tg)]) ∧ Below w.heap.size w W' := by
  have hb0 : Below w.heap.size w (w.alloc (.cells #[.int .i64 k, .int .i64 g, .int .i64 n, .int .i64 v, .int .i64 m, .string (bs t), .string (bs tg)] 38)) := (Below.refl _ w).alloc (Nat.le_refl _) _
  have p0 : (w.alloc (.cells #[.int .i64 k, .int .i64 g, .int .i64 n, .int .i64 v, .int .i64 m, .string (bs t), .string (bs tg)] 38)).heap[w.heap.size]? = some (.cells #[.int .i64 k, .int .i64 g, .int .i64 n, .int .i64 v, .int .i64 m, .string (bs t), .string (bs tg)] 38) := heap_alloc_new _ _
  have hlp : w.heap.size < (w.alloc (.cells #[.int .i64 k, .int .i64 g, .int .i64 n, .int .i64 v, .int .i64 m, .string (bs t), .string (bs tg)] 38)).heap.size := by simp
  have hR := rRight_any k g n v m t tg (w.alloc (.cells #[.int .i64 k, .int .i64 g, .int .i64 n, .int .i64 v, .int .i64 m, .string (bs t), .string (bs tg)] 38))
  have hCk := fun W => rCheck_any k g n v m t tg W
  obtain ⟨hf, htk⟩ := cE_ok hc
  obtain ⟨hk, hp, hgk, hok⟩ := fE_ok hf
  rw [hf] at hR
  rw [hc] at hCk
  have hk0 := hk.1
  have hk1 := hk.2
  have hkn := kinds k.toNat (by omega)
  have hv0 : 0 ≤ v := by have := hok.1; omega
  have hv1 : v ≤ 1099511627776 := by have := hok.2.1; omega
  have hm0 : 0 ≤ m := by have := hok.2.2.1; omega
  have hm1 : m ≤ 1099511627776 := by have := hok.2.2.2.1; omega
  have hrow := fun W => krow_any k.toNat (by omega) W
  rw [show ((k.toNat : Nat) : Int) = k by omega] at hrow
  obtain ⟨c0, c1, c2, c3, hrw, -, -, -, -, -, hc3⟩ := row_is k.toNat (by omega) (by omega)
  rw [hrw] at hrow
  have hut := ut_iff hk
  have hsa : utB k = false → saX k g n v m t tg = sdX k g v m t ∧ saE k g n v m t tg = sdE k g v m t := fun hu => sa_of hu hf (fun ⟨a, b⟩ => by
    rcases hkn.2.2.2.2.2.2.2.2 with h | h
    · rw [h] at htk; exact a (List.length_eq_zero_iff.1 (by omega))
    · rw [h] at htk; exact b (by omega))
  have hte : (bs tg).toList.isEmpty = true ∨ (bs tg).toList.isEmpty = false := by cases (bs tg).toList.isEmpty <;> simp
  have b1 := itoa_le (z := k) (by omega) (by omega)
  have b2 := itoa_le (z := g) (by have := hp.1; omega) (by have := hp.2.1; omega)
  have b3 := itoa_le (z := v) (by omega) (by omega)
  have b4 := itoa_le (z := m) (by omega) (by omega)
  have hg0 := hp.1
  have hg1 := hp.2.1
  have hOr := fun W => rText12_any orderW g v m t W (by decide) (by omega)
  have hSe := fun W => rText12_any settleW g v m t W (by decide) (by omega)
  have hMa := fun W => rText11_any g m t W (by omega)
  clear hc hf hok hkn hgk hrw
  rcases hc3 with ⟨rfl, h16⟩ | ⟨rfl, h0⟩
  case inr =>
    have hu : utB k = true := by rw [hut, h0]; rfl
    have i3 : ∀ W : World, (Instr.index 9 (.string (bs [c0, c1, c2, 46])) (.int .i64 3)).run Tryz.prog W = .ok (.int .u8 46) W := fun W => rfl
    rw [show saX k g n v m t tg = [] by rw [saX, if_pos hu], show saE k g n v m t tg = 6 by rw [saE, if_pos hu]]
    clear hu hut h0 htk hsa hOr hSe hMa b1 b2 b3 b4 hg0 hg1 hk hp hv0 hv1 hm0 hm1 hk0 hk1 ht
    rcases hte with hte | hte
    all_goals
      go_enter Tryz.func24, Tryz.ntmps24
      go_wp2_with (first | (go_at_call 40; refine hR.mono ?_; clear hR; rintro e w1 ⟨rfl, hb1⟩; have hB1 := hb0.trans (hb1.mono hb0.size); have p1 := (hb1.block w.heap.size hlp).trans p0; have hl1 : w.heap.size < w1.heap.size := (Array.getElem?_eq_some_iff.1 p1).1; have x0 := cellB p1 0 (.int .i64 k) rfl; have x1 := cellB p1 1 (.int .i64 g) rfl; have x2 := cellB p1 2 (.int .i64 n) rfl; have x3 := cellB p1 3 (.int .i64 v) rfl; have x4 := cellB p1 4 (.int .i64 m) rfl; have x5 := cellB p1 5 (.string (bs t)) rfl; have x6 := cellB p1 6 (.string (bs tg)) rfl; clear hb1 p0 hlp) | (go_at_call 23; refine (hCk _).mono ?_; clear hCk; rintro e w2 ⟨rfl, hb2⟩; have hB2 := hB1.trans (hb2.mono hB1.size); have p2 := (hb2.block w.heap.size hl1).trans p1; have y0 := cellB p2 0 (.int .i64 k) rfl; have y1 := cellB p2 1 (.int .i64 g) rfl; have y2 := cellB p2 2 (.int .i64 n) rfl; have y3 := cellB p2 3 (.int .i64 v) rfl; have y4 := cellB p2 4 (.int .i64 m) rfl; have y5 := cellB p2 5 (.string (bs t)) rfl; have y6 := cellB p2 6 (.string (bs tg)) rfl; clear hb2) | (go_at_call 41; refine (hrow _).mono ?_; clear hrow; rintro e w3 ⟨rfl, hb3⟩))
      go_ret2
      first | exact ⟨rfl, hB2.trans (hb3.mono hB2.size)⟩ | exact ⟨rfl, hB1.trans (hb3.mono hB1.size)⟩
  have hu : utB k = false := by rw [hut, h16]; rfl
  have i3 : ∀ W : World, (Instr.index 9 (.string (bs [c0, c1, c2, 103])) (.int .i64 3)).run Tryz.prog W = .ok (.int .u8 103) W := fun W => rfl
  rw [h16] at htk
  have hte : (bs tg).toList.isEmpty = false := by rw [bs_toListC]; cases tg with | nil => simp at htk | cons a l => rfl
  rw [(hsa hu).1, (hsa hu).2]
  clear hu hut h16 htk hsa
  by_cases h2 : k = 2
  case pos =>
    subst h2
    rw [show sdX 2 g v m t = saidV orderW g v m t from rfl, show sdE 2 g v m t = saidE orderW g v m t from rfl]
    obtain ⟨SX, hSX⟩ : ∃ X, saidV orderW g v m t = X := ⟨_, rfl⟩
    obtain ⟨SE, hSE⟩ : ∃ E, saidE orderW g v m t = E := ⟨_, rfl⟩
    rw [hSX, hSE] at hOr ⊢
    clear hSe hMa b1 b2 b3 b4 hg0 hg1 hk hp hv0 hv1 hm0 hm1 hk0 hk1 ht
    have hlit : Value.string { data := #[111, 114, 100, 101, 114] } = .string (bs orderW) := rfl
    obtain ⟨LW, hLW⟩ : ∃ L, orderW = L := ⟨_, rfl⟩
    rw [hLW] at hlit hOr
    clear hSX hSE hLW
    go_enter Tryz.func24, Tryz.ntmps24
    rw [hlit]
    clear hlit
    go_wp2_with (first | (go_at_call 40; refine hR.mono ?_; clear hR; rintro e w1 ⟨rfl, hb1⟩; have hB1 := hb0.trans (hb1.mono hb0.size); have p1 := (hb1.block w.heap.size hlp).trans p0; have hl1 : w.heap.size < w1.heap.size := (Array.getElem?_eq_some_iff.1 p1).1; have x0 := cellB p1 0 (.int .i64 2) rfl; have x1 := cellB p1 1 (.int .i64 g) rfl; have x2 := cellB p1 2 (.int .i64 n) rfl; have x3 := cellB p1 3 (.int .i64 v) rfl; have x4 := cellB p1 4 (.int .i64 m) rfl; have x5 := cellB p1 5 (.string (bs t)) rfl; have x6 := cellB p1 6 (.string (bs tg)) rfl; clear hb1 p0 hlp hb0) | (go_at_call 23; refine (hCk _).mono ?_; clear hCk; rintro e w2 ⟨rfl, hb2⟩; have hB2 := hB1.trans (hb2.mono hB1.size); have p2 := (hb2.block w.heap.size hl1).trans p1; have hl2 : w.heap.size < w2.heap.size := (Array.getElem?_eq_some_iff.1 p2).1; have y0 := cellB p2 0 (.int .i64 2) rfl; have y1 := cellB p2 1 (.int .i64 g) rfl; have y2 := cellB p2 2 (.int .i64 n) rfl; have y3 := cellB p2 3 (.int .i64 v) rfl; have y4 := cellB p2 4 (.int .i64 m) rfl; have y5 := cellB p2 5 (.string (bs t)) rfl; have y6 := cellB p2 6 (.string (bs tg)) rfl; clear hb2 x0 x1 x2 x3 x4 x5 x6 p1 hl1 hB1) | (go_at_call 41; refine (hrow _).mono ?_; clear hrow; rintro e w3 ⟨rfl, hb3⟩; have hB3 := hB2.trans (hb3.mono hB2.size); have p3 := (hb3.block w.heap.size hl2).trans p2; have hl3 : w.heap.size < w3.heap.size := (Array.getElem?_eq_some_iff.1 p3).1; have z0 := cellB p3 0 (.int .i64 2) rfl; have z1 := cellB p3 1 (.int .i64 g) rfl; have z2 := cellB p3 2 (.int .i64 n) rfl; have z3 := cellB p3 3 (.int .i64 v) rfl; have z4 := cellB p3 4 (.int .i64 m) rfl; have z5 := cellB p3 5 (.string (bs t)) rfl; have z6 := cellB p3 6 (.string (bs tg)) rfl; clear hb3 y0 y1 y2 y3 y4 y5 y6 p2 hl2 hB2) | (go_at_call 42; refine (hOr _).mono ?_; rintro e w4 ⟨rfl, hb4⟩))
    go_ret2
    exact ⟨rfl, hB3.trans (hb4.mono hB3.size)⟩
  by_cases h3 : k = 3
  case pos =>
    subst h3
    rw [show sdX 3 g v m t = saidV settleW g v m t from rfl, show sdE 3 g v m t = saidE settleW g v m t from rfl]
    obtain ⟨SX, hSX⟩ : ∃ X, saidV settleW g v m t = X := ⟨_, rfl⟩
    obtain ⟨SE, hSE⟩ : ∃ E, saidE settleW g v m t = E := ⟨_, rfl⟩
    rw [hSX, hSE] at hSe ⊢
    clear hOr hMa b1 b2 b3 b4 hg0 hg1 hk hp hv0 hv1 hm0 hm1 hk0 hk1 ht
    have hlit : Value.string { data := #[115, 101, 116, 116, 108, 101] } = .string (bs settleW) := rfl
    obtain ⟨LW, hLW⟩ : ∃ L, settleW = L := ⟨_, rfl⟩
    rw [hLW] at hlit hSe
    clear hSX hSE hLW
    go_enter Tryz.func24, Tryz.ntmps24
    rw [hlit]
    clear hlit
    go_wp2_with (first | (go_at_call 40; refine hR.mono ?_; clear hR; rintro e w1 ⟨rfl, hb1⟩; have hB1 := hb0.trans (hb1.mono hb0.size); have p1 := (hb1.block w.heap.size hlp).trans p0; have hl1 : w.heap.size < w1.heap.size := (Array.getElem?_eq_some_iff.1 p1).1; have x0 := cellB p1 0 (.int .i64 3) rfl; have x1 := cellB p1 1 (.int .i64 g) rfl; have x2 := cellB p1 2 (.int .i64 n) rfl; have x3 := cellB p1 3 (.int .i64 v) rfl; have x4 := cellB p1 4 (.int .i64 m) rfl; have x5 := cellB p1 5 (.string (bs t)) rfl; have x6 := cellB p1 6 (.string (bs tg)) rfl; clear hb1 p0 hlp hb0) | (go_at_call 23; refine (hCk _).mono ?_; clear hCk; rintro e w2 ⟨rfl, hb2⟩; have hB2 := hB1.trans (hb2.mono hB1.size); have p2 := (hb2.block w.heap.size hl1).trans p1; have hl2 : w.heap.size < w2.heap.size := (Array.getElem?_eq_some_iff.1 p2).1; have y0 := cellB p2 0 (.int .i64 3) rfl; have y1 := cellB p2 1 (.int .i64 g) rfl; have y2 := cellB p2 2 (.int .i64 n) rfl; have y3 := cellB p2 3 (.int .i64 v) rfl; have y4 := cellB p2 4 (.int .i64 m) rfl; have y5 := cellB p2 5 (.string (bs t)) rfl; have y6 := cellB p2 6 (.string (bs tg)) rfl; clear hb2 x0 x1 x2 x3 x4 x5 x6 p1 hl1 hB1) | (go_at_call 41; refine (hrow _).mono ?_; clear hrow; rintro e w3 ⟨rfl, hb3⟩; have hB3 := hB2.trans (hb3.mono hB2.size); have p3 := (hb3.block w.heap.size hl2).trans p2; have hl3 : w.heap.size < w3.heap.size := (Array.getElem?_eq_some_iff.1 p3).1; have z0 := cellB p3 0 (.int .i64 3) rfl; have z1 := cellB p3 1 (.int .i64 g) rfl; have z2 := cellB p3 2 (.int .i64 n) rfl; have z3 := cellB p3 3 (.int .i64 v) rfl; have z4 := cellB p3 4 (.int .i64 m) rfl; have z5 := cellB p3 5 (.string (bs t)) rfl; have z6 := cellB p3 6 (.string (bs tg)) rfl; clear hb3 y0 y1 y2 y3 y4 y5 y6 p2 hl2 hB2) | (go_at_call 42; refine (hSe _).mono ?_; rintro e w4 ⟨rfl, hb4⟩))
    go_ret2
    exact ⟨rfl, hB3.trans (hb4.mono hB3.size)⟩
  by_cases h4 : k = 4
  case pos =>
    subst h4
    rw [show sdX 4 g v m t = textV g m t from rfl, show sdE 4 g v m t = textE g m t from rfl]
    obtain ⟨SX, hSX⟩ : ∃ X, textV g m t = X := ⟨_, rfl⟩
    obtain ⟨SE, hSE⟩ : ∃ E, textE g m t = E := ⟨_, rfl⟩
    rw [hSX, hSE] at hMa ⊢
    clear hOr hSe b1 b2 b3 b4 hg0 hg1 hk hp hv0 hv1 hm0 hm1 hk0 hk1 ht
    clear hSX hSE
    go_enter Tryz.func24, Tryz.ntmps24
    go_wp2_with (first | (go_at_call 40; refine hR.mono ?_; clear hR; rintro e w1 ⟨rfl, hb1⟩; have hB1 := hb0.trans (hb1.mono hb0.size); have p1 := (hb1.block w.heap.size hlp).trans p0; have hl1 : w.heap.size < w1.heap.size := (Array.getElem?_eq_some_iff.1 p1).1; have x0 := cellB p1 0 (.int .i64 4) rfl; have x1 := cellB p1 1 (.int .i64 g) rfl; have x2 := cellB p1 2 (.int .i64 n) rfl; have x3 := cellB p1 3 (.int .i64 v) rfl; have x4 := cellB p1 4 (.int .i64 m) rfl; have x5 := cellB p1 5 (.string (bs t)) rfl; have x6 := cellB p1 6 (.string (bs tg)) rfl; clear hb1 p0 hlp hb0) | (go_at_call 23; refine (hCk _).mono ?_; clear hCk; rintro e w2 ⟨rfl, hb2⟩; have hB2 := hB1.trans (hb2.mono hB1.size); have p2 := (hb2.block w.heap.size hl1).trans p1; have hl2 : w.heap.size < w2.heap.size := (Array.getElem?_eq_some_iff.1 p2).1; have y0 := cellB p2 0 (.int .i64 4) rfl; have y1 := cellB p2 1 (.int .i64 g) rfl; have y2 := cellB p2 2 (.int .i64 n) rfl; have y3 := cellB p2 3 (.int .i64 v) rfl; have y4 := cellB p2 4 (.int .i64 m) rfl; have y5 := cellB p2 5 (.string (bs t)) rfl; have y6 := cellB p2 6 (.string (bs tg)) rfl; clear hb2 x0 x1 x2 x3 x4 x5 x6 p1 hl1 hB1) | (go_at_call 41; refine (hrow _).mono ?_; clear hrow; rintro e w3 ⟨rfl, hb3⟩; have hB3 := hB2.trans (hb3.mono hB2.size); have p3 := (hb3.block w.heap.size hl2).trans p2; have hl3 : w.heap.size < w3.heap.size := (Array.getElem?_eq_some_iff.1 p3).1; have z0 := cellB p3 0 (.int .i64 4) rfl; have z1 := cellB p3 1 (.int .i64 g) rfl; have z2 := cellB p3 2 (.int .i64 n) rfl; have z3 := cellB p3 3 (.int .i64 v) rfl; have z4 := cellB p3 4 (.int .i64 m) rfl; have z5 := cellB p3 5 (.string (bs t)) rfl; have z6 := cellB p3 6 (.string (bs tg)) rfl; clear hb3 y0 y1 y2 y3 y4 y5 y6 p2 hl2 hB2) | (go_at_call 43; refine (hMa _).mono ?_; rintro e w4 ⟨rfl, hb4⟩))
    go_ret2
    exact ⟨rfl, hB3.trans (hb4.mono hB3.size)⟩
  by_cases h10 : k = 10
  case pos =>
    subst h10
    rw [show sdX 10 g v m t = t from rfl, show sdE 10 g v m t = 0 from rfl]
    clear hOr hSe hMa b1 b2 b3 b4 hg0 hg1 hk hp hv0 hv1 hm0 hm1 hk0 hk1 ht h2 h3 h4
    go_enter Tryz.func24, Tryz.ntmps24
    go_wp2_with (first | (go_at_call 40; refine hR.mono ?_; clear hR; rintro e w1 ⟨rfl, hb1⟩; have hB1 := hb0.trans (hb1.mono hb0.size); have p1 := (hb1.block w.heap.size hlp).trans p0; have hl1 : w.heap.size < w1.heap.size := (Array.getElem?_eq_some_iff.1 p1).1; have x0 := cellB p1 0 (.int .i64 10) rfl; have x1 := cellB p1 1 (.int .i64 g) rfl; have x2 := cellB p1 2 (.int .i64 n) rfl; have x3 := cellB p1 3 (.int .i64 v) rfl; have x4 := cellB p1 4 (.int .i64 m) rfl; have x5 := cellB p1 5 (.string (bs t)) rfl; have x6 := cellB p1 6 (.string (bs tg)) rfl; clear hb1 p0 hlp hb0) | (go_at_call 23; refine (hCk _).mono ?_; clear hCk; rintro e w2 ⟨rfl, hb2⟩; have hB2 := hB1.trans (hb2.mono hB1.size); have p2 := (hb2.block w.heap.size hl1).trans p1; have hl2 : w.heap.size < w2.heap.size := (Array.getElem?_eq_some_iff.1 p2).1; have y0 := cellB p2 0 (.int .i64 10) rfl; have y1 := cellB p2 1 (.int .i64 g) rfl; have y2 := cellB p2 2 (.int .i64 n) rfl; have y3 := cellB p2 3 (.int .i64 v) rfl; have y4 := cellB p2 4 (.int .i64 m) rfl; have y5 := cellB p2 5 (.string (bs t)) rfl; have y6 := cellB p2 6 (.string (bs tg)) rfl; clear hb2 x0 x1 x2 x3 x4 x5 x6 p1 hl1 hB1) | (go_at_call 41; refine (hrow _).mono ?_; clear hrow; rintro e w3 ⟨rfl, hb3⟩; have hB3 := hB2.trans (hb3.mono hB2.size); have p3 := (hb3.block w.heap.size hl2).trans p2; have hl3 : w.heap.size < w3.heap.size := (Array.getElem?_eq_some_iff.1 p3).1; have z0 := cellB p3 0 (.int .i64 10) rfl; have z1 := cellB p3 1 (.int .i64 g) rfl; have z2 := cellB p3 2 (.int .i64 n) rfl; have z3 := cellB p3 3 (.int .i64 v) rfl; have z4 := cellB p3 4 (.int .i64 m) rfl; have z5 := cellB p3 5 (.string (bs t)) rfl; have z6 := cellB p3 6 (.string (bs tg)) rfl; clear hb3 y0 y1 y2 y3 y4 y5 y6 p2 hl2 hB2))
    go_ret2
    exact ⟨rfl, hB3⟩
  by_cases h11 : k = 11
  case pos =>
    subst h11
    rw [show sdX 11 g v m t = t from rfl, show sdE 11 g v m t = 0 from rfl]
    clear hOr hSe hMa b1 b2 b3 b4 hg0 hg1 hk hp hv0 hv1 hm0 hm1 hk0 hk1 ht h2 h3 h4 h10
    go_enter Tryz.func24, Tryz.ntmps24
    go_wp2_with (first | (go_at_call 40; refine hR.mono ?_; clear hR; rintro e w1 ⟨rfl, hb1⟩; have hB1 := hb0.trans (hb1.mono hb0.size); have p1 := (hb1.block w.heap.size hlp).trans p0; have hl1 : w.heap.size < w1.heap.size := (Array.getElem?_eq_some_iff.1 p1).1; have x0 := cellB p1 0 (.int .i64 11) rfl; have x1 := cellB p1 1 (.int .i64 g) rfl; have x2 := cellB p1 2 (.int .i64 n) rfl; have x3 := cellB p1 3 (.int .i64 v) rfl; have x4 := cellB p1 4 (.int .i64 m) rfl; have x5 := cellB p1 5 (.string (bs t)) rfl; have x6 := cellB p1 6 (.string (bs tg)) rfl; clear hb1 p0 hlp hb0) | (go_at_call 23; refine (hCk _).mono ?_; clear hCk; rintro e w2 ⟨rfl, hb2⟩; have hB2 := hB1.trans (hb2.mono hB1.size); have p2 := (hb2.block w.heap.size hl1).trans p1; have hl2 : w.heap.size < w2.heap.size := (Array.getElem?_eq_some_iff.1 p2).1; have y0 := cellB p2 0 (.int .i64 11) rfl; have y1 := cellB p2 1 (.int .i64 g) rfl; have y2 := cellB p2 2 (.int .i64 n) rfl; have y3 := cellB p2 3 (.int .i64 v) rfl; have y4 := cellB p2 4 (.int .i64 m) rfl; have y5 := cellB p2 5 (.string (bs t)) rfl; have y6 := cellB p2 6 (.string (bs tg)) rfl; clear hb2 x0 x1 x2 x3 x4 x5 x6 p1 hl1 hB1) | (go_at_call 41; refine (hrow _).mono ?_; clear hrow; rintro e w3 ⟨rfl, hb3⟩; have hB3 := hB2.trans (hb3.mono hB2.size); have p3 := (hb3.block w.heap.size hl2).trans p2; have hl3 : w.heap.size < w3.heap.size := (Array.getElem?_eq_some_iff.1 p3).1; have z0 := cellB p3 0 (.int .i64 11) rfl; have z1 := cellB p3 1 (.int .i64 g) rfl; have z2 := cellB p3 2 (.int .i64 n) rfl; have z3 := cellB p3 3 (.int .i64 v) rfl; have z4 := cellB p3 4 (.int .i64 m) rfl; have z5 := cellB p3 5 (.string (bs t)) rfl; have z6 := cellB p3 6 (.string (bs tg)) rfl; clear hb3 y0 y1 y2 y3 y4 y5 y6 p2 hl2 hB2))
    go_ret2
    exact ⟨rfl, hB3⟩
  rw [show sdX k g v m t = ownT k g v m t by rw [sdX, if_neg h2, if_neg h3, if_neg h4, if_neg (by omega)], show sdE k g v m t = 0 by rw [sdE, if_neg h2, if_neg h3, if_neg h4]]
  have n2 : (k == 2) = false := by simpa using h2
  have n3 : (k == 3) = false := by simpa using h3
  have n4 : (k == 4) = false := by simpa using h4
  have n10 : (k == 10) = false := by simpa using h10
  have n11 : (k == 11) = false := by simpa using h11
  have HN : ∀ z : Int, -9223372036854775808 ≤ z → z ≤ 9223372036854775807 → ∀ W : World, Calls Tryz.prog 45 #[.int .i64 z] W fun e w' => e = .returned (.string (bs (Lib.itoa z))) ∧ Below W.heap.size W w' := fun z h0 h1 W => rNum_any z W h0 h1
  have HNk : Hid (∀ W : World, Calls Tryz.prog 45 #[.int .i64 k] W fun e w' => e = .returned (.string (bs (Lib.itoa k))) ∧ Below W.heap.size W w') := HN k (by omega) (by omega)
  have HNg : Hid (∀ W : World, Calls Tryz.prog 45 #[.int .i64 g] W fun e w' => e = .returned (.string (bs (Lib.itoa g))) ∧ Below W.heap.size W w') := HN g (by omega) (by omega)
  have HNv : Hid (∀ W : World, Calls Tryz.prog 45 #[.int .i64 v] W fun e w' => e = .returned (.string (bs (Lib.itoa v))) ∧ Below W.heap.size W w') := HN v (by omega) (by omega)
  have HNm : Hid (∀ W : World, Calls Tryz.prog 45 #[.int .i64 m] W fun e w' => e = .returned (.string (bs (Lib.itoa m))) ∧ Below W.heap.size W w') := HN m (by omega) (by omega)
  have htot : tot [memoW, Lib.itoa k, Lib.itoa g, Lib.itoa v, Lib.itoa m, t] ≤ 1000000 := by rw [tot6]; have : memoW.length = 4 := rfl; omega
  have HPk : Hid (∀ W u, Sl W u [memoW, Lib.itoa k, Lib.itoa g, Lib.itoa v, Lib.itoa m, t] → Calls Tryz.prog 44 #[u] W fun e w' => e = .returned (.string (bs (ownT k g v m t))) ∧ Below W.heap.size W w') := fun W u h => rPack_any _ u W htot (by simp) h
  obtain ⟨X, hX⟩ : ∃ X, Lib.itoa k = X := ⟨_, rfl⟩
  obtain ⟨G, hG⟩ : ∃ X, Lib.itoa g = X := ⟨_, rfl⟩
  obtain ⟨V, hV⟩ : ∃ X, Lib.itoa v = X := ⟨_, rfl⟩
  obtain ⟨M, hM⟩ : ∃ X, Lib.itoa m = X := ⟨_, rfl⟩
  obtain ⟨T, hT⟩ : ∃ X, ownT k g v m t = X := ⟨_, rfl⟩
  obtain ⟨L, hL⟩ : ∃ X, memoW = X := ⟨_, rfl⟩
  have hlit : Value.string { data := #[109, 101, 109, 111] } = .string (bs L) := by rw [← hL]; rfl
  rw [hX, hG, hV, hM, hT, hL] at HPk
  rw [hX] at HNk
  rw [hG] at HNg
  rw [hV] at HNv
  rw [hM] at HNm
  rw [hT]
  clear HN htot hX hG hV hM hT hL h2 h3 h4 h10 h11
  clear hOr hSe hMa b1 b2 b3 b4 hg0 hg1 hk hp hv0 hv1 hm0 hm1 hk0 hk1 ht
  go_enter Tryz.func24, Tryz.ntmps24
  rw [hlit]
  clear hlit
  go_upto_region 18 with (first | (go_at_call 40; refine hR.mono ?_; clear hR; rintro e w1 ⟨rfl, hb1⟩; have hB1 := hb0.trans (hb1.mono hb0.size); have p1 := (hb1.block w.heap.size hlp).trans p0; have hl1 : w.heap.size < w1.heap.size := (Array.getElem?_eq_some_iff.1 p1).1; have x0 := cellB p1 0 (.int .i64 k) rfl; have x1 := cellB p1 1 (.int .i64 g) rfl; have x2 := cellB p1 2 (.int .i64 n) rfl; have x3 := cellB p1 3 (.int .i64 v) rfl; have x4 := cellB p1 4 (.int .i64 m) rfl; have x5 := cellB p1 5 (.string (bs t)) rfl; have x6 := cellB p1 6 (.string (bs tg)) rfl; clear hb1 p0 hlp hb0) | (go_at_call 23; refine (hCk _).mono ?_; clear hCk; rintro e w2 ⟨rfl, hb2⟩; have hB2 := hB1.trans (hb2.mono hB1.size); have p2 := (hb2.block w.heap.size hl1).trans p1; have hl2 : w.heap.size < w2.heap.size := (Array.getElem?_eq_some_iff.1 p2).1; have y0 := cellB p2 0 (.int .i64 k) rfl; have y1 := cellB p2 1 (.int .i64 g) rfl; have y2 := cellB p2 2 (.int .i64 n) rfl; have y3 := cellB p2 3 (.int .i64 v) rfl; have y4 := cellB p2 4 (.int .i64 m) rfl; have y5 := cellB p2 5 (.string (bs t)) rfl; have y6 := cellB p2 6 (.string (bs tg)) rfl; clear hb2 x0 x1 x2 x3 x4 x5 x6 p1 hl1 hB1) | (go_at_call 41; refine (hrow _).mono ?_; clear hrow; rintro e w3 ⟨rfl, hb3⟩; have hB3 := hB2.trans (hb3.mono hB2.size); have p3 := (hb3.block w.heap.size hl2).trans p2; have hl3 : w.heap.size < w3.heap.size := (Array.getElem?_eq_some_iff.1 p3).1; have z0 := cellB p3 0 (.int .i64 k) rfl; have z1 := cellB p3 1 (.int .i64 g) rfl; have z2 := cellB p3 2 (.int .i64 n) rfl; have z3 := cellB p3 3 (.int .i64 v) rfl; have z4 := cellB p3 4 (.int .i64 m) rfl; have z5 := cellB p3 5 (.string (bs t)) rfl; have z6 := cellB p3 6 (.string (bs tg)) rfl; clear hb3 y0 y1 y2 y3 y4 y5 y6 p2 hl2 hB2))
  have HB3 : Hid (Below w.heap.size w w3) := hB3
  have HK : Hid (∀ W, Below w3.heap.size w3 W → (W.cell? ⟨w.heap.size, 0, none⟩ = some (.int .i64 k) ∧ W.cell? ⟨w.heap.size, 1, none⟩ = some (.int .i64 g) ∧ W.cell? ⟨w.heap.size, 3, none⟩ = some (.int .i64 v) ∧ W.cell? ⟨w.heap.size, 4, none⟩ = some (.int .i64 m) ∧ W.cell? ⟨w.heap.size, 5, none⟩ = some (.string (bs t)))) := fun W hb => by
    have r := (hb.block _ hl3).trans p3
    exact ⟨cellB r 0 _ rfl, cellB r 1 _ rfl, cellB r 3 _ rfl, cellB r 4 _ rfl, cellB r 5 _ rfl⟩
  have HM1 : Hid (∀ W, Below w3.heap.size w3 W → Calls Tryz.prog 45 #[.int .i64 g] W fun e w' => e = .returned (.string (bs G)) ∧ Below w3.heap.size w3 w') := fun W hb => by
    refine (HNg.out W).mono ?_
    rintro e W' ⟨rfl, h⟩
    exact ⟨rfl, hb.trans (h.mono hb.size)⟩
  have HM2 : Hid (∀ W, Below w3.heap.size w3 W → Calls Tryz.prog 45 #[.int .i64 v] W fun e w' => e = .returned (.string (bs V)) ∧ Below w3.heap.size w3 w') := fun W hb => by
    refine (HNv.out W).mono ?_
    rintro e W' ⟨rfl, h⟩
    exact ⟨rfl, hb.trans (h.mono hb.size)⟩
  have HM3 : Hid (∀ W, Below w3.heap.size w3 W → Calls Tryz.prog 45 #[.int .i64 m] W fun e w' => e = .returned (.string (bs M)) ∧ Below w3.heap.size w3 w') := fun W hb => by
    refine (HNm.out W).mono ?_
    rintro e W' ⟨rfl, h⟩
    exact ⟨rfl, hb.trans (h.mono hb.size)⟩
  have hN1 : Calls Tryz.prog 45 #[.int .i64 k] w3.drew fun e w' => e = .returned (.string (bs X)) ∧ Below w3.heap.size w3 w' := by
    refine (HNk.out _).mono ?_
    rintro e W' ⟨rfl, h⟩
    exact ⟨rfl, (below_drew (Below.refl _ _)).trans h⟩
  have HP2 : Hid (∀ w2, Below w3.heap.size w3 w2 → Calls Tryz.prog 44 #[.slice (some ⟨w2.heap.size, 0, none⟩) 6 6] (w2.alloc (.cells #[.string (bs L), .string (bs X), .string (bs G), .string (bs V), .string (bs M), .string (bs t)] 9)) fun e W' => e = .returned (.string (bs T)) ∧ Below w3.heap.size w3 W') := by
    intro w2 hb
    have hb3 : Below w2.heap.size w2 (w2.alloc (.cells #[.string (bs L), .string (bs X), .string (bs G), .string (bs V), .string (bs M), .string (bs t)] 9)) := (Below.refl _ _).alloc (Nat.le_refl _) _
    refine (HPk.out _ _ (Sl_built6 w2 _ _ _ _ _ _)).mono ?_
    rintro e W' ⟨rfl, hb4⟩
    exact ⟨rfl, (hb.trans (hb3.mono hb.size)).trans (hb4.mono (hb.trans (hb3.mono hb.size)).size)⟩
  obtain ⟨q0, q1, q2, q3, q4⟩ := HK.out w3 (Below.refl _ _)
  clear HNk HNg HNv HNm HPk hB3 p3 hl3 z0 z1 z2 z3 z4 z5 z6 n2 n3 n4 n10 n11 i3 hte
  obtain ⟨Q, hQ⟩ : ∃ Q, w.heap.size = Q := ⟨_, rfl⟩
  have HK2 := HK.out
  rw [hQ] at HK2 q0 q1 q2 q3 q4 ⊢
  have HK3 : Hid (_) := HK2
  clear HK HK2 hQ
  go_region_held3 (fun w' => w'.cell? ⟨Q, 0, none⟩ = some (.int .i64 k) ∧ w'.cell? ⟨Q, 1, none⟩ = some (.int .i64 g) ∧ w'.cell? ⟨Q, 3, none⟩ = some (.int .i64 v) ∧ w'.cell? ⟨Q, 4, none⟩ = some (.int .i64 m) ∧ w'.cell? ⟨Q, 5, none⟩ = some (.string (bs t))) (go_keep)
    (first
      | (go_at_call 44; have hgd := hb8; refine (HP2.out _ hb8).mono ?_; rintro e w9 ⟨rfl, hb9⟩; obtain ⟨k0, k1, k2, k3, k4⟩ := HK3.out _ hb9)
      | (go_at_call 45; have hgd := hb7; refine (HM3.out _ hb7).mono ?_; rintro e w8 ⟨rfl, hb8⟩; obtain ⟨k0, k1, k2, k3, k4⟩ := HK3.out _ hb8)
      | (go_at_call 45; have hgd := hb6; refine (HM2.out _ hb6).mono ?_; rintro e w7 ⟨rfl, hb7⟩; obtain ⟨k0, k1, k2, k3, k4⟩ := HK3.out _ hb7)
      | (go_at_call 45; have hgd := hb5; refine (HM1.out _ hb5).mono ?_; rintro e w6 ⟨rfl, hb6⟩; obtain ⟨k0, k1, k2, k3, k4⟩ := HK3.out _ hb6)
      | (go_at_call 45; refine hN1.mono ?_; rintro e w5 ⟨rfl, hb5⟩; obtain ⟨k0, k1, k2, k3, k4⟩ := HK3.out _ hb5))
  all_goals
    go_wp2
    exact bodyPost_ret (v := .tuple #[.string (bs T), .int .i64 0]) (by simp [results, Tryz.f24, go_sem]) rfl ⟨rfl, HB3.out.trans (hb9.mono HB3.out.size)⟩
end
end Go.Proofs.YtmkjcfakopbdhaaGreatDoor
