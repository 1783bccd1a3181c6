/- A memo's bytes, by the program: walked. -/
import Derived.Deep.RegionHeld3
import Derived.Test.YtmkjcfakopbdhaaGreatDoorMeD
namespace Go.Proofs.YtmkjcfakopbdhaaGreatDoor
open Go.RowKit
attribute [local go_sem ↓] Go.wp_at_zero Go.wp_at_succ

theorem below_drew {n : Nat} {w w' : World} (h : Below n w w') : Below n w w'.drew := ⟨h.os, h.tape, h.output, h.size, h.block⟩
theorem Sl_built6 (w : World) (a b c d e f : List UInt8) : Sl (w.alloc (.cells #[.string (bs a), .string (bs b), .string (bs c), .string (bs d), .string (bs e), .string (bs f)] 9)) (.slice (some ⟨w.heap.size, 0, none⟩) 6 6) [a, b, c, d, e, f] := by
  refine .inr ⟨w.heap.size, 0, 6, rfl, by simp, fun i t ht => ?_⟩
  unfold World.cell?
  rw [World.alloc_heap_new]
  match i with
  | 0 =>
    simp only [List.getElem?_cons_zero, Option.some.injEq] at ht
    subst ht
    rfl
  | 1 =>
    simp only [List.getElem?_cons_succ, List.getElem?_cons_zero, Option.some.injEq] at ht
    subst ht
    rfl
  | 2 =>
    simp only [List.getElem?_cons_succ, List.getElem?_cons_zero, Option.some.injEq] at ht
    subst ht
    rfl
  | 3 =>
    simp only [List.getElem?_cons_succ, List.getElem?_cons_zero, Option.some.injEq] at ht
    subst ht
    rfl
  | 4 =>
    simp only [List.getElem?_cons_succ, List.getElem?_cons_zero, Option.some.injEq] at ht
    subst ht
    rfl
  | 5 =>
    simp only [List.getElem?_cons_succ, List.getElem?_cons_zero, Option.some.injEq] at ht
    subst ht
    rfl
  | i + 6 => simp at ht

set_option maxRecDepth 20000 in
set_option maxHeartbeats 2000000 in
theorem Encode_any (k g n v m : Int) (t tg : List UInt8) (w : World) (he : EnvM w) :
    Calls Tryz.prog 7 #[.agg #[.int .i64 k, .int .i64 g, .int .i64 n, .int .i64 v, .int .i64 m, .string (bs t), .string (bs tg)]] w fun e W' => e = .returned (.tuple #[.string (bs (meV k g n v m t tg)), .int .i64 (cE k g n v m t.length tg.length)]) ∧ Below w.heap.size w W' := by
  have hb0 : Below w.heap.size w (w.alloc (.cells #[.int .i64 k, .int .i64 g, .int .i64 n, .int .i64 v, .int .i64 m, .string (bs t), .string (bs tg)] 25)) := (Below.refl _ w).alloc (Nat.le_refl _) _
  have p0 : (w.alloc (.cells #[.int .i64 k, .int .i64 g, .int .i64 n, .int .i64 v, .int .i64 m, .string (bs t), .string (bs tg)] 25)).heap[w.heap.size]? = some (.cells #[.int .i64 k, .int .i64 g, .int .i64 n, .int .i64 v, .int .i64 m, .string (bs t), .string (bs tg)] 25) := heap_alloc_new _ _
  have hlp : w.heap.size < (w.alloc (.cells #[.int .i64 k, .int .i64 g, .int .i64 n, .int .i64 v, .int .i64 m, .string (bs t), .string (bs tg)] 25)).heap.size := by simp
  have hC := fun W (hW : Below w.heap.size w W) => Check_any k g n v m t tg W (he.next hW)
  by_cases hc : cE k g n v m t.length tg.length = 0
  · rw [meV, if_pos hc, hc, meL]
    rw [hc] at hC
    have htot := me_tot hc
    obtain ⟨hk, hp, h1, h2, h3, h4, h5, h6⟩ := cE_num hc
    have hk0 := hk.1
    have hk1 := hk.2
    have hN : ∀ W, Below w.heap.size w W → Calls Tryz.prog 16 #[.agg #[.int .i64 g, .int .i64 n]] W fun e W' => e = .returned (.tuple #[.string (bs (nameL g n)), .int .i64 0]) ∧ Below W.heap.size W W' := by
      intro W hW
      have h := Name_any g n W (he.env.p.next hW)
      rw [show nameE g n = 0 from if_pos hp, show nameV g n = nameL g n from if_pos hp] at h
      exact h
    have hX : ∀ W, Below w.heap.size w W → Calls Tryz.prog 18 #[.int .i64 k] W fun e W' => e = .returned (.string (bs (Lib.itoa k))) ∧ Below W.heap.size W W' := fun W hW => Num_any k W (by omega) (by omega) (he.env.p.next hW)
    have hY : ∀ W, Below w.heap.size w W → Calls Tryz.prog 18 #[.int .i64 v] W fun e W' => e = .returned (.string (bs (Lib.itoa v))) ∧ Below W.heap.size W W' := fun W hW => Num_any v W (by omega) (by omega) (he.env.p.next hW)
    have hZ : ∀ W, Below w.heap.size w W → Calls Tryz.prog 18 #[.int .i64 m] W fun e W' => e = .returned (.string (bs (Lib.itoa m))) ∧ Below W.heap.size W W' := fun W hW => Num_any m W (by omega) (by omega) (he.env.p.next hW)
    obtain ⟨NM, hNM⟩ : ∃ x, nameL g n = x := ⟨_, rfl⟩
    obtain ⟨X, hX1⟩ : ∃ x, Lib.itoa k = x := ⟨_, rfl⟩
    obtain ⟨Y, hY1⟩ : ∃ x, Lib.itoa v = x := ⟨_, rfl⟩
    obtain ⟨Z, hZ1⟩ : ∃ x, Lib.itoa m = x := ⟨_, rfl⟩
    rw [meTs, hNM, hX1, hY1, hZ1] at htot
    rw [meTs, hNM, hX1, hY1, hZ1]
    rw [hNM] at hN
    rw [hX1] at hX
    rw [hY1] at hY
    rw [hZ1] at hZ
    obtain ⟨PL, hPL⟩ : ∃ x, packL [X, NM, Y, Z, t, tg] = x := ⟨_, rfl⟩
    have hPk : ∀ W v, Below w.heap.size w W → Sl W v [X, NM, Y, Z, t, tg] → Calls Tryz.prog 17 #[v] W fun e W' => e = .returned (.string (bs PL)) ∧ Below W.heap.size W W' := by
      intro W u hW h2
      have := Pack_any [X, NM, Y, Z, t, tg] u W (by omega) (by simp) (he.env.p.next hW) h2
      rw [hPL] at this
      exact this
    rw [hPL]
    clear hNM hX1 hY1 hZ1 hPL hc hk hp h1 h2 h3 h4 h5 h6 hk0 hk1 htot
    go_enter Tryz.func7, Tryz.ntmps7
    go_wp2_with fail
    refine (hC _ hb0).mono ?_
    clear hC
    rintro e w1 ⟨rfl, hb1⟩
    have hB1 := hb0.trans (hb1.mono hb0.size)
    have p1 := (hb1.block w.heap.size hlp).trans p0
    have hl1 : w.heap.size < w1.heap.size := (Array.getElem?_eq_some_iff.1 p1).1
    have a1 := cellB p1 1 _ rfl
    have a2 := cellB p1 2 _ rfl
    clear hb1 p0 hlp hb0
    go_wp2_with fail
    refine (hN _ hB1).mono ?_
    clear hN
    rintro e w2 ⟨rfl, hb2⟩
    have HB2 : Hid (Below w.heap.size w w2) := hB1.trans (hb2.mono hB1.size)
    have p2 := (hb2.block w.heap.size hl1).trans p1
    have hl2 : w.heap.size < w2.heap.size := (Array.getElem?_eq_some_iff.1 p2).1
    have HK : Hid (∀ W, Below w2.heap.size w2 W → (W.cell? ⟨w.heap.size, 0, none⟩ = some (.int .i64 k) ∧ W.cell? ⟨w.heap.size, 3, none⟩ = some (.int .i64 v) ∧ W.cell? ⟨w.heap.size, 4, none⟩ = some (.int .i64 m) ∧ W.cell? ⟨w.heap.size, 5, none⟩ = some (.string (bs t)) ∧ W.cell? ⟨w.heap.size, 6, none⟩ = some (.string (bs tg)))) := fun W hb => by
      have r := (hb.block _ hl2).trans p2
      exact ⟨cellB r 0 _ rfl, cellB r 3 _ rfl, cellB r 4 _ rfl, cellB r 5 _ rfl, cellB r 6 _ rfl⟩
    have HN1 : Hid (∀ W, Below w2.heap.size w2 W → Calls Tryz.prog 18 #[.int .i64 k] W fun e w' => e = .returned (.string (bs X)) ∧ Below w2.heap.size w2 w') := fun W hb => by
      refine (hX W (HB2.out.trans (hb.mono HB2.out.size))).mono ?_
      rintro e W' ⟨rfl, h⟩
      exact ⟨rfl, hb.trans (h.mono hb.size)⟩
    have HN2 : Hid (∀ W, Below w2.heap.size w2 W → Calls Tryz.prog 18 #[.int .i64 v] W fun e w' => e = .returned (.string (bs Y)) ∧ Below w2.heap.size w2 w') := fun W hb => by
      refine (hY W (HB2.out.trans (hb.mono HB2.out.size))).mono ?_
      rintro e W' ⟨rfl, h⟩
      exact ⟨rfl, hb.trans (h.mono hb.size)⟩
    have HN3 : Hid (∀ W, Below w2.heap.size w2 W → Calls Tryz.prog 18 #[.int .i64 m] W fun e w' => e = .returned (.string (bs Z)) ∧ Below w2.heap.size w2 w') := fun W hb => by
      refine (hZ W (HB2.out.trans (hb.mono HB2.out.size))).mono ?_
      rintro e W' ⟨rfl, h⟩
      exact ⟨rfl, hb.trans (h.mono hb.size)⟩
    have HP : Hid (∀ w3, Below w2.heap.size w2 w3 → Calls Tryz.prog 17 #[.slice (some ⟨w3.heap.size, 0, none⟩) 6 6] (w3.alloc (.cells #[.string (bs X), .string (bs NM), .string (bs Y), .string (bs Z), .string (bs t), .string (bs tg)] 9)) fun e W' => e = .returned (.string (bs PL)) ∧ Below w2.heap.size w2 W') := by
      intro w3 hb
      have hb3 : Below w3.heap.size w3 (w3.alloc (.cells #[.string (bs X), .string (bs NM), .string (bs Y), .string (bs Z), .string (bs t), .string (bs tg)] 9)) := (Below.refl _ _).alloc (Nat.le_refl _) _
      have hb4 := hb.trans (hb3.mono hb.size)
      refine (hPk _ _ (HB2.out.trans (hb4.mono HB2.out.size)) (Sl_built6 w3 _ _ _ _ _ _)).mono ?_
      rintro e W' ⟨rfl, h⟩
      exact ⟨rfl, hb4.trans (h.mono hb4.size)⟩
    have hN1 := HN1.out w2.drew (below_drew (Below.refl _ _))
    obtain ⟨q0, q1, q2, q3, q4⟩ := HK.out w2 (Below.refl _ _)
    clear hb2 p1 hl1 a1 a2 hB1 p2 hl2 hX hY hZ hPk
    go_wp2_with fail
    obtain ⟨Q, hQ⟩ : ∃ Q, w.heap.size = Q := ⟨_, rfl⟩
    have HK2 := HK.out
    rw [hQ] at HK2 q0 q1 q2 q3 q4 ⊢
    have HK3 : Hid (_) := HK2
    clear HK HK2 hQ
    go_region_held3 (fun w' => w'.cell? ⟨Q, 0, none⟩ = some (.int .i64 k) ∧ w'.cell? ⟨Q, 3, none⟩ = some (.int .i64 v) ∧ w'.cell? ⟨Q, 4, none⟩ = some (.int .i64 m) ∧ w'.cell? ⟨Q, 5, none⟩ = some (.string (bs t)) ∧ w'.cell? ⟨Q, 6, none⟩ = some (.string (bs tg))) (go_keep)
      (first
        | (go_at_call 17; have hgd := hb3; refine (HP.out _ hb3).mono ?_; rintro e w6 ⟨rfl, hb4⟩; obtain ⟨k0, k1, k2, k3, k4⟩ := HK3.out _ hb4)
        | (go_at_call 18; have hgd := hb2; refine (HN3.out _ hb2).mono ?_; rintro e w5 ⟨rfl, hb3⟩; obtain ⟨k0, k1, k2, k3, k4⟩ := HK3.out _ hb3)
        | (go_at_call 18; have hgd := hb1; refine (HN2.out _ hb1).mono ?_; rintro e w4 ⟨rfl, hb2⟩; obtain ⟨k0, k1, k2, k3, k4⟩ := HK3.out _ hb2)
        | (go_at_call 18; refine hN1.mono ?_; rintro e w3 ⟨rfl, hb1⟩; obtain ⟨k0, k1, k2, k3, k4⟩ := HK3.out _ hb1))
    all_goals
      go_wp2
      exact bodyPost_ret (v := .tuple #[.string (bs PL), .int .i64 0]) (by simp [results, Tryz.f7, go_sem]) rfl ⟨rfl, HB2.out.trans (hb4.mono HB2.out.size)⟩
  · rw [meV, if_neg hc]
    obtain ⟨F, hF2⟩ : ∃ F, cE k g n v m t.length tg.length = F := ⟨_, rfl⟩
    rw [hF2] at hC hc ⊢
    have hq : (F != 0) = true := by simpa using hc
    clear hc hF2
    go_enter Tryz.func7, Tryz.ntmps7
    go_wp2_with fail
    refine (hC _ hb0).mono ?_
    clear hC
    rintro e w1 ⟨rfl, hb1⟩
    go_wp2
    go_ret2
    exact ⟨rfl, hb0.trans (hb1.mono hb0.size)⟩
end Go.Proofs.YtmkjcfakopbdhaaGreatDoor
