import Derived.Test.YtmkjcfakopbdhaaGreatDoorNsP
namespace Go.Proofs.YtmkjcfakopbdhaaGreatDoor
open Go.RowKit
attribute [local go_sem ↓] Go.wp_at_zero Go.wp_at_succ

/-- Is it a party? -/
abbrev isP (g n : Int) : Prop := -1 ≤ g ∧ g ≤ 4 ∧ 0 ≤ n ∧ n ≤ 15
/-- A party's name. -/
def nameL (g n : Int) : List UInt8 := packL [Lib.itoa g, Lib.itoa n]
def nameV (g n : Int) : List UInt8 := if isP g n then nameL g n else []
def nameE (g n : Int) : Int := if isP g n then 0 else 1
theorem itoa_len2 (g : Int) (h0 : -99 ≤ g) (h1 : g ≤ 99) : (Lib.itoa g).length ≤ 3 := by
  unfold Lib.itoa
  split
  · rename_i h
    have : (Lib.decDigits g.natAbs).length ≤ 2 := by rw [decDigits_len]; exact nDigits_le 1 _ (by omega)
    simp only [List.length_cons]
    omega
  · have : (Lib.decDigits g.toNat).length ≤ 2 := by rw [decDigits_len]; exact nDigits_le 1 _ (by omega)
    omega
theorem name_tot {g n : Int} (h : isP g n) : tot [Lib.itoa g, Lib.itoa n] ≤ 6 := by
  have h1 := itoa_len2 g (by omega) (by omega)
  have h2 := itoa_len2 n (by omega) (by omega)
  simp [tot]; omega

set_option maxHeartbeats 1000000 in
set_option maxRecDepth 20000 in
theorem Name_any (g n : Int) (w : World) (he : EnvP w) :
    Calls Tryz.prog 16 #[.agg #[.int .i64 g, .int .i64 n]] w fun e W' => e = .returned (.tuple #[.string (bs (nameV g n)), .int .i64 (nameE g n)]) ∧ Below w.heap.size w W' := by
  by_cases hp : isP g n
  · have e1 : nameV g n = nameL g n := if_pos hp
    have e2 : nameE g n = 0 := if_pos hp
    have ht := name_tot hp
    rw [e1, e2, nameL]
    clear e1 e2
    obtain ⟨h1, h2, h3, h4⟩ := hp
    go_enter Tryz.func16, Tryz.ntmps16
    have hb0 : Below w.heap.size w (w.alloc (.cells #[.int .i64 g, .int .i64 n] 23)) := (Below.refl _ w).alloc (Nat.le_refl _) _
    have he0 := (he.next hb0)
    have he0d : EnvP (w.alloc (.cells #[.int .i64 g, .int .i64 n] 23)).drew := ⟨he0.pow, he0.size⟩
    have hb0d : Below w.heap.size w (w.alloc (.cells #[.int .i64 g, .int .i64 n] 23)).drew := ⟨hb0.os, hb0.tape, hb0.output, hb0.size, hb0.block⟩
    have hc0 : (w.alloc (.cells #[.int .i64 g, .int .i64 n] 23)).drew.cell? ⟨w.heap.size, 1, none⟩ = some (.int .i64 n) := by
      have hh := heap_alloc_new w (.cells #[.int .i64 g, .int .i64 n] 23)
      show (w.alloc (.cells #[.int .i64 g, .int .i64 n] 23)).cell? ⟨w.heap.size, 1, none⟩ = _
      unfold World.cell?
      simp only [hh]
      rfl
    have hl0 : w.heap.size < (w.alloc (.cells #[.int .i64 g, .int .i64 n] 23)).drew.heap.size := by show w.heap.size < (w.alloc _).heap.size; simp
    go_wp2_with fail
    go_region_with (first
      | (go_at_call 18; refine (Num_any g _ (by omega) (by omega) he0d).mono ?_; rintro e w1 ⟨rfl, hb1⟩; have hcn := (hb1.cell (p := ⟨w.heap.size, 1, none⟩) hl0).trans hc0; have he1 := he0d.next hb1; have hB1 := hb0d.trans (hb1.mono hb0d.size))
      | (go_at_call 18; refine (Num_any n _ (by omega) (by omega) he1).mono ?_; rintro e w2 ⟨rfl, hb2⟩; have hb3 := hb2.trans ((Below.refl w1.heap.size w2).alloc hb2.size (.cells #[.string (bs (Lib.itoa g)), .string (bs (Lib.itoa n))] 9)); have he3 := he1.next hb3; have hB3 := hB1.trans (hb3.mono hB1.size))
      | (go_at_call 17; refine (Pack_any [Lib.itoa g, Lib.itoa n] _ _ (Nat.le_trans ht (by decide)) (by simp) he3 (Sl_built w2 _ _)).mono ?_; rintro e w4 ⟨rfl, hb4⟩; have hB4 := hB3.trans (hb4.mono hB3.size)))
    all_goals (go_wp2; go_ret2; exact ⟨rfl, hB4⟩)
  · have e1 : nameV g n = [] := if_neg hp
    have e2 : nameE g n = 1 := if_neg hp
    rw [e1, e2]
    go_enter Tryz.func16, Tryz.ntmps16
    have hb0 : Below w.heap.size w (w.alloc (.cells #[.int .i64 g, .int .i64 n] 23)) := (Below.refl _ w).alloc (Nat.le_refl _) _
    by_cases c1 : g < -1
    · go_wp2
      go_ret2
      exact ⟨rfl, hb0⟩
    by_cases c2 : 4 < g
    · go_wp2
      go_ret2
      exact ⟨rfl, hb0⟩
    by_cases c3 : n < 0
    · go_wp2
      go_ret2
      exact ⟨rfl, hb0⟩
    have c4 : 15 < n := by
      apply Int.not_le.1
      intro h
      exact hp ⟨by omega, by omega, by omega, by omega⟩
    go_wp2
    go_ret2
    exact ⟨rfl, hb0⟩
end Go.Proofs.YtmkjcfakopbdhaaGreatDoor
