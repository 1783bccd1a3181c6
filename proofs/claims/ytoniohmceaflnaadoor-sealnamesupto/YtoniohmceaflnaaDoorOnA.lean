import Derived.Test.YtoniohmceaflnaaDoorSlE
import Derived.Test.YtoniohmceaflnaaDoorNsK
namespace Go.Proofs.YtoniohmceaflnaaDoor
open Go.RowKit
attribute [local go_sem ↓] Go.wp_at_zero Go.wp_at_succ

/-- The key of the party, and the two tags. -/
def kB : List UInt8 := bl [115] [49, 58, 48, 44, 49, 58, 51, 44]
theorem name_03 : nameL 0 3 = [49, 58, 48, 44, 49, 58, 51, 44] := by
  have e0 : Lib.itoa 0 = [48] := by rw [show (0 : Int) = ((0 : Nat) : Int) from rfl, itoa_nat, Lib.decDigits_one (by decide)]; rfl
  have e3 : Lib.itoa 3 = [51] := by rw [show (3 : Int) = ((3 : Nat) : Int) from rfl, itoa_nat, Lib.decDigits_one (by decide)]; rfl
  rw [nameL, e0, e3, pack_cons, pack_cons, one_small _ (by decide), one_small _ (by decide)]
  rfl
theorem bl_of (k t : List UInt8) (L : List Int) (h : sumL (k.length : Int) (keyL k ++ t) = L) : bl k t = (strOfNums L).data.toList := by rw [bl, h]
set_option maxRecDepth 100000 in
theorem two_tags : tagS [115] 0 3 [97] ≠ tagS [115] 0 3 [98] := by
  rw [tagS, tagS, name_03]
  decide +kernel
theorem is03 : isP 0 3 := by decide
theorem err03 : tagErr (some [115]) 0 3 = 0 := by decide
/-- The tag of the letter a. -/
def oneS : List UInt8 := sigV (some [115]) 0 3 [97]
theorem oneS_eq : oneS = tagS [115] 0 3 [97] := by rw [oneS, sigV, if_pos err03, Option.getD_some]
theorem sign_one : signV (some [115]) 0 3 [97] = .agg #[.int .i64 0, .int .i64 3, .string (bs [97]), .string (bs oneS)] := if_pos err03
theorem check_a : checkE (some [115]) 0 3 [97] oneS = 0 := by rw [checkE, if_neg (fun h => h err03), if_pos oneS.eq_1]
theorem check_b : checkE (some [115]) 0 3 [98] oneS = 30 := by
  rw [checkE, if_neg (fun h => h err03), if_neg]
  intro h
  have h2 : sigV (some [115]) 0 3 [98] = tagS [115] 0 3 [98] := by rw [sigV, if_pos err03, Option.getD_some]
  rw [h2, oneS_eq] at h
  exact two_tags h

set_option maxRecDepth 20000 in
set_option maxHeartbeats 2000000 in
theorem one3_any (w : World) (he : EnvP w) (hb : EnvB w) : Calls Tryd.prog 13 #[] w fun e w' => e = .returned (.bool true) ∧ Below w.heap.size w w' := by
  have hb1 : Below w.heap.size w (w.alloc (.cells #[.string (bs [115])] 81)) := (Below.refl _ w).alloc (Nat.le_refl _) _
  have hrc : (w.alloc (.cells #[.string (bs [115])] 81)).cell? ⟨w.heap.size, 0, none⟩ = some (.string (bs [115])) := cellB (heap_alloc_new _ _) 0 _ rfl
  have hR1 : RingAt (w.alloc (.cells #[.string (bs [115])] 81)) (some ⟨w.heap.size, 0, none⟩) (some [115]) := .inr ⟨_, _, rfl, rfl, by decide, hrc⟩
  have he1 := he.next hb1
  have hB1 := hb.next hb1
  have hlR : w.heap.size < (w.alloc (.cells #[.string (bs [115])] 81)).heap.size := by simp
  have hN0 := New_ok [115] w (by decide)
  have hS := Sign_any (some ⟨w.heap.size, 0, none⟩) (some [115]) 0 3 [97] (w.alloc (.cells #[.string (bs [115])] 81)) he1 hB1 hR1 (fun _ => by decide)
  rw [sign_one, err03] at hS
  go_enter Tryd.func13, Tryd.ntmps13
  go_wp2_with (first
    | (go_at_call 14; refine hN0.mono ?_; rintro e w' ⟨rfl, h⟩; subst h)
    | (go_at_call 17; refine hS.mono ?_; rintro e w2 ⟨rfl, hb2⟩))
  have hlo : oneS.length = 16 := by rw [oneS_eq]; exact tagS_len _ _ _ _
  obtain ⟨SS, hSS⟩ : ∃ SS, oneS = SS := ⟨_, rfl⟩
  have ca := check_a
  have cb := check_b
  rw [hSS] at ca cb ⊢
  clear hSS hS hN0
  have hB2 := hb1.trans (hb2.mono hb1.size)
  have hba : Below w2.heap.size w2 (w2.alloc (.cells #[.int .i64 0, .int .i64 3, .string (bs [97]), .string (bs SS)] 36)) := (Below.refl _ _).alloc (Nat.le_refl _) _
  have hB3 := hB2.trans (hba.mono hB2.size)
  have hs0 : (w2.alloc (.cells #[.int .i64 0, .int .i64 3, .string (bs [97]), .string (bs SS)] 36)).heap[w2.heap.size]? = some (.cells #[.int .i64 0, .int .i64 3, .string (bs [97]), .string (bs SS)] 36) := heap_alloc_new _ _
  have hN := Name_any 0 3 (w2.alloc (.cells #[.int .i64 0, .int .i64 3, .string (bs [97]), .string (bs SS)] 36)) (he.next hB3)
  rw [show nameE 0 3 = 0 from if_pos is03, show nameV 0 3 = nameL 0 3 from if_pos is03, name_03] at hN
  have hR3 := (hR1.below hb2 (Nat.le_refl _)).below hba (Nat.le_refl _)
  refine hN.mono ?_
  clear hN
  rintro e w4 ⟨rfl, hb4⟩
  have hB4 := hB3.trans (hb4.mono hB3.size)
  have hs4 := (hb4.block w2.heap.size (by simp)).trans hs0
  have hl4 : w2.heap.size < w4.heap.size := (Array.getElem?_eq_some_iff.1 hs4).1
  have hR4 := hR3.below hb4 (Nat.le_refl _)
  have x0 := cellB hs4 0 (.int .i64 0) rfl
  have x1 := cellB hs4 1 (.int .i64 3) rfl
  have x2 := cellB hs4 2 (.string (bs [97])) rfl
  have x3 := cellB hs4 3 (.string (bs SS)) rfl
  clear hR3 hR1 hba hs0 hb4
  have hq : ((bs [49, 58, 48, 44, 49, 58, 51, 44]).toList == [49, 58, 48, 44, 49, 58, 51, 44]) = true := by rw [ByteArray.toList_eq]; rfl
  have hb5 : Below w4.heap.size w4 (w4.alloc (.cells #[.int .i64 0, .int .i64 3, .string (bs [98]), .string (bs SS)] 36)) := (Below.refl _ _).alloc (Nat.le_refl _) _
  have hB5 := hB4.trans (hb5.mono hB4.size)
  have ht5 : (w4.alloc (.cells #[.int .i64 0, .int .i64 3, .string (bs [98]), .string (bs SS)] 36)).heap[w4.heap.size]? = some (.cells #[.int .i64 0, .int .i64 3, .string (bs [98]), .string (bs SS)] 36) := heap_alloc_new _ _
  have hR5 := hR4.below hb5 (Nat.le_refl _)
  have hC1 := Check_any (some ⟨w.heap.size, 0, none⟩) (some [115]) 0 3 [97] SS (w4.alloc (.cells #[.int .i64 0, .int .i64 3, .string (bs [98]), .string (bs SS)] 36)) (he.next hB5) (hb.next hB5) hR5 (fun _ => by decide)
  rw [ca] at hC1
  have hl5 : w4.heap.size < (w4.alloc (.cells #[.int .i64 0, .int .i64 3, .string (bs [98]), .string (bs SS)] 36)).heap.size := by simp
  go_wp2_with fail
  refine hC1.mono ?_
  clear hC1
  rintro e w6 ⟨rfl, hb6⟩
  have hB6 := hB5.trans (hb6.mono hB5.size)
  have ht6 := (hb6.block w4.heap.size hl5).trans ht5
  have y0 := cellB ht6 0 (.int .i64 0) rfl
  have y1 := cellB ht6 1 (.int .i64 3) rfl
  have y2 := cellB ht6 2 (.string (bs [98])) rfl
  have y3 := cellB ht6 3 (.string (bs SS)) rfl
  have hC2 := Check_any (some ⟨w.heap.size, 0, none⟩) (some [115]) 0 3 [98] SS w6 (he.next hB6) (hb.next hB6) (hR5.below hb6 (Nat.le_refl _)) (fun _ => by decide)
  rw [cb] at hC2
  go_wp2_with (go_at_call 18; refine hC2.mono ?_; rintro e w7 ⟨rfl, hb7⟩)
  go_ret
  exact ⟨rfl, hB6.trans (hb7.mono hB6.size)⟩
end Go.Proofs.YtoniohmceaflnaaDoor
