/- Whether the tags of a certificate are right: asked one by one, and what is answered. -/
import Derived.Test.YtoniohmceaflnabDoorCkA
namespace Go.Proofs.YtoniohmceaflnabDoor
open Go.RowKit
attribute [local go_sem ↓] Go.wp_at_zero Go.wp_at_succ

/-- The first error of tags that are asked one by one. -/
def ckL (seed : Option (List UInt8)) (g : Int) (x : List UInt8) : List Tg → Int
  | [] => 0
  | (n, t) :: r => if checkE seed g n x t = 0 then ckL seed g x r else checkE seed g n x t

set_option maxRecDepth 20000 in
set_option maxHeartbeats 2000000 in
theorem checkTags_any (x : List UInt8) (g : Int) (l : List Tg) (v : Value) (r : Option Addr) (seed : Option (List UInt8)) (w : World) (he : EnvP w) (hb : EnvB w) (hr : RingAt w r seed) (ht : seed ≠ none → x.length ≤ 140737488355328) (hll : l.length ≤ 140737488355328) (hv : Tl w v l) :
    Calls Tryd.prog 24 #[.pointer r, .agg #[.string (bs x), .int .i64 g, v], .func (.func 25) #[] #[]] w fun e W' => e = .returned (.int .i64 (ckL seed g x l)) ∧ Below w.heap.size w W' := by
  obtain ⟨va, vc, rfl⟩ := hv.slice
  have hb1 : Below w.heap.size w (w.alloc (.cells #[.string (bs x), .int .i64 g, .slice va l.length vc] 24)) := (Below.refl _ w).alloc (Nat.le_refl _) _
  have p0 : (w.alloc (.cells #[.string (bs x), .int .i64 g, .slice va l.length vc] 24)).heap[w.heap.size]? = some (.cells #[.string (bs x), .int .i64 g, .slice va l.length vc] 24) := heap_alloc_new _ _
  obtain ⟨R, hR⟩ : ∃ R, ckL seed g x l = R := ⟨_, rfl⟩
  rw [hR]
  have HR : Hid (ckL seed g x (l.drop 0) = R) := by show ckL seed g x (l.drop 0) = R; rw [List.drop_zero]; exact hR
  clear hR
  go_enter Tryd.func24, Tryd.ntmps24
  go_wp2
  go_loopw [14] (fun i wr => ∃ (k : Nat), i = .int .i64 k ∧ k ≤ l.length ∧ Hid (ckL seed g x (l.drop k) = R) ∧ wr.heap[w.heap.size]? = some (.cells #[.string (bs x), .int .i64 g, .slice va l.length vc] 24) ∧ Below w.heap.size w wr)
    (fun i _ => l.length - (intOf i).toNat)
  case atStart => exact ⟨0, rfl, Nat.zero_le _, HR, p0, hb1⟩
  case round =>
    obtain ⟨k, rfl, hk, hF, p1, hB1⟩ := hrel
    clear p0 hb1 HR
    have x0 := cellB p1 0 (.string (bs x)) rfl
    have x1 := cellB p1 1 (.int .i64 g) rfl
    have x2 := cellB p1 2 (.slice va l.length vc) rfl
    have hl1 : w.heap.size < wr.heap.size := (Array.getElem?_eq_some_iff.1 p1).1
    by_cases hk1 : k = l.length
    · subst hk1
      have hF2 := hF.out
      rw [List.drop_length, ckL] at hF2
      go_wp2
      go_ret
      rw [← hF2]
      exact ⟨rfl, hB1⟩
    · have hk2 : k < l.length := by omega
      obtain ⟨t, ht⟩ : ∃ t, l[k]? = some t := ⟨_, List.getElem?_eq_getElem hk2⟩
      have hd : l.drop k = t :: l.drop (k + 1) := by
        rw [List.drop_eq_getElem_cons hk2]; congr 1; rw [List.getElem?_eq_getElem hk2] at ht; injection ht
      rcases hv.below hB1 (Nat.le_refl _) with ⟨rfl, _⟩ | ⟨vb, vo, vcap, hve, hvl, hvc⟩
      · cases ht
      injection hve with hva _ hvcap
      subst hva hvcap
      obtain ⟨hc1, hc2⟩ := hvc k t ht
      obtain ⟨n, s⟩ := t
      have hF2 := hF.out
      rw [hd, ckL] at hF2
      have HF : Hid ((if checkE seed g n x s = 0 then ckL seed g x (l.drop (k + 1)) else checkE seed g n x s) = R) := hF2
      clear hF hF2 hd ht hvc
      have hba : Below wr.heap.size wr (wr.alloc (.cells #[.int .i64 n, .string (bs s)] 56)) := (Below.refl _ _).alloc (Nat.le_refl _) _
      have hbb := hba.alloc hba.size (.cells #[.int .i64 g, .int .i64 n] 26)
      have hBb := hB1.trans (hbb.mono hB1.size)
      have hC := Check_any r seed g n x s ((wr.alloc (.cells #[.int .i64 n, .string (bs s)] 56)).alloc (.cells #[.int .i64 g, .int .i64 n] 26)) (he.next hBb) (hb.next hBb) (hr.below hBb (Nat.le_refl _)) ‹_›
      have p2 := (hbb.block w.heap.size hl1).trans p1
      have hl2 := Nat.lt_of_lt_of_le hl1 hbb.size
      obtain ⟨C, hC2⟩ : ∃ C, checkE seed g n x s = C := ⟨_, rfl⟩
      rw [hC2] at hC HF
      clear hC2
      by_cases h0 : C = 0
      · subst h0
        have HF2 : Hid (ckL seed g x (l.drop (k + 1)) = R) := by have h := HF.out; rw [if_pos rfl] at h; exact h
        clear HF
        go_wp2_with (go_at_call 25; refine hC.mono ?_; rintro e w3 ⟨rfl, hb3⟩; have hB3 := hBb.trans (hb3.mono hBb.size); have p3 := (hb3.block w.heap.size hl2).trans p2)
        go_roundw
        case rel => exact ⟨k + 1, by go_num, hk2, HF2, p3, hB3⟩
        case measure => simp [intOf]; omega
      · have HF2 : Hid (C = R) := by have h := HF.out; rw [if_neg h0] at h; exact h
        have hq : (C != 0) = true := by simpa using h0
        clear HF h0
        go_wp2_with (go_at_call 25; refine hC.mono ?_; rintro e w3 ⟨rfl, hb3⟩; have hB3 := hBb.trans (hb3.mono hBb.size))
        go_ret
        rw [HF2.out]
        exact ⟨rfl, hB3⟩
end Go.Proofs.YtoniohmceaflnabDoor
