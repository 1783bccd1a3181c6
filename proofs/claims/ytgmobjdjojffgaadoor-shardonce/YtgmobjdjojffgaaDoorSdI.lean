/- Shards: Text of one that holds nothing; the small case that each law of shards asks. -/
import Derived.Test.YtgmobjdjojffgaaDoorSdG
namespace Go.Proofs.YtgmobjdjojffgaaDoor
open Go.RowKit
attribute [local go_sem ↓] Go.wp_at_zero Go.wp_at_succ

set_option maxRecDepth 20000 in
set_option maxHeartbeats 1000000 in
theorem sText_of {w : World} (he : EnvP w) (p : Value) (st : Int) (C : List UInt8) (h0 : 0 ≤ st) (h1 : st ≤ 3) (hC : C.length ≤ 900000) (hS : ∀ W, Below w.heap.size w W → Calls Tryd.prog 21 #[p] W fun e W' => e = .returned (.int .i64 st) ∧ W' = W) (hT : ∀ W, Below w.heap.size w W → Calls Tryd.prog 19 #[p] W fun e W' => e = .returned (.string (bs C)) ∧ Below w.heap.size w W') :
    Calls Tryd.prog 11 #[p] w fun e W' => e = .returned (.string (bs (packL [Lib.itoa st, C]))) ∧ Below w.heap.size w W' := by
  have hs := hS w (Below.refl _ _)
  have hN := Num_any st w (by omega) (by omega) he
  have HT : Hid (_) := hT
  have hil : (Lib.itoa st).length ≤ 20 := by
    have : st = 0 ∨ st = 1 ∨ st = 2 ∨ st = 3 := by omega
    rcases this with rfl | rfl | rfl | rfl <;> decide +kernel
  have HP : Hid (∀ W, Below w.heap.size w W → Calls Tryd.prog 31 #[.slice (some ⟨W.heap.size, 0, none⟩) 2 2] (W.alloc (.cells #[.string (bs (Lib.itoa st)), .string (bs C)] 9)) fun e W' => e = .returned (.string (bs (packL [Lib.itoa st, C]))) ∧ Below w.heap.size w W') := fun W hb => by
    have hb1 : Below w.heap.size w (W.alloc (.cells #[.string (bs (Lib.itoa st)), .string (bs C)] 9)) := hb.alloc hb.size _
    refine (Pack_any [Lib.itoa st, C] _ _ (by simp [tot]; omega) (by simp) (he.next hb1) (Sl.of_owns (l := [Lib.itoa st, C]) (owns_new W #[.string (bs (Lib.itoa st)), .string (bs C)] 9 1 2 rfl (by decide)))).mono ?_
    rintro e W' ⟨rfl, h2⟩
    exact ⟨rfl, hb1.trans (h2.mono hb1.size)⟩
  obtain ⟨X, hX⟩ : ∃ X, packL [Lib.itoa st, C] = X := ⟨_, rfl⟩
  rw [hX] at HP
  rw [hX]
  obtain ⟨I, hI⟩ : ∃ I, Lib.itoa st = I := ⟨_, rfl⟩
  rw [hI] at HP hN
  clear hX hI hil he hS hT hC h0 h1
  go_enter Tryd.func11, Tryd.ntmps11
  go_wp2_with (first
    | (go_at_call 21; refine hs.mono ?_; clear hs; rintro e w1 ⟨rfl, h9⟩; subst h9)
    | (go_at_call 32; refine hN.mono ?_; clear hN; rintro e w1 ⟨rfl, hb⟩; have ht := HT.out _ hb; clear HT)
    | (go_at_call 19; refine ht.mono ?_; clear ht; rintro e w2 ⟨rfl, hb2⟩; have hp := HP.out _ hb2; clear HP)
    | (go_at_call 31; refine hp.mono ?_; clear hp; rintro e w3 ⟨rfl, hb3⟩))
  go_ret
  exact ⟨rfl, hb3⟩
theorem sd1 : doR [] 2 [107] [97] [] = ([], 0, [([107], [97])]) := by decide +kernel
/-- A shard of one's own. -/
def Sv (w W : World) (s : Sh) : Prop := ∃ T v, ShAt W w.heap.size s T v ∧ w.heap.size ≤ T ∧ Below w.heap.size w W
theorem Sv.new {w W : World} {s : Sh} (h : Sv w W s) (ob : Obj) : Sv w (W.alloc ob) s := by
  obtain ⟨T, v, h1, h2, h3⟩ := h
  exact ⟨T, v, h1.on ((Below.refl _ _).alloc (Nat.le_refl _) _), h2, h3.alloc h3.size _⟩
theorem Sv.on {w W W' : World} {s : Sh} (h : Sv w W s) (hb : Below W.heap.size W W') : Sv w W' s := by
  obtain ⟨T, v, h1, h2, h3⟩ := h
  exact ⟨T, v, h1.on hb, h2, h3.trans (hb.mono h3.size)⟩
def s1 : Sh := ⟨1, [([107], [97])], updC (fun _ => la0) 0 (5, 0, [])⟩
def s2 : Sh := ⟨2, [([107], [97])], updC (fun _ => la0) 0 (5, 0, [])⟩
set_option maxRecDepth 20000 in
set_option maxHeartbeats 2000000 in
theorem serves_any (w : World) : Calls Tryd.prog 8 #[] w fun e W' => e = .returned (.bool true) ∧ Below w.heap.size w W' := by
  have hN : Calls Tryd.prog 13 #[] w fun e W' => e = .returned (.pointer (some ⟨w.heap.size, 0, none⟩)) ∧ ShAt W' w.heap.size sh0 0 (.slice none 0 0) ∧ Below w.heap.size w W' ∧ W'.heap.size = w.heap.size + 1 := sNew_any w
  have H1 : Hid (∀ W, ShAt W w.heap.size sh0 0 (.slice none 0 0) → Below w.heap.size w W → Calls Tryd.prog 15 #[.pointer (some ⟨w.heap.size, 0, none⟩)] W fun e W' => e = .returned (.int .i64 0) ∧ Sv w W' shB) := fun W h hb => by
    refine (Begin_ok h rfl).mono ?_
    rintro e W' ⟨rfl, h1, hm⟩
    exact ⟨rfl, _, _, h1, hb.size, hb.trans (hm.below (Nat.le_refl _) hb.size)⟩
  have H2 : Hid (∀ W, Sv w W shB → Calls Tryd.prog 20 #[.pointer (some ⟨w.heap.size, 0, none⟩), .int .i64 0, .int .i64 5, .agg #[.int .i64 2, .string ⟨#[107]⟩, .string ⟨#[97]⟩, .string ⟨#[]⟩]] W fun e W' => e = .returned (.tuple #[.agg #[.int .i64 0, .string ⟨#[]⟩], .bool true, .int .i64 0]) ∧ Sv w W' s1) := fun W h => by
    obtain ⟨T, v, h1, h2, h3⟩ := h
    have := sDo_new h1 rfl 0 5 2 [107] [97] [] (by decide) (by decide)
    refine this.mono ?_
    rintro e W' ⟨rfl, v', k1, _, k3⟩
    exact ⟨by rw [show shB.l = [] from rfl, sd1]; rfl, T, v', by rw [show shB.l = [] from rfl, sd1] at k1; exact k1, h2, h3.trans (k3.below (Nat.le_refl _) h2 h3.size)⟩
  have H3 : Hid (∀ W, Sv w W s1 → Calls Tryd.prog 20 #[.pointer (some ⟨w.heap.size, 0, none⟩), .int .i64 0, .int .i64 5, .agg #[.int .i64 2, .string ⟨#[107]⟩, .string ⟨#[98]⟩, .string ⟨#[]⟩]] W fun e W' => e = .returned (.tuple #[.agg #[.int .i64 0, .string ⟨#[]⟩], .bool false, .int .i64 0]) ∧ Sv w W' s1) := fun W h => by
    obtain ⟨T, v, h1, h2, h3⟩ := id h
    refine (sDo_same h1 rfl 0 5 2 [107] [98] [] (by decide) rfl).mono ?_
    rintro e W' ⟨rfl, hb⟩
    exact ⟨rfl, h.on hb⟩
  have H4 : Hid (∀ W, Sv w W s1 → Calls Tryd.prog 16 #[.pointer (some ⟨w.heap.size, 0, none⟩)] W fun e W' => e = .returned (.int .i64 0) ∧ Sv w W' s2) := fun W h => by
    obtain ⟨T, v, h1, h2, h3⟩ := h
    refine (Freeze_ok h1 rfl).mono ?_
    rintro e W' ⟨rfl, h4, hm⟩
    exact ⟨rfl, T, v, h4, h2, h3.trans (hm.below (Nat.le_refl _) h3.size)⟩
  have H5 : Hid (∀ W, Sv w W s2 → Calls Tryd.prog 20 #[.pointer (some ⟨w.heap.size, 0, none⟩), .int .i64 0, .int .i64 6, .agg #[.int .i64 1, .string ⟨#[107]⟩, .string ⟨#[]⟩, .string ⟨#[]⟩]] W fun e W' => e = .returned (.tuple #[.agg #[.int .i64 0, .string ⟨#[]⟩], .bool false, .int .i64 7]) ∧ Sv w W' s2) := fun W h => by
    obtain ⟨T, v, h1, h2, h3⟩ := id h
    refine (sDo_state _ 0 6 1 2 [107] [] [] W (by decide) (by decide) (Status_any (h1.on (W2_below W 1 [107] [] [])))).mono ?_
    rintro e W' ⟨rfl, hb⟩
    exact ⟨rfl, h.on hb⟩
  have H6 : Hid (∀ W, Sv w W s2 → Calls Tryd.prog 21 #[.pointer (some ⟨w.heap.size, 0, none⟩)] W fun e W' => e = .returned (.int .i64 2) ∧ W' = W) := fun W h => by
    obtain ⟨T, v, h1, _, _⟩ := h
    exact Status_any h1
  go_enter Tryd.func8, Tryd.ntmps8
  go_wp2_with (first
    | (go_at_call 13; refine hN.mono ?_; clear hN; rintro e w1 ⟨rfl, k1, k2, _⟩; have h1 := H1.out _ k1 k2; clear H1 k1 k2)
    | (go_at_call 15; refine h1.mono ?_; clear h1; rintro e w2 ⟨rfl, k1⟩; have h2 := H2.out _ k1; clear H2 k1)
    | (go_at_call 20; refine h2.mono ?_; clear h2; rintro e w3 ⟨rfl, k1⟩; have h3 := H3.out _ (k1.new (.cells #[.int .i64 0, .string ⟨#[]⟩] 47)); clear H3 k1)
    | (go_at_call 20; refine h3.mono ?_; clear h3; rintro e w4 ⟨rfl, k1⟩; have h4 := H4.out _ (k1.new (.cells #[.int .i64 0, .string ⟨#[]⟩] 47)); clear H4 k1)
    | (go_at_call 16; refine h4.mono ?_; clear h4; rintro e w5 ⟨rfl, k1⟩; have h5 := H5.out _ k1; clear H5 k1)
    | (go_at_call 20; refine h5.mono ?_; clear h5; rintro e w6 ⟨rfl, k1⟩; have k2 := k1.new (.cells #[.int .i64 0, .string ⟨#[]⟩] 47); have h6 := H6.out _ k2; have HK : Hid (_) := k2; clear H6 k1 k2)
    | (go_at_call 21; refine h6.mono ?_; clear h6; rintro e w7 ⟨rfl, h9⟩; subst h9))
  go_ret
  obtain ⟨T, v, _, _, h3⟩ := HK.out
  exact ⟨rfl, h3⟩
end Go.Proofs.YtgmobjdjojffgaaDoor
