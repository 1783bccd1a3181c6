/- The small case that each law asks; nil marks. -/
import Derived.Test.YtmggfkhfiggloaaDoorMkH
namespace Go.Proofs.YtmggfkhfiggloaaDoor
open Go.RowKit
attribute [local go_sem ↓] Go.wp_at_zero Go.wp_at_succ

theorem itoa_dig (k : Nat) (h : k < 10) : Lib.itoa (k : Int) = [UInt8.ofNat (48 + k)] := by rw [itoa_nat, Lib.decDigits_one h]
theorem mark_one : markT 1 4 [115] = [52, 58, 109, 97, 114, 107, 44, 49, 58, 49, 44, 49, 58, 52, 44, 49, 58, 115, 44] := by
  have h1 : Lib.itoa (1 : Int) = [49] := itoa_dig 1 (by decide)
  have h4 : Lib.itoa (4 : Int) = [52] := itoa_dig 4 (by decide)
  rw [markT, h1, h4, pack_cons, pack_cons, pack_cons, pack_cons, one_small _ (by decide), one_small _ (by decide), one_small _ (by decide), one_small _ (by decide)]
  rfl
theorem text_one : textE 1 4 [115] = 0 ∧ textV 1 4 [115] = [52, 58, 109, 97, 114, 107, 44, 49, 58, 49, 44, 49, 58, 52, 44, 49, 58, 115, 44] := by
  obtain ⟨h1, h2⟩ := textE_0 (g := 1) (n := 4) (st := [115]) rfl (by rw [mark_one]; decide)
  exact ⟨h1, by rw [h2, mark_one]⟩
def tag16 : List UInt8 := [48, 49, 50, 51, 52, 53, 54, 55, 56, 57, 97, 98, 99, 100, 101, 102]
def oneS : St := ⟨updV st0.V 0 (4, [115], tag16), 4, [115], [52, 58, 109, 97, 114, 107, 44, 49, 58, 49, 44, 49, 58, 52, 44, 49, 58, 115, 44], 1, [(0, tag16)]⟩
theorem vote_one : voteR 1 0 st0 0 4 [115] tag16 = (true, 0, oneS) := by
  have e1 : tofE 1 0 0 4 [115] = 0 := by rw [tofE, if_pos (by rfl)]; exact text_one.1
  unfold voteR
  rw [if_neg (by rw [e1]; decide), if_neg (by decide), if_neg (by decide), if_neg (by decide), text_one.2]
  rfl
set_option maxRecDepth 20000 in
set_option maxHeartbeats 4000000 in
theorem one_any (w : World) (he : EnvP w) : Calls Tryd.prog 12 #[] w fun e W' => e = .returned (.bool true) ∧ Below w.heap.size w W' := by
  have hT := Text_any 1 4 [115] w (by decide) he
  rw [text_one.1, text_one.2] at hT
  have HN : Hid (∀ w1, Below w.heap.size w w1 → Calls Tryd.prog 13 #[.int .i64 1, .int .i64 0] w1 fun e W' => e = .returned (.tuple #[.pointer (some ⟨w1.heap.size, 0, none⟩), .int .i64 0]) ∧ MarkAt W' w1.heap.size 1 0 st0 (.slice none 0 0) ∧ Below w.heap.size w W') := by
    intro w1 hb
    refine (New_ok (g := 1) (f := 0) rfl (by decide) w1).mono ?_
    rintro e W' ⟨rfl, h1, h2⟩
    exact ⟨rfl, h1, hb.trans (h2.mono hb.size)⟩
  have HV : Hid (∀ w2 B, w.heap.size ≤ B → Below w.heap.size w w2 → MarkAt w2 B 1 0 st0 (.slice none 0 0) → Calls Tryd.prog 15 #[.pointer (some ⟨B, 0, none⟩), .int .i64 0, .int .i64 4, .string (bs [115]), .string (bs tag16)] w2 fun e W' => e = .returned (.tuple #[.bool true, .int .i64 0]) ∧ (∃ cv, MarkAt W' B 1 0 oneS cv) ∧ Below w.heap.size w W') := by
    intro w2 B hB hb h2
    refine (Vote_any h2 0 4 [115] tag16 (by decide) (he.next hb) _ _ _ vote_one).mono ?_
    rintro e W' ⟨rfl, cv, h1, h2', _⟩
    exact ⟨rfl, ⟨cv, h1⟩, hb.trans (h2'.below hB hb.size)⟩
  have HS : Hid (∀ w3 B cv, Below w.heap.size w w3 → MarkAt w3 B 1 0 oneS cv → Calls Tryd.prog 20 #[.pointer (some ⟨B, 0, none⟩)] w3 fun e W' => ∃ a c, e = .returned (.tuple #[.int .i64 4, .string (bs [115]), .agg #[.string (bs [52, 58, 109, 97, 114, 107, 44, 49, 58, 49, 44, 49, 58, 52, 44, 49, 58, 115, 44]), .int .i64 1, .slice a 1 c]]) ∧ Below w.heap.size w W') := by
    intro w3 B cv hb h3
    refine (Stable_any h3).mono ?_
    rintro e W' ⟨v, rfl, h1, h2⟩
    obtain ⟨a, c, rfl⟩ := owns_slice h1
    exact ⟨a, c, rfl, hb.trans (h2.mono hb.size)⟩
  obtain ⟨X, hX⟩ : ∃ X, bs [52, 58, 109, 97, 114, 107, 44, 49, 58, 49, 44, 49, 58, 52, 44, 49, 58, 115, 44] = X := ⟨_, rfl⟩
  have hlit : ({ data := #[52, 58, 109, 97, 114, 107, 44, 49, 58, 49, 44, 49, 58, 52, 44, 49, 58, 115, 44] } : ByteArray) = X := hX
  obtain ⟨Y, hY⟩ : ∃ Y, bs [115] = Y := ⟨_, rfl⟩
  have hlit2 : ({ data := #[115] } : ByteArray) = Y := hY
  rw [hX] at hT HS
  rw [hY] at hT HS HV
  clear he hX hY
  go_enter Tryd.func12, Tryd.ntmps12
  rw [hlit, hlit2]
  have hs : (X.toList == X.toList) = true := by simp
  have hs2 : (Y.toList == Y.toList) = true := by simp
  clear hlit hlit2
  go_upto_region 5 with (first
    | (go_at_call 8; refine hT.mono ?_; clear hT; rintro e w1 ⟨rfl, hb1⟩; have hN := HN.out _ hb1)
    | (go_at_call 13; refine hN.mono ?_; clear hN; rintro e w2 ⟨rfl, h2, hb2⟩; have hV := HV.out _ _ hb1.size hb2 h2; clear h2))
  go_wp2_with (first
    | (go_at_call 15; refine hV.mono ?_; clear hV; rintro e w3 ⟨rfl, ⟨cv, h3⟩, hb3⟩; have hS := HS.out _ _ _ hb3 h3; clear h3)
    | (go_at_call 20; refine hS.mono ?_; clear hS; rintro e w4 ⟨a4, c4, rfl, hb4⟩))
  go_ret
  exact ⟨rfl, hb4.alloc hb4.size _⟩

set_option maxRecDepth 20000 in
set_option maxHeartbeats 4000000 in
theorem nil_any (what no n : Int) (st tg ct : ByteArray) (cg : Int) (va : Option Addr) (vn vc : Nat) (w : World) (he : EnvP w) : Calls Tryd.prog 7 #[.agg #[.int .i64 what, .int .i64 no, .int .i64 n, .string st, .string tg, .string ct, .int .i64 cg, .slice va vn vc]] w fun e W' => e = .returned (.bool true) ∧ Below w.heap.size w W' := by
  have hba := (Below.refl w.heap.size w).alloc (Nat.le_refl _) (.cells #[.int .i64 what, .int .i64 no, .int .i64 n, .string st, .string tg, .string ct, .int .i64 cg, .slice va vn vc] 51)
  have rQ := heap_alloc_new w (.cells #[.int .i64 what, .int .i64 no, .int .i64 n, .string st, .string tg, .string ct, .int .i64 cg, .slice va vn vc] 51)
  obtain ⟨W1, hW1⟩ : ∃ W, w.alloc (.cells #[.int .i64 what, .int .i64 no, .int .i64 n, .string st, .string tg, .string ct, .int .i64 cg, .slice va vn vc] 51) = W := ⟨_, rfl⟩
  have HW : Hid (w.alloc (.cells #[.int .i64 what, .int .i64 no, .int .i64 n, .string st, .string tg, .string ct, .int .i64 cg, .slice va vn vc] 51) = W1) := hW1
  rw [hW1] at hba rQ
  have hlt := (Array.getElem?_eq_some_iff.1 rQ).1
  have HK : Hid (∀ W, Below W1.heap.size W1 W → W.cell? ⟨w.heap.size, 1, none⟩ = some (.int .i64 no) ∧ Below w.heap.size w W ∧ W1.heap.size ≤ W.heap.size) := fun W hb => ⟨cellB ((hb.block _ hlt).trans rQ) 1 _ rfl, hba.trans (hb.mono hba.size), hb.size⟩
  have HO : Hid (∀ W, Below w.heap.size w W → Calls Tryd.prog 12 #[] W fun e W' => e = .returned (.bool true) ∧ Below W.heap.size W W') := fun W hb => one_any W (he.next hb)
  have q1 := cellB rQ 1 _ rfl
  have q2 := cellB rQ 2 _ rfl
  have q3 := cellB rQ 3 _ rfl
  have q4 := cellB rQ 4 _ rfl
  have q5 := cellB rQ 5 _ rfl
  have q6 := cellB rQ 6 _ rfl
  have q7 := cellB rQ 7 _ rfl
  have hE : nilE no = if no < 0 then 1 else 7 := rfl
  have hV := Vote_nil no n st tg W1
  have hA := Adopt_nil ct cg (.slice va vn vc) W1
  have HS : Hid (∀ W, Below W1.heap.size W1 W → Calls Tryd.prog 20 #[.pointer none] W fun e W' => e = .returned (.tuple #[.int .i64 0, .string ⟨#[]⟩, .agg #[.string ⟨#[]⟩, .int .i64 0, .slice none 0 0]]) ∧ Below W1.heap.size W1 W') := by
    intro W hb
    refine (Stable_nil W).mono ?_
    rintro e W' ⟨rfl, h⟩
    exact ⟨rfl, hb.trans (h.mono hb.size)⟩
  clear hW1 rQ he hba
  by_cases hn : no < 0
  · rw [if_pos hn] at hE
    rw [hE] at hV
    clear hE
    go_enter Tryd.func7, Tryd.ntmps7
    go_upto_region 2 with fail
    rw [HW.out]
    clear HW
    go_upto_region 5 with (first
      | (go_at_call 15; refine hV.mono ?_; clear hV; rintro e w2 ⟨rfl, h9⟩; subst h9)
      | (go_at_call 17; refine hA.mono ?_; clear hA; rintro e w3 ⟨rfl, hb3⟩; have hS := HS.out _ hb3)
      | (go_at_call 20; refine hS.mono ?_; clear hS; rintro e w4 ⟨rfl, hb4⟩))
    have hb5 := hb4.alloc hb4.size (.cells #[.string ⟨#[]⟩, .int .i64 0, .slice none 0 0] 49)
    have r5 := heap_alloc_new w4 (.cells #[.string ⟨#[]⟩, .int .i64 0, .slice none 0 0] 49)
    obtain ⟨k1, hB5, hs5⟩ := HK.out _ hb5
    obtain ⟨W5, hW5⟩ : ∃ W, w4.alloc (.cells #[.string ⟨#[]⟩, .int .i64 0, .slice none 0 0] 49) = W := ⟨_, rfl⟩
    rw [hW5] at r5 k1 hB5 ⊢
    have p0 := cellB r5 0 _ rfl
    have p2 := cellB r5 2 _ rfl
    have hO := HO.out _ hB5
    have HB5 : Hid (_) := hB5
    clear hW5 r5 hb5 hB5 HO HK HS hb4 hb3 hs5 q1 q2 q3 q4 q5 q6 q7
    go_wp2_with (first
      | (go_at_call 22; refine (Of_nil _ _).mono ?_; rintro e w6 ⟨rfl, h9⟩; subst h9)
      | (go_at_call 12; refine hO.mono ?_; clear hO; rintro e w7 ⟨rfl, hb7⟩))
    go_ret
    exact ⟨rfl, HB5.out.trans (hb7.mono HB5.out.size)⟩
  · rw [if_neg hn] at hE
    rw [hE] at hV
    have hn2 : 0 ≤ no := by omega
    clear hE hn
    go_enter Tryd.func7, Tryd.ntmps7
    go_upto_region 2 with fail
    rw [HW.out]
    clear HW
    go_upto_region 5 with (first
      | (go_at_call 15; refine hV.mono ?_; clear hV; rintro e w2 ⟨rfl, h9⟩; subst h9)
      | (go_at_call 17; refine hA.mono ?_; clear hA; rintro e w3 ⟨rfl, hb3⟩; have hS := HS.out _ hb3)
      | (go_at_call 20; refine hS.mono ?_; clear hS; rintro e w4 ⟨rfl, hb4⟩))
    have hb5 := hb4.alloc hb4.size (.cells #[.string ⟨#[]⟩, .int .i64 0, .slice none 0 0] 49)
    have r5 := heap_alloc_new w4 (.cells #[.string ⟨#[]⟩, .int .i64 0, .slice none 0 0] 49)
    obtain ⟨k1, hB5, hs5⟩ := HK.out _ hb5
    obtain ⟨W5, hW5⟩ : ∃ W, w4.alloc (.cells #[.string ⟨#[]⟩, .int .i64 0, .slice none 0 0] 49) = W := ⟨_, rfl⟩
    rw [hW5] at r5 k1 hB5 ⊢
    have p0 := cellB r5 0 _ rfl
    have p2 := cellB r5 2 _ rfl
    have hO := HO.out _ hB5
    have HB5 : Hid (_) := hB5
    clear hW5 r5 hb5 hB5 HO HK HS hb4 hb3 hs5 q1 q2 q3 q4 q5 q6 q7
    go_wp2_with (first
      | (go_at_call 22; refine (Of_nil _ _).mono ?_; rintro e w6 ⟨rfl, h9⟩; subst h9)
      | (go_at_call 12; refine hO.mono ?_; clear hO; rintro e w7 ⟨rfl, hb7⟩))
    go_ret
    exact ⟨rfl, HB5.out.trans (hb7.mono HB5.out.size)⟩
end Go.Proofs.YtmggfkhfiggloaaDoor
