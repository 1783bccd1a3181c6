/- Open, walked. -/
import Derived.Test.YtihilkdokfdoeaaDoorPlA
namespace Go.Proofs.YtihilkdokfdoeaaDoor
open Go.RowKit Go.Maps
attribute [local go_sem ↓] Go.wp_at_zero Go.wp_at_succ

def ncs (i : Nat) : List Value := [.int .i64 i]
/-- The places of calls that are not answered, of the first n. -/
def opnF (calls : List Cl) : Nat → List Nat
  | 0 => []
  | n + 1 => if (match calls[n]? with | some c => decide (c.tt = -1) | none => false) = true then opnF calls n ++ [n] else opnF calls n
theorem opnF_yes {calls : List Cl} {n : Nat} {c : Cl} (h : calls[n]? = some c) (ht : c.tt = -1) : opnF calls (n + 1) = opnF calls n ++ [n] := by rw [opnF, h]; simp [ht]
theorem opnF_no {calls : List Cl} {n : Nat} {c : Cl} (h : calls[n]? = some c) (ht : ¬ c.tt = -1) : opnF calls (n + 1) = opnF calls n := by rw [opnF, h]; simp [ht]
theorem opnF_len (calls : List Cl) : ∀ n, (opnF calls n).length ≤ n
  | 0 => Nat.le_refl _
  | n + 1 => by
    have := opnF_len calls n
    rw [opnF]
    by_cases h : (match calls[n]? with | some c => decide (c.tt = -1) | none => false) = true
    · rw [if_pos h, List.length_append]; show _ + 1 ≤ _; omega
    · rw [if_neg h]; omega
set_option maxRecDepth 20000 in
set_option maxHeartbeats 1500000 in
theorem Open_any (calls : List Cl) (vc : Value) (w : World) (hc : SlF ccs 10 w vc calls) (hl : calls.length ≤ 100000) : Calls Tryd.prog 19 #[vc] w fun e W' => ∃ u, e = .returned u ∧ SlF ncs 1 W' u (opnF calls calls.length) ∧ Below w.heap.size w W' := by
  obtain ⟨va, vcap, rfl⟩ := hc.slice
  obtain ⟨i0, hi, hz0, hz1, hz2⟩ := info_parts Tryd.info3
  obtain ⟨N, hN⟩ : ∃ N, w.heap.size = N := ⟨_, rfl⟩
  have HN : Hid (w.heap.size = N) := hN
  have HLN : Hid (calls.length ≤ 100000) := hl
  have HL : Hid (calls.length ≤ 100000) := hl
  have HV : Hid (∀ W, Below N w W → SlF ccs 10 W (.slice va calls.length vcap) calls) := fun W hW => hc.on hW (by omega)
  clear hc hN hl
  go_enter Tryd.func19, Tryd.ntmps19
  go_wp2_with fail
  go_loopg [3, 8] calls.length (fun gk x j wr => ∃ n : Nat, n + gk = calls.length ∧ j = .int .i64 n ∧ wr.ownsRow N 3 1 x (opnF calls n).length ((opnF calls n).flatMap ncs) ∧ Below N w wr)
  case atStart => exact ⟨0, by omega, rfl, World.ownsRow_nil _ _ _ _, by rw [← HN.out]; exact Below.refl _ _⟩
  case round =>
    obtain ⟨n, hnn, rfl, hown, hB⟩ := hrel
    obtain ⟨xa, xc, rfl⟩ := owns_slice hown
    by_cases hn1 : n = calls.length
    · subst hn1
      have HO : Hid (_ ∧ _) := ⟨hown, hB⟩
      clear hown hB HV
      go_wp2
      go_ret
      exact ⟨_, rfl, SlF.of_owns (fun _ => rfl) HO.out.1, by rw [HN.out]; exact HO.out.2⟩
    · have hn2 : n < calls.length := by omega
      obtain ⟨c, ho⟩ : ∃ c, calls[n]? = some c := ⟨_, List.getElem?_eq_getElem hn2⟩
      obtain ⟨g, e', hg', -, y⟩ := (HV.out _ hB).at ho
      subst hg'
      obtain ⟨cl, no, ⟨kind, k, v, od⟩, fr, tt, T, E⟩ := c
      have y0 : wr.cell? ⟨g, e' + n * 10, none⟩ = some (.int .i64 cl) := y 0 _ rfl
      have y1 : wr.cell? ⟨g, e' + n * 10 + 1, none⟩ = some (.int .i64 no) := y 1 _ rfl
      have y2 : wr.cell? ⟨g, e' + n * 10 + 2, none⟩ = some (.int .i64 kind) := y 2 _ rfl
      have y3 : wr.cell? ⟨g, e' + n * 10 + 3, none⟩ = some (.string (bs k)) := y 3 _ rfl
      have y4 : wr.cell? ⟨g, e' + n * 10 + 4, none⟩ = some (.string (bs v)) := y 4 _ rfl
      have y5 : wr.cell? ⟨g, e' + n * 10 + 5, none⟩ = some (.string (bs od)) := y 5 _ rfl
      have y6 : wr.cell? ⟨g, e' + n * 10 + 6, none⟩ = some (.int .i64 fr) := y 6 _ rfl
      have y7 : wr.cell? ⟨g, e' + n * 10 + 7, none⟩ = some (.int .i64 tt) := y 7 _ rfl
      have y8 : wr.cell? ⟨g, e' + n * 10 + 8, none⟩ = some (.int .i64 E) := y 8 _ rfl
      have y9 : wr.cell? ⟨g, e' + n * 10 + 9, none⟩ = some (.string (bs T)) := y 9 _ rfl
      have hnb : n ≤ 100000 := by have := HLN.out; omega
      have d0 : (0 : Int) ≤ (n : Int) := by omega
      have d1 : (n : Int) < (calls.length : Int) := by omega
      obtain ⟨D, hD⟩ : ∃ D, wr.heap.size = D := ⟨_, rfl⟩
      have hDN : N ≤ D := by have := hB.size; have := HN.out; omega
      have rD := heap_alloc_new wr (.cells #[.int .i64 cl, .int .i64 no, .int .i64 kind, .string (bs k), .string (bs v), .string (bs od), .int .i64 fr, .int .i64 tt, .int .i64 E, .string (bs T)] 51)
      have hbA := (Below.refl wr.heap.size wr).alloc (Nat.le_refl _) (.cells #[.int .i64 cl, .int .i64 no, .int .i64 kind, .string (bs k), .string (bs v), .string (bs od), .int .i64 fr, .int .i64 tt, .int .i64 E, .string (bs T)] 51)
      obtain ⟨WA, hWA⟩ : ∃ W, wr.alloc (.cells #[.int .i64 cl, .int .i64 no, .int .i64 kind, .string (bs k), .string (bs v), .string (bs od), .int .i64 fr, .int .i64 tt, .int .i64 E, .string (bs T)] 51) = W := ⟨_, rfl⟩
      rw [hWA] at rD hbA
      rw [hD] at rD hbA
      have hzA : WA.heap.size = D + 1 := by rw [← hWA, World.size_alloc, hD]
      have HWA : Hid (wr.alloc (.cells #[.int .i64 cl, .int .i64 no, .int .i64 kind, .string (bs k), .string (bs v), .string (bs od), .int .i64 fr, .int .i64 tt, .int .i64 E, .string (bs T)] 51) = WA) := hWA
      have HD : Hid (wr.heap.size = D) := hD
      have hBA : Below N w WA := hB.trans (hbA.mono hDN)
      have hy1 := @opnF_yes calls n _ ho
      have hy2 := @opnF_no calls n _ ho
      have hln := opnF_len calls n
      obtain ⟨A, hA⟩ : ∃ A, opnF calls n = A := ⟨_, rfl⟩
      rw [hA] at hown hy1 hy2 hln ⊢
      have hownA := owns_keep hown (w' := WA) fun q e => hbA.block q (by have := (hown.lt q e).2; omega)
      have x0 := cellB rD 0 _ rfl
      have x1 := cellB rD 1 _ rfl
      have x2 := cellB rD 2 _ rfl
      have x3 := cellB rD 3 _ rfl
      have x4 := cellB rD 4 _ rfl
      have x5 := cellB rD 5 _ rfl
      have x6 := cellB rD 6 _ rfl
      have x7 := cellB rD 7 _ rfl
      have x8 := cellB rD 8 _ rfl
      have x9 := cellB rD 9 _ rfl
      have hT := isOpen_any cl no kind k v od fr tt E T WA
      have HT : Hid (∀ o, decide (tt = -1) = o → Calls Tryd.prog 30 #[.agg #[.int .i64 cl, .int .i64 no, .int .i64 kind, .string (bs k), .string (bs v), .string (bs od), .int .i64 fr, .int .i64 tt, .int .i64 E, .string (bs T)]] WA fun e W' => e = .returned (.bool o) ∧ W'.ownsRow N 3 1 (.slice xa A.length xc) A.length (A.flatMap ncs) ∧ Below N w W' ∧ N ≤ W'.heap.size) := fun o ho => by
        subst ho
        exact hT.mono fun e W' hh => ⟨hh.1, owns_keep hownA fun q e => hh.2.block q (by have := (hown.lt q e).2; omega), hBA.trans (hh.2.mono (by omega)), by have := hh.2.size; omega⟩
      have hml : A.length + 1 ≤ maxLen := by unfold maxLen; have := HL.out; omega
      have hkb : (A.length + 1) * 8 ≤ 140737488355328 := by have := HL.out; omega
      have HY : Hid (tt = -1 → opnF calls (n + 1) = A ++ [n]) := hy1
      have HY2 : Hid (¬ tt = -1 → opnF calls (n + 1) = A) := hy2
      clear hB y hD hDN rD hbA hWA hzA hBA hT hA ho hown hownA hy1 hy2 hln
      go_upto_region 5 with fail
      rw [HWA.out]
      try rw [HD.out]
      clear y0 y1 y2 y3 y4 y5 y6 y7 y8 y9 HWA HD
      by_cases h1 : tt = -1
      · have HX : Hid (opnF calls (n + 1) = A ++ [n]) := HY.out h1
        have hC := HT.out true (decide_eq_true h1)
        clear HY HY2 HT h1
        go_wp2_with (first
          | (go_at_call 30; refine hC.mono ?_; clear hC x0 x1 x2 x3 x4 x5 x6 x7 x8 x9; rintro e W3 ⟨rfl, hown, hB3, hN3⟩; have hN4 : N ≤ (W3.alloc (.cells #[.int .i64 (n : Int)] 3)).heap.size := by (rw [World.size_alloc]; omega))
          | (at_builtin; refine wpList_append_lies _ rfl _ _ 67 rfl N 3 i0 (.int .i64 0) 1 8 Tryd.underlying67 hi hz0 hz1 hz2 rfl (by decide) (.slice xa A.length xc) A.length _ rfl (hown.alloc _) _ 1 1 [.int .i64 (n : Int)] rfl rfl (World.news_of_block (heap_alloc_new _ _)) (by simp [Value.oneCell']) (by decide) hml hkb hN4 _ rfl ?_; intro ga ca w6 g1 g2 g3 g4))
        have HF : Hid (w6.ownsRow N 3 1 (.slice (some ⟨ga, 0, none⟩) (A.length + 1) ca) (A.length + 1) (A.flatMap ncs ++ [.int .i64 (n : Int)]) ∧ Below N w w6) := ⟨g1, (hB3.alloc hN3 _).grown g2 hN4 (fun z hz => (hown.lt z hz).1)⟩
        clear g1 g2 g3 g4 hown hB3 hN3 hN4
        go_roundg (calls.length - (n + 1))
        case measure => omega
        case rel => exact ⟨n + 1, by omega, by go_num, by rw [HX.out, List.length_append, List.flatMap_append]; exact HF.out.1, HF.out.2⟩
      · have HX : Hid (opnF calls (n + 1) = A) := HY2.out h1
        have hC := HT.out false (decide_eq_false h1)
        clear HY HY2 HT h1
        go_wp2_with (first
          | (go_at_call 30; refine hC.mono ?_; clear hC x0 x1 x2 x3 x4 x5 x6 x7 x8 x9; rintro e W3 ⟨rfl, hown, hB3, hN3⟩))
        have HF : Hid (W3.ownsRow N 3 1 (.slice xa A.length xc) A.length (A.flatMap ncs) ∧ Below N w W3) := ⟨hown, hB3⟩
        clear hown hB3 hN3
        go_roundg (calls.length - (n + 1))
        case measure => omega
        case rel => exact ⟨n + 1, by omega, by go_num, by rw [HX.out]; exact HF.out.1, HF.out.2⟩
end Go.Proofs.YtihilkdokfdoeaaDoor
