/- The law BagBetween, walked. -/
import Derived.Test.YtemmnojcickcpaaBgM
import Derived.Test.YtemmnojcickcpaaBgS
namespace Go.Proofs.Ytemmnojcickcpaa
open Go.RowKit
attribute [local go_sem ↓] Go.wp_at_zero Go.wp_at_succ

/-- Does an item go from f to t? -/
def goB (f t : Int) (a : It) : Bool := decide (a.1 = f) && decide (a.2.1 = t)
theorem goes_go {f t : Int} {l : List It} {i : Nat} {a : It} (h : l[i]? = some a) : goesB f t l i = goB f t a := by unfold goesB; rw [h]; rfl
theorem first_place {f t : Int} {l : List It} {a : It} {r : List It} (h : l.filter (goB f t) = a :: r) : ∃ j ps, betwTo f t l l.length = j :: ps ∧ l[j]? = some a ∧ (l.eraseIdx j).filter (goB f t) = r := by
  have hmem : a ∈ l ∧ goB f t a = true := by
    have : a ∈ l.filter (goB f t) := by rw [h]; exact List.mem_cons_self
    exact List.mem_filter.1 this
  obtain ⟨i, hi⟩ := List.mem_iff_getElem?.1 hmem.1
  have hil : i < l.length := (List.getElem?_eq_some_iff.1 hi).1
  have hin : i ∈ betwTo f t l l.length := List.mem_filter.2 ⟨List.mem_range.2 hil, by rw [goes_go hi]; exact hmem.2⟩
  cases hb : betwTo f t l l.length with
  | nil => rw [hb] at hin; cases hin
  | cons j ps =>
    have hfind : (List.range l.length).find? (goesB f t l) = some j := by
      rw [← List.head?_filter]
      show (betwTo f t l l.length).head? = some j
      rw [hb]; rfl
    rw [List.find?_range_eq_some] at hfind
    obtain ⟨hj1, hj2, hj3⟩ := hfind
    have hjl : j < l.length := List.mem_range.1 hj2
    obtain ⟨c, hc⟩ : ∃ c, l[j]? = some c := ⟨_, List.getElem?_eq_getElem hjl⟩
    have hsplit : l = l.take j ++ c :: l.drop (j + 1) := by
      have e : l[j] = c := by rw [List.getElem?_eq_getElem hjl] at hc; exact Option.some.inj hc
      rw [← e, ← List.drop_eq_getElem_cons hjl, List.take_append_drop]
    have htake : (l.take j).filter (goB f t) = [] := by
      rw [List.filter_eq_nil_iff]
      intro x hx
      obtain ⟨i, hi⟩ := List.mem_iff_getElem?.1 hx
      have hij : i < j := by
        have := (List.getElem?_eq_some_iff.1 hi).1
        rw [List.length_take] at this
        omega
      rw [List.getElem?_take_of_lt hij] at hi
      have := hj3 i hij
      rw [goes_go hi] at this
      simpa using this
    have hgc : goB f t c = true := by rw [← goes_go hc]; exact hj1
    rw [hsplit, List.filter_append, htake, List.nil_append, List.filter_cons_of_pos hgc] at h
    injection h with h1 h2
    refine ⟨j, ps, rfl, by rw [hc, h1], ?_⟩
    rw [List.eraseIdx_eq_take_drop_succ, List.filter_append, htake, List.nil_append]
    exact h2
theorem no_place {f t : Int} {l : List It} (h : l.filter (goB f t) = []) : betwTo f t l l.length = [] := by
  unfold betwTo
  rw [List.filter_eq_nil_iff]
  intro i hi
  have hil : i < l.length := List.mem_range.1 hi
  have hg : l[i]? = some l[i] := List.getElem?_eq_getElem hil
  rw [goes_go hg]
  exact List.filter_eq_nil_iff.1 h _ (List.getElem_mem hil)
theorem Put_bad {base : Nat} {w : World} {B : Nat} {v : Value} {l : List It} (h : BagAt 70 31 base w B v l 0) (a0 a1 a2 : Int) (a3 : List UInt8) (hl : l.length < 4096) (h0 : putE (a0, a1, a2, a3) l.length ≠ 0) :
    Calls Try.prog 19 #[.pointer (some ⟨B, 0, none⟩), .agg #[.int .i64 a0, .int .i64 a1, .int .i64 a2, .string (bs a3)]] w fun e W' => e = .returned (.int .i64 (putE (a0, a1, a2, a3) l.length)) ∧ ∃ v', BagAt 70 31 base W' B v' l 0 ∧ Moved B v v' w W' := by
  have h := Put_any h (by decide) a0 a1 a2 a3
  have h5 : putE (a0, a1, a2, a3) l.length ≠ 5 := by
    rcases putE_cases (a0, a1, a2, a3) l.length with ⟨e, _⟩ | ⟨_, _, _, ⟨e, _⟩ | ⟨_, ⟨_, e⟩ | ⟨e, _⟩⟩⟩
    · rw [e]; decide
    · rw [e]; decide
    · omega
    · rw [e]; decide
  have e1 : putL (a0, a1, a2, a3) l = l := if_neg h0
  have e2 : putD (a0, a1, a2, a3) l 0 = 0 := if_neg h5
  rw [e1, e2] at h
  exact h
theorem filter_snoc (f t : Int) (l : List It) (a : It) : (l ++ [a]).filter (goB f t) = l.filter (goB f t) ++ if goB f t a = true then [a] else [] := by
  rw [List.filter_append]
  by_cases h : goB f t a = true <;> simp [h]

set_option maxRecDepth 20000 in
set_option maxHeartbeats 8000000 in
theorem between_any (f t : Int) (sl : List Stp) (va : Value) (w : World) (hs : Stl w va sl) : Calls Try.prog 7 #[.int .i64 f, .int .i64 t, va] w fun e W' => e = .returned (.bool true) ∧ Below w.heap.size w W' := by
  obtain ⟨a0, c0, rfl⟩ := hs.slice
  have hN := New_any w
  by_cases hbig : 200 < sl.length
  · have h1 : decide ((200 : Int) < sl.length) = true := by simp; omega
    clear hbig
    go_enter Try.func7, Try.ntmps7
    go_wp2_with (first
      | (go_at_call 9; refine hN.mono ?_; rintro e w1 ⟨rfl, rfl⟩)
      | (go_at_call 10; refine (three_any _).mono ?_; rintro e wz ⟨rfl, h9⟩))
    go_ret
    exact ⟨rfl, ((Below.refl _ w).alloc (Nat.le_refl _) _).trans (h9.mono (by simp))⟩
  have hq1 : decide ((200 : Int) < sl.length) = false := by simp; omega
  have hsl : sl.length ≤ 200 := by omega
  clear hbig
  obtain ⟨i0, hi0, hz0, hz1, hz2⟩ := info_parts Try.info9
  go_enter Try.func7, Try.ntmps7
  go_wp2_with (go_at_call 9; refine hN.mono ?_; rintro e w1 ⟨rfl, rfl⟩)
  have h0 := BagAt.new w w.heap.size (Nat.le_refl _)
  have hB0 : Below w.heap.size w (w.alloc (.cells #[.slice none 0 0, .int .i64 0] 70)) := (Below.refl _ w).alloc (Nat.le_refl _) _
  obtain ⟨W1, hW1⟩ : ∃ W, w.alloc (.cells #[.slice none 0 0, .int .i64 0] 70) = W := ⟨_, rfl⟩
  rw [hW1] at h0 hB0 ⊢
  obtain ⟨B, hB⟩ : ∃ B, w.heap.size = B := ⟨_, rfl⟩
  have HB : Hid (w.heap.size = B) := hB
  have hwB : w.heap.size ≤ B := by omega
  rw [hB] at h0 hB0
  rw [show (⟨w.heap.size, 0, none⟩ : Addr) = ⟨B, 0, none⟩ by rw [hB]]
  clear hW1 hN hB
  have hK0 := Kp.new h0 hB0
  clear h0 hB0
  go_loopg [8, 31] sl.length (fun gk p i wr => ∃ (k : Nat) (v : Value) (l : List It), k + gk = sl.length ∧ i = .int .i64 k ∧ Kp w B B v l p (txs (l.filter (goB f t))) wr ∧ Hid (l.length ≤ k))
  case atStart => exact ⟨0, _, [], by omega, rfl, hK0, Nat.le_refl _⟩
  case round =>
    obtain ⟨k, v, l, hk, rfl, hK, HL⟩ := hrel
    clear hK0
    by_cases hlt : k < sl.length
    · obtain ⟨⟨q0, q1, q2, q3, q4, q5⟩, hq⟩ : ∃ s, sl[k]? = some s := ⟨_, List.getElem?_eq_getElem hlt⟩
      obtain ⟨b, o, rfl, hbl, x0, x1, x2, x3, x4, x5⟩ := (hs.below hK.bel hwB).at hq
      have k0 : (0 : Int) ≤ (k : Int) := by omega
      have k1 : (k : Int) < (sl.length : Int) := by omega
      have hll : l.length < 4096 := by have := HL.out; omega
      simp only at x0 x1 x2 x3 x4 x5
      clear hq
      go_upto_region 8 with fail
      have hb2 : Below wr.heap.size wr (wr.alloc (.cells #[.int .i64 q0, .int .i64 q1, .int .i64 q2, .int .i64 q3, .int .i64 q4, .string (bs q5)] 33)) := (Below.refl _ _).alloc (Nat.le_refl _) _
      have y2 := heap_alloc_new wr (.cells #[.int .i64 q0, .int .i64 q1, .int .i64 q2, .int .i64 q3, .int .i64 q4, .string (bs q5)] 33)
      have hK2 := hK.next hb2
      have hYB : wr.heap.size ≠ B := by have := hK.bag.lt; omega
      have hYo : v.ownBlock ≠ some wr.heap.size := fun e => by have := (hK.bag.own.lt _ e).2; omega
      have hYl : u8.ownBlock ≠ some wr.heap.size := fun e => by have := (hK.left.lt _ e).2; omega
      obtain ⟨W2, hW2⟩ : ∃ W, (wr.alloc (.cells #[.int .i64 q0, .int .i64 q1, .int .i64 q2, .int .i64 q3, .int .i64 q4, .string (bs q5)] 33)) = W := ⟨_, rfl⟩
      rw [hW2] at y2 hK2 ⊢
      obtain ⟨Y, hY⟩ : ∃ Y, wr.heap.size = Y := ⟨_, rfl⟩
      rw [hY] at y2 hYB hYo hYl ⊢
      have hYs : Y < W2.heap.size := (Array.getElem?_eq_some_iff.1 y2).1
      have z2 := cellB y2 2 (.int .i64 q2) rfl
      have z3 := cellB y2 3 (.int .i64 q3) rfl
      have z4 := cellB y2 4 (.int .i64 q4) rfl
      have z5 := cellB y2 5 (.string (bs q5)) rfl
      clear x0 x1 x2 x3 x4 x5 hbl hb2 hW2 hY hK
      by_cases hp : putE (q2, q3, q4, q5) l.length = 0
      · have hP := Put_ok hK2.bag (by decide) q2 q3 q4 q5 hp
        have HL2 : Hid ((l ++ [(q2, q3, q4, q5)]).length ≤ k + 1) := by show _ ≤ k + 1; have := HL.out; simp; omega
        have HF : Hid ((l ++ [(q2, q3, q4, q5)]).filter (goB f t) = l.filter (goB f t) ++ if goB f t (q2, q3, q4, q5) = true then [(q2, q3, q4, q5)] else []) := filter_snoc f t l _
        have hfl : (l.filter (goB f t)).length ≤ 200 := by
          have h1 := List.length_filter_le (goB f t) l
          have := HL.out
          omega
        obtain ⟨F, hF⟩ : ∃ F, l.filter (goB f t) = F := ⟨_, rfl⟩
        rw [hF] at HF hfl hK2
        clear hp hF HL
        go_wp2_with fail
        refine hP.mono ?_
        rintro e w3 ⟨rfl, v3, h3, hm3⟩
        have hK3 := hK2.moved hm3 h3
        have y3 := hm3.far hYs hYB hYo y2
        have z2' := cellB y3 2 (.int .i64 q2) rfl
        have z3' := cellB y3 3 (.int .i64 q3) rfl
        have z5' := cellB y3 5 (.string (bs q5)) rfl
        clear hP h3 hm3 hK2 z2 z3 z4 z5 y2 hYs
        by_cases hc : q2 = f ∧ q3 = t
        · obtain ⟨e1, e2⟩ := hc
          have HF2 : Hid ((l ++ [(q2, q3, q4, q5)]).filter (goB f t) = F ++ [(q2, q3, q4, q5)]) := by show _ = _; rw [HF.out, if_pos (by simp [goB, e1, e2])]
          have hq1' : (q2 == f) = true := by simp [e1]
          have hq2' : (q3 == t) = true := by simp [e2]
          have hml : (txs F).length + 1 ≤ maxLen := by rw [txs_len]; unfold maxLen; omega
          have hkb : ((txs F).length + 1) * 16 ≤ 140737488355328 := by rw [txs_len]; omega
          have hb4 : Below w3.heap.size w3 (w3.alloc (.cells #[.string (bs q5)] 9)) := (Below.refl _ _).alloc (Nat.le_refl _) _
          have hK4 := hK3.next hb4
          clear HF e1 e2
          go_wp2_with (at_builtin; refine wpList_append_lies _ rfl _ _ 47 rfl B 9 i0 (.string ⟨#[]⟩) 1 16 Try.underlying47 hi0 hz0 hz1 hz2 rfl (by decide) u8 (txs F).length (scs (txs F)) rfl hK4.left ⟨w3.heap.size, 0, none⟩ 1 1 [.string (bs q5)] rfl rfl (World.news_of_block (heap_alloc_new _ _)) (by simp [Value.oneCell']) (by decide) hml hkb hK4.le _ rfl ?_; intro g cap w5 hown hgrow hat hlt3)
          go_roundg (sl.length - (k + 1))
          case measure => omega
          case rel => exact ⟨k + 1, v3, _, by omega, by go_num, by rw [HF2.out, txs_snoc]; exact hK4.grown hgrow hown hat, HL2⟩
        · have HF2 : Hid ((l ++ [(q2, q3, q4, q5)]).filter (goB f t) = F) := by show _ = _; rw [HF.out, if_neg (by simpa [goB] using hc), List.append_nil]
          have hcc : q2 ≠ f ∨ q2 = f ∧ q3 ≠ t := by
            by_cases e1 : q2 = f
            · exact .inr ⟨e1, fun e2 => hc ⟨e1, e2⟩⟩
            · exact .inl e1
          clear hc HF
          rcases hcc with e1 | ⟨e1, e2⟩
          · have hq1' : (q2 == f) = false := by simp [e1]
            clear e1
            go_wp2
            go_roundg (sl.length - (k + 1))
            case measure => omega
            case rel => exact ⟨k + 1, v3, _, by omega, by go_num, by rw [HF2.out]; exact hK3, HL2⟩
          · have hq1' : (q2 == f) = true := by simp [e1]
            have hq2' : (q3 == t) = false := by simp [e2]
            clear e1 e2
            go_wp2
            go_roundg (sl.length - (k + 1))
            case measure => omega
            case rel => exact ⟨k + 1, v3, _, by omega, by go_num, by rw [HF2.out]; exact hK3, HL2⟩
      · have hP := Put_bad hK2.bag q2 q3 q4 q5 hll hp
        obtain ⟨E, hE⟩ : ∃ E, putE (q2, q3, q4, q5) l.length = E := ⟨_, rfl⟩
        rw [hE] at hP hp
        have hE0 : (E == 0) = false := by simp [hp]
        clear hp hE
        go_wp2_with (go_at_call 19; refine hP.mono ?_; rintro e w3 ⟨rfl, v3, h3, hm3⟩)
        go_roundg (sl.length - (k + 1))
        case measure => omega
        case rel => exact ⟨k + 1, v3, l, by omega, by go_num, hK2.moved hm3 h3, Nat.le_succ_of_le HL.out⟩
    · have hkl : k = sl.length := by omega
      subst hkl
      clear hlt hk
      have HL2 : Hid (l.length ≤ 200) := Nat.le_trans HL.out hsl
      obtain ⟨T, hT⟩ : ∃ T, txs (l.filter (goB f t)) = T := ⟨_, rfl⟩
      rw [hT] at hK
      obtain ⟨pa, pc, rfl⟩ := owns_slice hK.left
      have HT : Hid (T.drop 0 = txs (l.filter (goB f t))) := hT.symm
      have hTl : T.length ≤ 200 := by
        have h1 := List.length_filter_le (goB f t) l
        rw [← hT, txs_len]
        have := HL2.out
        omega
      clear HL hT
      go_wp2_with fail
      go_loopg [63] T.length (fun gk i wr => ∃ (m : Nat) (v : Value) (l : List It), m + gk = T.length ∧ i = .int .i64 m ∧ Kp w B B v l (.slice pa T.length pc) T wr ∧ Hid (T.drop m = txs (l.filter (goB f t))) ∧ Hid (l.length ≤ 200))
      case atStart => exact ⟨0, _, _, by omega, rfl, hK, HT, HL2⟩
      case round =>
        clear hK HT HL2
        obtain ⟨m, v, l, hm, rfl, hK, HT, HL⟩ := hrel
        have hBt := Between_any hK.bag (by have := HL.out; omega) f t
        by_cases hml : m < T.length
        · obtain ⟨s, hsm⟩ : ∃ s, T[m]? = some s := ⟨_, List.getElem?_eq_getElem hml⟩
          obtain ⟨g, cap, hgv, hg1, hg2, hg3⟩ := texts_at hK.left hsm
          injection hgv with e1 _ e2
          subst e1 e2
          obtain ⟨⟨b0, b1, b2, b3⟩, r, hfr⟩ : ∃ a r, l.filter (goB f t) = a :: r := by
            cases hq : l.filter (goB f t) with
            | nil =>
              have := HT.out
              rw [hq] at this
              have h2 := congrArg List.length this
              simp [txs] at h2
              omega
            | cons a r => exact ⟨a, r, rfl⟩
          obtain ⟨j, ps, hb, hj, hr⟩ := first_place hfr
          have hgo : goB f t (b0, b1, b2, b3) = true := by
            have h1 : (b0, b1, b2, b3) ∈ l.filter (goB f t) := by rw [hfr]; exact List.mem_cons_self
            exact (List.mem_filter.1 h1).2
          have hff : b0 = f ∧ b1 = t := by simpa [goB] using hgo
          have hsm2 : s = b3 := by
            have h1 := HT.out
            rw [hfr, List.drop_eq_getElem_cons hml] at h1
            have h2 : T[m] = b3 := (List.cons.inj h1).1
            rw [List.getElem?_eq_getElem hml] at hsm
            exact (Option.some.inj hsm).symm.trans h2
          have HT2 : Hid (T.drop (m + 1) = txs ((l.eraseIdx j).filter (goB f t))) := by
            show _ = _
            have h1 := HT.out
            rw [hfr, List.drop_eq_getElem_cons hml] at h1
            rw [hr]
            exact (List.cons.inj h1).2
          have HL2 : Hid ((l.eraseIdx j).length ≤ 200) := by show _ ≤ 200; have := List.length_eraseIdx_le l j; have := HL.out; omega
          obtain ⟨rfl, rfl⟩ := hff
          subst hsm2
          have m0 : (0 : Int) ≤ (m : Int) := by omega
          have m1 : (m : Int) < (T.length : Int) := by omega
          have hPk : ∀ W, Below wr.heap.size wr W → Calls Try.prog 20 #[.pointer (some ⟨B, 0, none⟩), .int .i64 j] W fun e W' => e = .returned (.tuple #[.agg #[.int .i64 b0, .int .i64 b1, .int .i64 b2, .string (bs s)], .int .i64 0]) ∧ ∃ v', BagAt 70 31 B W' B v' (l.eraseIdx j) 0 ∧ Moved B v v' W W' := fun W hW => Pick_ok (hK.bag.next hW) (by have := HL.out; omega) j b0 b1 b2 s hj
          rw [hb] at hBt
          clear hgo hfr hsm hj hr hb HT hg1 HL
          go_wp2_with fail
          refine hBt.mono ?_
          rintro e w2 ⟨u, rfl, hu, hb2⟩
          obtain ⟨gu, cu, rfl, hu1, hu2⟩ := hu.form (by simp)
          have hu3 : w2.cell? ⟨gu, 0, none⟩ = some (.int .i64 j) := (hu.cellAt 0 (by simp)).trans (by simp [ncs])
          have hK2 := hK.next hb2
          clear hBt hu hg2 hg3 hu1
          go_wp2_with (go_at_call 20; refine (hPk _ hb2).mono ?_; rintro e w3 ⟨rfl, v3, h3, hm3⟩)
          go_roundg (T.length - (m + 1))
          case measure => omega
          case rel => exact ⟨m + 1, v3, _, by omega, by go_num, (hK2.moved hm3 h3).next ((Below.refl _ _).alloc (Nat.le_refl _) _), HT2, HL2⟩
        · have hml2 : m = T.length := by omega
          subst hml2
          have hnil : l.filter (goB f t) = [] := by
            have h1 := HT.out
            rw [List.drop_length] at h1
            have h2 := congrArg List.length h1
            rw [txs_len] at h2
            exact List.length_eq_zero_iff.1 h2.symm
          rw [no_place hnil] at hBt
          clear hnil HT
          go_wp2_with fail
          refine hBt.mono ?_
          rintro e w2 ⟨u, rfl, hu, hb2⟩
          obtain ⟨ua, uc, rfl⟩ := owns_slice hu
          have hK2 := hK.next hb2
          simp only [List.length_nil]
          clear hBt hu
          go_wp2_with (go_at_call 10; refine (three_any _).mono ?_; rintro e wz ⟨rfl, h9⟩)
          go_ret
          exact ⟨rfl, by rw [HB.out]; exact hK2.bel.trans (h9.mono hK2.le)⟩
end Go.Proofs.Ytemmnojcickcpaa
