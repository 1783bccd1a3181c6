/- The law BagKeeps, walked. -/
import Derived.Test.YtemmnojcickcpaaBgL
namespace Go.Proofs.Ytemmnojcickcpaa
open Go.RowKit
attribute [local go_sem ↓] Go.wp_at_zero Go.wp_at_succ

/-- Items' texts. -/
def txs (l : List It) : List (List UInt8) := l.map fun a => a.2.2.2
theorem txs_len (l : List It) : (txs l).length = l.length := by simp [txs]
theorem txs_snoc (l : List It) (a : It) : txs (l ++ [a]) = txs l ++ [a.2.2.2] := by simp [txs]
theorem txs_erase (l : List It) (j : Nat) : txs (l.eraseIdx j) = (txs l).eraseIdx j := by
  induction l generalizing j with
  | nil => rfl
  | cons a r ih =>
    cases j with
    | zero => rfl
    | succ j => show txs (a :: r.eraseIdx j) = _; exact congrArg (List.cons a.2.2.2) (ih j)
theorem txs_at {l : List It} {j : Nat} {a : It} (h : l[j]? = some a) : (txs l)[j]? = some a.2.2.2 := by simp [txs, h]
theorem take_erase {α : Type} {l : List α} {m j : Nat} {t : α} (h : l[m]? = some t) : (l.take (m + 1)).eraseIdx j = (l.take m).eraseIdx j ++ if m = j then [] else [t] := by
  rw [take_snoc h]
  have hm : m < l.length := (List.getElem?_eq_some_iff.1 h).1
  have hl : (l.take m).length = m := by rw [List.length_take]; omega
  rcases Nat.lt_trichotomy j m with h1 | h1 | h1
  · rw [List.eraseIdx_append_of_lt_length (by omega), if_neg (by omega)]
  · subst h1
    rw [List.eraseIdx_append_of_length_le (by omega), hl, if_pos rfl, Nat.sub_self, List.eraseIdx_of_length_le (l := l.take j) (by omega)]
    rfl
  · rw [List.eraseIdx_append_of_length_le (by omega), hl, if_neg (by omega), List.eraseIdx_of_length_le (l := l.take m) (by omega), List.eraseIdx_of_length_le (by simp; omega)]
theorem putE_text (t : List UInt8) (n : Nat) (hn : n < 4096) : putE (0, 0, 0, t) n = if 1048576 < t.length then 2 else 0 := by
  unfold putE
  rw [if_neg (by simp; decide)]
  by_cases h : 1048576 < t.length
  · rw [if_pos h, if_pos h]
  · rw [if_neg h, if_neg h, if_neg (by omega)]
theorem Put_long {base : Nat} {w : World} {B : Nat} {v : Value} {l : List It} (h : BagAt 70 31 base w B v l 0) (t : List UInt8) (hl : l.length < 4096) (ht : 1048576 < t.length) :
    Calls Try.prog 19 #[.pointer (some ⟨B, 0, none⟩), .agg #[.int .i64 0, .int .i64 0, .int .i64 0, .string (bs t)]] w fun e W' => e = .returned (.int .i64 2) ∧ ∃ v', BagAt 70 31 base W' B v' l 0 ∧ Moved B v v' w W' := by
  have h := Put_any h (by decide) 0 0 0 t
  have h0 : putE (0, 0, 0, t) l.length = 2 := by rw [putE_text t _ hl, if_pos ht]
  have e1 : putL (0, 0, 0, t) l = l := if_neg (by rw [h0]; decide)
  have e2 : putD (0, 0, 0, t) l 0 = 0 := if_neg (by rw [h0]; decide)
  rw [e1, e2, h0] at h
  exact h

set_option maxRecDepth 20000 in
set_option maxHeartbeats 8000000 in
theorem keeps_any (ts : List (List UInt8)) (ns : List Int) (va vb : Value) (w : World) (hs : Sl w va ts) (hi : Il w vb ns) : Calls Try.prog 4 #[va, vb] w fun e W' => e = .returned (.bool true) ∧ Below w.heap.size w W' := by
  obtain ⟨a0, c0, rfl⟩ := hs.slice
  obtain ⟨a1, c1, rfl⟩ := hi.slice
  have hN := New_any w
  by_cases hbig : 300 < ts.length ∨ 300 < ns.length
  · have hc : decide ((300 : Int) < ts.length) = true ∨ decide ((300 : Int) < ts.length) = false ∧ decide ((300 : Int) < ns.length) = true := by
      by_cases h : 300 < ts.length
      · left; simp; omega
      · right; constructor
        · simp; omega
        · simp; omega
    clear hbig
    rcases hc with h1 | ⟨h1, h2⟩
    all_goals
      go_enter Try.func4, Try.ntmps4
      go_wp2_with (first
        | (go_at_call 9; refine hN.mono ?_; rintro e w1 ⟨rfl, rfl⟩)
        | (go_at_call 10; refine (three_any _).mono ?_; rintro e wz ⟨rfl, h9⟩))
      go_ret
      exact ⟨rfl, ((Below.refl _ w).alloc (Nat.le_refl _) _).trans (h9.mono (by simp))⟩
  have hq1 : decide ((300 : Int) < ts.length) = false := by simp; omega
  have hq2 : decide ((300 : Int) < ns.length) = false := by simp; omega
  have hts : ts.length ≤ 300 := by omega
  have hns : ns.length ≤ 300 := by omega
  clear hbig
  obtain ⟨i0, hi0, hz0, hz1, hz2⟩ := info_parts Try.info9
  go_enter Try.func4, Try.ntmps4
  go_wp2_with (go_at_call 9; refine hN.mono ?_; rintro e w1 ⟨rfl, rfl⟩)
  have h0 := BagAt.new w w.heap.size (Nat.le_refl _)
  have hB0 : Below w.heap.size w (w.alloc (.cells #[.slice none 0 0, .int .i64 0] 70)) := (Below.refl _ w).alloc (Nat.le_refl _) _
  obtain ⟨W1, hW1⟩ : ∃ W, w.alloc (.cells #[.slice none 0 0, .int .i64 0] 70) = W := ⟨_, rfl⟩
  rw [hW1] at h0 hB0 ⊢
  obtain ⟨B, hB⟩ : ∃ B, w.heap.size = B := ⟨_, rfl⟩
  have HB : Hid (w.heap.size = B) := hB
  have hwB : w.heap.size ≤ B := by omega
  rw [hB] at h0 hB0
  rw [show (⟨w.heap.size, 0, none⟩ : Addr) = ⟨B, 0, none⟩ by rw [hB]]
  clear hW1 hN hB
  have hK0 := Kp.new h0 hB0
  clear h0 hB0
  go_loopg [6, 40] ts.length (fun gk p i wr => ∃ (k : Nat) (v : Value) (l : List It), k + gk = ts.length ∧ i = .int .i64 k ∧ Kp w B B v l p (txs l) wr ∧ Hid (l.length ≤ k))
  case atStart => exact ⟨0, _, [], by omega, rfl, hK0, Nat.le_refl _⟩
  case round =>
    obtain ⟨k, v, l, hk, rfl, hK, HL⟩ := hrel
    clear hK0
    by_cases hlt : k < ts.length
    · obtain ⟨t, ht⟩ : ∃ t, ts[k]? = some t := ⟨_, List.getElem?_eq_getElem hlt⟩
      obtain ⟨b, o, rfl, hbl, x0⟩ := (hs.below hK.bel hwB).at ht
      have k0 : (0 : Int) ≤ (k : Int) := by omega
      have k1 : (k : Int) < (ts.length : Int) := by omega
      have hll : l.length < 4096 := by have := HL.out; omega
      clear ht
      by_cases h5 : 1048576 < t.length
      · have hP := Put_long hK.bag t hll h5
        clear h5
        go_wp2_with (go_at_call 19; refine hP.mono ?_; rintro e w2 ⟨rfl, v2, h2, hm2⟩)
        go_roundg (ts.length - (k + 1))
        case measure => omega
        case rel => exact ⟨k + 1, v2, l, by omega, by go_num, hK.moved hm2 h2, Nat.le_succ_of_le HL.out⟩
      · have hP := Put_ok hK.bag (by decide) 0 0 0 t (by rw [putE_text t _ hll, if_neg h5])
        have hml : (txs l).length + 1 ≤ maxLen := by rw [txs_len]; unfold maxLen; omega
        have hkb : ((txs l).length + 1) * 16 ≤ 140737488355328 := by rw [txs_len]; omega
        clear h5
        go_wp2_with (first
          | (go_at_call 19; refine hP.mono ?_; rintro e w2 ⟨rfl, v2, h2, hm2⟩; have hK2 := hK.moved hm2 h2; have hb3 : Below w2.heap.size w2 (w2.alloc (.cells #[.string (bs t)] 9)) := (Below.refl _ _).alloc (Nat.le_refl _) _; have hK3 := hK2.next hb3)
          | (at_builtin; refine wpList_append_lies _ rfl _ _ 47 rfl B 9 i0 (.string ⟨#[]⟩) 1 16 Try.underlying47 hi0 hz0 hz1 hz2 rfl (by decide) u6 (txs l).length (scs (txs l)) rfl hK3.left ⟨w2.heap.size, 0, none⟩ 1 1 [.string (bs t)] rfl rfl (World.news_of_block (heap_alloc_new _ _)) (by simp [Value.oneCell']) (by decide) hml hkb hK3.le _ rfl ?_; intro g cap w3 hown hgrow hat hlt3))
        go_roundg (ts.length - (k + 1))
        case measure => omega
        case rel => exact ⟨k + 1, v2, _, by omega, by go_num, by rw [txs_snoc]; exact hK3.grown hgrow hown hat, (by show (l ++ _).length ≤ k + 1; have := HL.out; simp; omega)⟩
    · have hkl : k = ts.length := by omega
      subst hkl
      clear hlt hk
      have HL2 : Hid (l.length ≤ 300) := Nat.le_trans HL.out hts
      clear HL
      go_wp2_with fail
      go_loopg [6, 56] ns.length (fun gk p i wr => ∃ (k : Nat) (v : Value) (l : List It), k + gk = ns.length ∧ i = .int .i64 k ∧ Kp w B B v l p (txs l) wr ∧ Hid (l.length ≤ 300))
      case atStart => exact ⟨0, _, _, by omega, rfl, hK, HL2⟩
      case round =>
        clear hK HL2
        obtain ⟨k, v, l, hk, rfl, hK, HL⟩ := hrel
        obtain ⟨pa, pc, hpv⟩ := owns_slice hK.left
        rw [txs_len] at hpv
        subst hpv
        have hl3 : l.length ≤ 300 := HL.out
        by_cases hlt : k < ns.length
        · obtain ⟨n, hn⟩ : ∃ n, ns[k]? = some n := ⟨_, List.getElem?_eq_getElem hlt⟩
          obtain ⟨b, o, rfl, hbl, x0⟩ := (hi.below hK.bel hwB).at hn
          have k0 : (0 : Int) ≤ (k : Int) := by omega
          have k1 : (k : Int) < (ns.length : Int) := by omega
          clear hn
          by_cases hc : n < 0 ∨ (l.length : Int) ≤ n
          · have hP := Pick_no hK.bag n hc
            have hc2 : n < 0 ∨ 0 ≤ n ∧ (l.length : Int) ≤ n := by omega
            clear hc
            rcases hc2 with hc | ⟨hc, hc3⟩
            all_goals
              go_wp2_with (go_at_call 20; refine hP.mono ?_; rintro e w2 ⟨rfl, hb2⟩)
              go_roundg (ns.length - (k + 1))
              case measure => omega
              case rel => exact ⟨k + 1, v, l, by omega, by go_num, hK.next (hb2.alloc hb2.size _), HL⟩
          · obtain ⟨j, rfl⟩ := Int.eq_ofNat_of_zero_le (show 0 ≤ n by omega)
            have hjl : j < l.length := by omega
            obtain ⟨⟨b0, b1, b2, b3⟩, ha⟩ : ∃ a, l[j]? = some a := ⟨_, List.getElem?_eq_getElem hjl⟩
            have hP := Pick_ok hK.bag (by omega) j b0 b1 b2 b3 ha
            have j0 : (0 : Int) ≤ (j : Int) := by omega
            have j1 : (j : Int) < (l.length : Int) := by omega
            have HA : Hid ((txs l)[j]? = some b3) := txs_at ha
            clear hc ha
            go_wp2_with (go_at_call 20; refine hP.mono ?_; rintro e w2 ⟨rfl, v2, h2, hm2⟩)
            have hK2 := hK.moved hm2 h2
            have hb3 : Below w2.heap.size w2 (w2.alloc (.cells #[.int .i64 b0, .int .i64 b1, .int .i64 b2, .string (bs b3)] 31)) := (Below.refl _ _).alloc (Nat.le_refl _) _
            have hx3 := heap_alloc_new w2 (.cells #[.int .i64 b0, .int .i64 b1, .int .i64 b2, .string (bs b3)] 31)
            have hK3 := hK2.next hb3
            obtain ⟨W3, hW3⟩ : ∃ W, w2.alloc (.cells #[.int .i64 b0, .int .i64 b1, .int .i64 b2, .string (bs b3)] 31) = W := ⟨_, rfl⟩
            rw [hW3] at hx3 hK3 ⊢
            have y3 := cellB hx3 3 (.string (bs b3)) rfl
            obtain ⟨g, cap, hgv, hg1, hg2, hg3⟩ := texts_at hK3.left HA.out
            rw [txs_len] at hgv
            injection hgv with e1 _ e2
            subst e1 e2
            obtain ⟨X, hX⟩ : ∃ X, w2.heap.size = X := ⟨_, rfl⟩
            rw [hX] at y3 ⊢
            clear hX hW3 hx3 hb3 hK2 h2 hm2 hP hK hbl x0 hg1
            go_region_held3 (fun w' => w'.cell? ⟨X, 3, none⟩ = some (.string (bs b3)) ∧ w'.cell? ⟨g, j, none⟩ = some (.string (bs b3))) (go_keep) (fail)
            have hK4 := hK3.next (below_drew (Below.refl _ W3))
            obtain ⟨W4, hW4⟩ : ∃ W, W3.drew = W := ⟨_, rfl⟩
            rw [hW4] at hK4 ⊢
            clear hW4 hK3 y3 hg2 hg3
            go_wp2_with fail
            go_loopg [13, 88] l.length (fun gq q i wr => ∃ m : Nat, m + gq = l.length ∧ i = .int .i64 m ∧ wr.ownsRow W4.heap.size 9 1 q (((txs l).take m).eraseIdx j).length (scs (((txs l).take m).eraseIdx j)) ∧ Below W4.heap.size W4 wr)
            case atStart => exact ⟨0, by omega, rfl, World.ownsRow_nil _ _ _ _, Below.refl _ _⟩
            case round =>
              obtain ⟨m, hm, rfl, hown, hbw⟩ := hrel
              by_cases hml : m < l.length
              · obtain ⟨t, ht⟩ : ∃ t, (txs l)[m]? = some t := ⟨_, List.getElem?_eq_getElem (by rw [txs_len]; exact hml)⟩
                obtain ⟨g', cap', hgv, hg1, hg2, hg3⟩ := texts_at (hK4.next hbw).left ht
                rw [txs_len] at hgv
                injection hgv with e1 _ e2
                injection e1 with e1
                injection e1 with e1
                subst e1 e2
                have HT : Hid (((txs l).take (m + 1)).eraseIdx j = ((txs l).take m).eraseIdx j ++ if m = j then [] else [t]) := take_erase ht
                have m0 : (0 : Int) ≤ (m : Int) := by omega
                have m1 : (m : Int) < (l.length : Int) := by omega
                have hle : (((txs l).take m).eraseIdx j).length ≤ m := by
                  have h1 := List.length_eraseIdx_le ((txs l).take m) j
                  rw [List.length_take] at h1
                  omega
                obtain ⟨P, hP⟩ : ∃ P, ((txs l).take m).eraseIdx j = P := ⟨_, rfl⟩
                rw [hP] at HT hown hle
                clear hP ht hg1
                by_cases hmj : m = j
                · subst hmj
                  have HT2 : Hid (((txs l).take (m + 1)).eraseIdx m = P) := by show _ = _; rw [HT.out, if_pos rfl, List.append_nil]
                  clear HT
                  go_wp2
                  go_roundg (l.length - (m + 1))
                  case measure => omega
                  case rel => exact ⟨m + 1, by omega, by go_num, by rw [HT2.out]; exact hown, hbw⟩
                · have HT2 : Hid (((txs l).take (m + 1)).eraseIdx j = P ++ [t]) := by show _ = _; rw [HT.out, if_neg hmj]
                  have hq : ((m : Int) == (j : Int)) = false := by simp; omega
                  have hmx : P.length + 1 ≤ maxLen := by unfold maxLen; omega
                  have hkb : (P.length + 1) * 16 ≤ 140737488355328 := by omega
                  clear HT hmj
                  go_wp2_with (at_builtin; refine wpList_append_own _ rfl _ _ 47 rfl W4.heap.size 9 i0 (.string ⟨#[]⟩) 1 16 Try.underlying47 hi0 hz0 hz1 hz2 rfl (by decide) u13 P.length (scs P) rfl (hown.alloc _) _ 1 1 [.string (bs t)] rfl rfl (World.news_of_block (heap_alloc_new _ _)) (by simp [Value.oneCell']) hmx hkb (by have := hbw.size; simp; omega) ?_; intro v' w' h1 h2 _)
                  go_roundg (l.length - (m + 1))
                  case measure => omega
                  case rel => exact ⟨m + 1, by omega, by go_num, by rw [HT2.out, scs_snoc, List.length_append]; exact h1, (hbw.alloc hbw.size _).grown h2 (by have := hbw.size; simp; omega) (fun q hq => (hown.lt q hq).1)⟩
              · have hml2 : m = l.length := by omega
                subst hml2
                have hown2 : wr.ownsRow W4.heap.size 9 1 u13 (txs (l.eraseIdx j)).length (scs (txs (l.eraseIdx j))) := by
                  rw [txs_erase]
                  rw [List.take_of_length_le (by rw [txs_len]; exact Nat.le_refl _)] at hown
                  exact hown
                have hK5 := hK4.other hbw hown2
                have HL5 : Hid ((l.eraseIdx j).length ≤ 300) := by show _ ≤ 300; have := List.length_eraseIdx_le l j; omega
                clear hown hown2 hK4 hbw
                go_wp2_with fail
                go_roundg (ns.length - (k + 1))
                case measure => omega
                case rel => exact ⟨k + 1, v2, _, by omega, by go_num, hK5, HL5⟩
        · have hkl : k = ns.length := by omega
          subst hkl
          clear hlt hk
          go_wp2_with fail
          go_loopg [105] l.length (fun gq i wr => ∃ m : Nat, m + gq = l.length ∧ i = .int .i64 m ∧ Kp w B B v l (.slice pa l.length pc) (txs l) wr)
          case atStart => exact ⟨0, by omega, rfl, hK⟩
          case round =>
            clear hK
            obtain ⟨m, hm, rfl, hK⟩ := hrel
            by_cases hml : m < l.length
            · obtain ⟨⟨b0, b1, b2, b3⟩, ha⟩ : ∃ a, l[m]? = some a := ⟨_, List.getElem?_eq_getElem hml⟩
              obtain ⟨g, cap, hgv, hg1, hg2, hg3⟩ := texts_at hK.left (txs_at ha)
              rw [txs_len] at hgv
              injection hgv with e1 _ e2
              subst e1 e2
              have m0 : (0 : Int) ≤ (m : Int) := by omega
              have m1 : (m : Int) < (l.length : Int) := by omega
              have hS := See_ok hK.bag m b0 b1 b2 b3 ha
              simp only at hg3
              clear ha hg1
              go_wp2_with (go_at_call 12; refine hS.mono ?_; rintro e w2 ⟨rfl, hb2⟩)
              go_roundg (l.length - (m + 1))
              case measure => omega
              case rel => exact ⟨m + 1, by omega, by go_num, hK.next (hb2.alloc hb2.size _)⟩
            · have hml2 : m = l.length := by omega
              subst hml2
              have hLn := Len_any hK.bag
              go_wp2_with (first
                | (go_at_call 16; refine hLn.mono ?_; rintro e w3 ⟨rfl, h3⟩; subst h3)
                | (go_at_call 10; refine (three_any _).mono ?_; rintro e wz ⟨rfl, h9⟩))
              go_ret
              exact ⟨rfl, by rw [HB.out]; exact hK.bel.trans (h9.mono hK.le)⟩
end Go.Proofs.Ytemmnojcickcpaa
