/- Chains: slices.Sort of few numbers, walked. -/
import Derived.Test.YtcehmaegnfelhaaChH
namespace Go.Proofs.Ytcehmaegnfelhaa
open Go.RowKit
attribute [local go_sem ↓] Go.wp_at_zero Go.wp_at_succ

/-- A block whose first cells are these numbers. -/
def Sc (w : World) (g : Nat) (L : List Int) : Prop := ∃ cur, w.heap[g]? = some (.cells cur 3) ∧ ∀ (i : Nat) t, L[i]? = some t → cur[i]? = some (.int .i64 t)
theorem Sc.cell {w : World} {g : Nat} {L : List Int} (h : Sc w g L) {i : Nat} {t : Int} (ht : L[i]? = some t) : w.cell? ⟨g, i, none⟩ = some (.int .i64 t) := by
  obtain ⟨cur, h1, h2⟩ := h
  exact cellB h1 i _ (h2 i t ht)
theorem Sc.frozen {w : World} {g : Nat} {L : List Int} (h : Sc w g L) (i : Nat) : w.frozen? ⟨g, i, none⟩ = false := by
  obtain ⟨cur, h1, h2⟩ := h
  exact frozenB h1 i
theorem Sc.set {w : World} {g : Nat} {L : List Int} (h : Sc w g L) (i : Nat) (x : Int) : Sc (w.setCell ⟨g, i, none⟩ (.int .i64 x)) g (L.set i x) := by
  obtain ⟨cur, h1, h2⟩ := h
  refine ⟨_, setB h1 i _, fun j t ht => ?_⟩
  rw [Array.getElem?_setIfInBounds]
  rw [List.getElem?_set] at ht
  by_cases e : i = j
  · subst e
    rw [if_pos rfl] at ht
    by_cases hi : i < L.length
    · rw [if_pos hi] at ht
      cases ht
      have := (Array.getElem?_eq_some_iff.1 (h2 i _ (List.getElem?_eq_getElem hi))).1
      rw [if_pos rfl, if_pos this]
    · rw [if_neg hi] at ht; cases ht
  · rw [if_neg e] at ht ⊢
    exact h2 j t ht
theorem Sc.next {w w' : World} {g : Nat} {L : List Int} (h : Sc w g L) (hb : w'.heap[g]? = w.heap[g]?) : Sc w' g L := by
  obtain ⟨cur, h1, h2⟩ := h
  exact ⟨cur, hb.trans h1, h2⟩
/-- Only block g was written. -/
structure Onl (B g : Nat) (w w' : World) : Prop where
  below : Below B w w'
  far : ∀ k, k ≠ g → w'.heap[k]? = w.heap[k]?
theorem Onl.refl (B g : Nat) (w : World) : Onl B g w w := ⟨Below.refl _ _, fun _ _ => rfl⟩
theorem Onl.setCell {B g : Nat} {w w' : World} (h : Onl B g w w') (hg : B ≤ g) (i : Nat) (u : Value) : Onl B g w (w'.setCell ⟨g, i, none⟩ u) :=
  ⟨h.below.setCell (p := ⟨g, i, none⟩) hg u, fun k hk => (set_far hk i u).trans (h.far k hk)⟩
theorem Onl.drewN {B g : Nat} {w w' : World} (h : Onl B g w w') (n : Nat) : Onl B g w (w'.drewN n) := ⟨below_drewN h.below n, h.far⟩
theorem Onl.drew {B g : Nat} {w w' : World} (h : Onl B g w w') : Onl B g w w'.drew := ⟨below_drew h.below, h.far⟩
theorem Onl.setCells {B g : Nat} {w w' : World} (h : Onl B g w w') (hg : B ≤ g) (o : Nat) (L : List Value) : Onl B g w (w'.setCells g o L) :=
  ⟨blk_below hg _ _ _ h.below, fun k hk => (blk_far hk L o w').trans (h.far k hk)⟩
/-- The number at place j goes down to where it belongs. -/
def insJ : Nat → List Int → List Int
  | 0, L => L
  | j + 1, L => if L.getD (j + 1) 0 < L.getD j 0 then insJ j ((L.set (j + 1) (L.getD j 0)).set j (L.getD (j + 1) 0)) else L
def insTo (L : List Int) : Nat → List Int
  | 0 => L
  | i + 1 => insJ i (insTo L i)
theorem Less_any (x y : Int) (w : World) : Calls Try.prog 61 #[.int .i64 x, .int .i64 y] w fun e W' => e = .returned (.bool (decide (x < y))) ∧ W' = w := by
  go_enter Try.func61, Try.ntmps61
  go_wp2_with (go_at_call 74; refine (isNaN_any _ _).mono ?_; rintro e w1 ⟨rfl, h9⟩; subst w1)
  go_ret
  exact ⟨rfl, rfl⟩
theorem insJ_len : ∀ (j : Nat) (L : List Int), (insJ j L).length = L.length
  | 0, _ => rfl
  | j + 1, L => by
    unfold insJ
    split
    · rw [insJ_len j]; simp
    · rfl
theorem insTo_len (L : List Int) : ∀ i, (insTo L i).length = L.length
  | 0 => rfl
  | i + 1 => by unfold insTo; rw [insJ_len, insTo_len L i]
set_option maxRecDepth 20000 in
set_option maxHeartbeats 8000000 in
theorem insertionSort_any (L : List Int) (g cap B : Nat) (hl : 0 < L.length) (hl2 : L.length ≤ 12) (w : World) (hS : Sc w g L) (hg : B ≤ g) :
    Calls Try.prog 55 #[.slice (some ⟨g, 0, none⟩) L.length cap, .int .i64 0, .int .i64 L.length] w fun e W' => e = .returned (.tuple #[]) ∧ Sc W' g (insTo L L.length) ∧ Onl B g w W' := by
  obtain ⟨n, hn⟩ : ∃ n, L.length = n := ⟨_, rfl⟩
  rw [hn] at hl hl2 ⊢
  have HN : Hid (L.length = n) := hn
  have HS0 : Hid (Sc w g L) := hS
  clear hS hn
  go_enter Try.func55, Try.ntmps55
  go_wp2_with fail
  go_loopg [6] (n - 1) (fun gk iv wr => ∃ i : Nat, i + gk = n ∧ 1 ≤ i ∧ iv = .int .i64 i ∧ Sc wr g (insTo L i) ∧ Onl B g w wr)
  case atStart => exact ⟨1, by omega, by omega, rfl, HS0.out, Onl.refl _ _ _⟩
  case round =>
    obtain ⟨i, hi, hi1, rfl, hS, hB⟩ := hrel
    clear HS0
    by_cases hlt : i < n
    · have HSt : Hid (insTo L (i + 1) = insJ i (insTo L i)) := rfl
      have hlen := insTo_len L i
      rw [HN.out] at hlen
      obtain ⟨L0, hL0⟩ : ∃ L0, insTo L i = L0 := ⟨_, rfl⟩
      rw [hL0] at HSt hS hlen
      have HSi : Hid (Sc wr g L0) := hS
      have i0 : (i : Int) < (n : Int) := by omega
      have HLn : Hid (L0.length = n) := hlen
      clear hL0 hS hlen
      go_wp2_with fail
      rename World => wq
      go_loopg [7] i (fun gj jv wr => ∃ (j : Nat) (Lc : List Int), j = gj ∧ jv = .int .i64 j ∧ j ≤ i ∧ insJ j Lc = insTo L (i + 1) ∧ Lc.length = n ∧ Sc wr g Lc ∧ Onl B g w wr)
      case atStart => exact ⟨i, L0, rfl, rfl, Nat.le_refl _, HSt.out.symm, HLn.out, HSi.out, hB⟩
      case round =>
        obtain ⟨j, Lc, hjg, rfl, hj, hins, hlc, hS, hB2⟩ := hrel
        clear HSi HSt HLn
        cases j with
        | zero =>
          have HI : Hid (Lc = insTo L (i + 1)) := hins
          have HS : Hid (Sc wr g Lc) := hS
          clear hins hS
          go_upto_region 4 with fail
          go_quiet (fail)
          go_wp2
          go_roundg (n - (i + 1))
          case measure => omega
          case rel => exact ⟨i + 1, by omega, by omega, by go_num, by rw [← HI.out]; exact HS.out.next rfl, hB2.drewN _⟩
        | succ m =>
          obtain ⟨J, hJ⟩ : ∃ J, m + 1 = J := ⟨_, rfl⟩
          obtain ⟨a, ha⟩ : ∃ a, Lc[m + 1]? = some a := ⟨_, List.getElem?_eq_getElem (by omega)⟩
          obtain ⟨b, hb⟩ : ∃ b, Lc[m]? = some b := ⟨_, List.getElem?_eq_getElem (by omega)⟩
          have ga : Lc.getD (m + 1) 0 = a := by rw [List.getD_eq_getElem?_getD, ha]; rfl
          have gb : Lc.getD m 0 = b := by rw [List.getD_eq_getElem?_getD, hb]; rfl
          have hins2 : (if a < b then insJ m ((Lc.set (m + 1) b).set m a) else Lc) = insTo L (i + 1) := by
            rw [← hins]
            show _ = insJ (m + 1) Lc
            rw [insJ, ga, gb]
          have HA : Hid (Lc[m + 1]? = some a) := ha
          have HBb : Hid (Lc[m]? = some b) := hb
          have x1 := hS.cell ha
          have x2 := hS.cell hb
          have f1 := hS.frozen (m + 1)
          have f2 := hS.frozen m
          have s1 := (hS.set (m + 1) b)
          have y2 := s1.cell (i := m) (t := b) (by rw [List.getElem?_set_ne (by omega)]; exact hb)
          have s2 := (s1.set m a)
          have hb9 : Onl B g w ((wr.setCell ⟨g, m + 1, none⟩ (.int .i64 b)).setCell ⟨g, m, none⟩ (.int .i64 a)) := (hB2.setCell hg (m + 1) _).setCell hg m _
          have HI : Hid ((if a < b then insJ m ((Lc.set (m + 1) b).set m a) else Lc) = insTo L (i + 1)) := hins2
          have HS : Hid (Sc wr g Lc) := hS
          have j0 : (0 : Int) < (J : Int) := by omega
          have j1 : (J : Int) < (n : Int) := by omega
          have m0 : (0 : Int) ≤ (m : Int) := by omega
          have m1 : (m : Int) < (n : Int) := by omega
          have j2 : (0 : Int) ≤ (J : Int) := by omega
          have e1 : IntKind.i64.wrap ((J : Int) - 1) = (m : Int) := by rw [← hJ]; simp [IntKind.wrap, IntKind.bits, IntKind.signed]; omega
          have jn : decide (0 < J) = true := by simp; omega
          have HLc : Hid (Lc.length = n) := hlc
          have HSz : Hid (Sc ((wr.setCell ⟨g, m + 1, none⟩ (.int .i64 b)).setCell ⟨g, m, none⟩ (.int .i64 a)) g ((Lc.set (m + 1) b).set m a)) := s2
          have HJ : Hid (m + 1 = J) := hJ
          rw [hJ] at x1 f1 y2 hb9 HSz
          have HB9 : Hid (Onl B g w ((wr.setCell ⟨g, J, none⟩ (.int .i64 b)).setCell ⟨g, m, none⟩ (.int .i64 a))) := hb9
          rw [hJ]
          clear hins hins2 ha hb ga gb hS s1 s2 hlc hb9 hJ
          have hLs := fun W => Less_any a b W
          by_cases hab : a < b
          · have hq : decide (a < b) = true := by simp [hab]
            rw [hq] at hLs
            go_upto_region 4 with fail
            go_quiet (first | (go_at_call 61; refine Calls.quiet_of_same (hLs _)))
            have HIp : Hid (insJ m ((Lc.set J b).set m a) = insTo L (i + 1)) := by have := HI.out; rw [if_pos hab, HJ.out] at this; exact this
            have HLp : Hid (((Lc.set J b).set m a).length = n) := by show _ = _; rw [List.length_set, List.length_set]; exact HLc.out
            have hSw : Sc (wr.drewN nq) g Lc := HS.out.next rfl
            have hBw := hB2.drewN nq
            obtain ⟨WQ, hWQ⟩ : ∃ W, wr.drewN nq = W := ⟨_, rfl⟩
            rw [hWQ] at hSw hBw ⊢
            have ha := HA.out
            have hb := HBb.out
            rw [HJ.out] at ha
            clear x1 x2 f1 f2 y2 HI HSz HB9 hWQ
            have x1 := hSw.cell ha
            have x2 := hSw.cell hb
            have f1 := hSw.frozen J
            have f2 := hSw.frozen m
            have s1 := (hSw.set J b)
            have y2 := s1.cell (i := m) (t := b) (by rw [List.getElem?_set_ne (by have := HJ.out; omega)]; exact hb)
            have s2 := (s1.set m a)
            have HSq : Hid (Sc ((WQ.setCell ⟨g, J, none⟩ (.int .i64 b)).setCell ⟨g, m, none⟩ (.int .i64 a)) g ((Lc.set J b).set m a)) := s2
            have HB9 : Hid (Onl B g w ((WQ.setCell ⟨g, J, none⟩ (.int .i64 b)).setCell ⟨g, m, none⟩ (.int .i64 a))) := (hBw.setCell hg J _).setCell hg m _
            clear s1 s2 hSw ha hb
            go_upto_region 6 with fail
            go_region
            all_goals
              go_wp2
              go_roundg m
              case measure => omega
              case rel => exact ⟨m, _, rfl, by go_num, by omega, HIp.out, HLp.out, HSq.out.next rfl, HB9.out.drew⟩
          · have hq : decide (a < b) = false := by simp [hab]
            rw [hq] at hLs
            go_upto_region 4 with fail
            go_quiet (first | (go_at_call 61; refine Calls.quiet_of_same (hLs _)))
            go_wp2
            go_roundg (n - (i + 1))
            case measure => omega
            case rel => exact ⟨i + 1, by omega, by omega, by go_num, by have := HI.out; rw [if_neg (Int.not_lt.2 hab)] at this; rw [← this]; exact HS.out.next rfl, hB2.drewN _⟩
    · have hin : i = n := by omega
      subst hin
      go_wp2
      exact bodyPost_end (v := .tuple #[]) (by simp [results, Try.f55]) rfl ⟨rfl, hS, hB⟩
end Go.Proofs.Ytcehmaegnfelhaa
