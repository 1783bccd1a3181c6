/- The document's side: a shard's way, walked. -/
import Derived.Test.YtcehmaegnfelhaaRvP
import Derived.Test.YtcehmaegnfelhaaRvO
import Derived.Test.YtcehmaegnfelhaaRvH
namespace Go.Proofs.Ytcehmaegnfelhaa
open Go.RowKit
attribute [local go_sem ↓] Go.wp_at_zero Go.wp_at_succ

/-- Of the first n those that are another than the one ahead. -/
def cpN (s : List Int) (n : Nat) : List Int := Go.Lib.compactUpTo s.toArray n
theorem cpN_all (s : List Int) : cpN s s.length = cpt s := rfl
theorem cpN_keep {s : List Int} {n : Nat} {M : Int} (hx : s[n]? = some M) (h : n = 0 ∨ s[n - 1]? ≠ some M) : cpN s (n + 1) = cpN s n ++ [M] := by
  have hn : n < s.length := (List.getElem?_eq_some_iff.1 hx).1
  have e1 : s.toArray[n]! = M := by rw [getElem!_pos s.toArray n (by simpa using hn)]; exact (List.getElem?_eq_some_iff.1 hx).2
  rw [cpN, Go.Lib.compactUpTo_succ, e1]
  have hk : Go.Lib.keeps s.toArray n = true := by
    rcases h with h | h
    · subst h; simp [Go.Lib.keeps]
    · refine Go.Lib.keeps_pos ?_
      rw [e1]
      intro e
      apply h
      rw [getElem!_pos s.toArray (n - 1) (by simp; omega)] at e
      rw [List.getElem?_eq_getElem (by omega), e]; simp
  rw [hk]; rfl
theorem cpN_drop {s : List Int} {n : Nat} {M : Int} (hx : s[n]? = some M) (hn : 0 < n) (h : s[n - 1]? = some M) : cpN s (n + 1) = cpN s n := by
  have hn1 : n < s.length := (List.getElem?_eq_some_iff.1 hx).1
  have e1 : s.toArray[n]! = M := by rw [getElem!_pos s.toArray n (by simpa using hn1)]; exact (List.getElem?_eq_some_iff.1 hx).2
  have e2 : s.toArray[n - 1]! = M := by rw [getElem!_pos s.toArray (n - 1) (by simp; omega)]; exact (List.getElem?_eq_some_iff.1 h).2
  rw [cpN, Go.Lib.compactUpTo_succ, Go.Lib.keeps_neg hn (by rw [e1, e2])]
  simp [cpN]
theorem cpN_len (s : List Int) (n : Nat) : (cpN s n).length ≤ n := by
  have := (List.filter_sublist (p := Go.Lib.keeps s.toArray) (l := List.range n)).length_le
  simpa [cpN, Go.Lib.compactUpTo] using this
set_option maxRecDepth 20000 in
set_option maxHeartbeats 1000000 in
theorem rway_any (l : List Cg) (v : Value) (i : Int) (w : World) (hv : Cl w v l) (hl : l.length ≤ 1000) (hgl : ∀ (i : Nat) x, l[i]? = some x → x.gs.length ≤ 1000) : Calls Try.prog 12 #[v, .int .i64 i] w fun e W' => WyPost l i e W' ∧ Below w.heap.size w W' := by
  obtain ⟨va, vc, rfl⟩ := hv.slice
  have hF := linked_any l _ w hv hl hgl
  obtain ⟨i0, hi, hz0, hz1, hz2⟩ := info_parts Try.info3
  obtain ⟨N, hN⟩ : ∃ N, w.heap.size = N := ⟨_, rfl⟩
  rw [hN] at hF ⊢
  have HN : Hid (w.heap.size = N) := hN
  have HV : Hid (∀ W, Below N w W → Cl W (.slice va l.length vc) l) := fun W hW => hv.on hW (by omega)
  have HL : Hid (l.length ≤ 1000) := hl
  obtain ⟨T, hT⟩ : ∃ T, foB l l.length = T := ⟨_, rfl⟩
  have HP : Hid (∀ e W', WyPost l i e W' ↔ if i < 0 ∨ 4 ≤ i then e = .returned (.tuple #[.slice none 0 0, .int .i64 1]) else if T = true then ∃ u, e = .returned (.tuple #[u, .int .i64 0]) ∧ Il W' u (cpt (owS l i.toNat)) else e = .returned (.tuple #[.slice none 0 0, .int .i64 4])) := fun e W' => by rw [WyPost, hT]
  rw [hT] at hF
  have hb0 : Below N w w := Below.refl _ _
  clear hv hN hgl hl hT
  by_cases h1 : i < 0
  · go_enter Try.func12, Try.ntmps12
    go_wp2_with fail
    exact bodyPost_ret (v := .tuple #[.slice none 0 0, .int .i64 1]) (by simp [results, Try.f12, go_sem]) rfl ⟨(HP.out _ _).2 (by rw [if_pos (.inl (by assumption))]), hb0⟩
  by_cases h2 : 4 ≤ i
  · have h3 : 3 < i := by omega
    have HP' : Hid (∀ e W', WyPost l i e W' ↔ e = .returned (.tuple #[.slice none 0 0, .int .i64 1])) := fun e W' => by rw [HP.out e W', if_pos (.inr h2)]
    clear HP h2
    go_enter Try.func12, Try.ntmps12
    go_wp2_with fail
    exact bodyPost_ret (v := .tuple #[.slice none 0 0, .int .i64 1]) (by simp [results, Try.f12, go_sem]) rfl ⟨(HP'.out _ _).2 rfl, hb0⟩
  have HP2 : Hid (∀ e W', WyPost l i e W' ↔ if T = true then ∃ u, e = .returned (.tuple #[u, .int .i64 0]) ∧ Il W' u (cpt (owS l i.toNat)) else e = .returned (.tuple #[.slice none 0 0, .int .i64 4])) := fun e W' => by rw [HP.out e W', if_neg (fun h => h.elim h1 h2)]
  clear HP
  obtain ⟨k, rfl⟩ : ∃ k : Nat, i = (k : Int) := ⟨i.toNat, by omega⟩
  have k2 : k < 4 := by omega
  have h3 : ¬ (3 : Int) < (k : Int) := by omega
  have h3' : ¬ 3 < k := by omega
  rw [Int.toNat_natCast] at HP2
  cases T with
  | false =>
    rw [if_neg (by decide)] at hF
    go_enter Try.func12, Try.ntmps12
    go_wp2_with (first
      | (go_at_call 22; refine hF.mono ?_; clear hF; rintro e w1 ⟨rfl, hB⟩)
      | fail)
    exact bodyPost_ret (v := .tuple #[.slice none 0 0, .int .i64 4]) (by simp [results, Try.f12, go_sem]) rfl ⟨(HP2.out _ _).2 rfl, hB⟩
  | true =>
  rw [if_pos rfl] at hF
  go_enter Try.func12, Try.ntmps12
  go_wp2_with (first
    | (go_at_call 22; refine hF.mono ?_; clear hF; rintro e w1 ⟨rfl, hB⟩)
    | fail)
  have HB1 : Hid (Below N w w1) := hB
  clear hB hb0
  go_loopg [7, 23] l.length (fun gk s j wr => ∃ (n r : Nat), n + gk = l.length ∧ j = .int .i64 n ∧ r ≤ n ∧ (cpN (owS l k) n).length = r ∧ wr.ownsRow N 3 1 s r (zcs (cpN (owS l k) n)) ∧ Below N w wr)
  case atStart => exact ⟨0, 0, by omega, rfl, Nat.le_refl _, rfl, World.ownsRow_nil _ _ _ _, HB1.out⟩
  case round =>
    obtain ⟨n, r, hnn, rfl, hrn, hrl, hown, hB⟩ := hrel
    obtain ⟨ma, mc, rfl⟩ := owns_slice hown
    by_cases hn1 : n = l.length
    · have hIl : Il wr (.slice ma r mc) (cpt (owS l k)) := by
        have h9 : cpt (owS l k) = cpN (owS l k) n := by rw [hn1, ← cpN_all]; congr 1; simp [owS]
        rw [h9]
        exact Il_owns (by rw [hrl]; exact hown)
      have HB : Hid (Below N w wr ∧ Il wr (.slice ma r mc) (cpt (owS l k))) := ⟨hB, hIl⟩
      clear hown hB HV hIl hrl hrn
      subst hn1
      go_wp2_with fail
      refine bodyPost_ret (v := .tuple #[.slice ma r mc, .int .i64 0]) (by simp [results, Try.f12, go_sem]) rfl ⟨(HP2.out _ _).2 ?_, HB.out.1⟩
      rw [if_pos trivial]
      exact ⟨_, rfl, HB.out.2⟩
    · have hn2 : n < l.length := by omega
      obtain ⟨x, hx⟩ : ∃ x, l[n]? = some x := ⟨_, List.getElem?_eq_getElem hn2⟩
      obtain ⟨M, hMe⟩ : ∃ M, (cgO x).getD k 0 = M := ⟨_, rfl⟩
      have hsx : (owS l k)[n]? = some M := by rw [owS, List.getElem?_map, hx, ← hMe]; rfl
      obtain ⟨g0, e', gv, hg', hgb, hil, y⟩ := (HV.out _ hB).at hx
      subst hg'
      obtain ⟨pa, pc, rfl⟩ := hil.slice
      obtain ⟨num, gs, o0, o1, o2, o3⟩ := x
      have y0 : wr.cell? ⟨g0, e' + n * 6, none⟩ = some (.int .i64 num) := y 0 _ rfl
      have y1 : wr.cell? ⟨g0, e' + n * 6 + 1, none⟩ = some (.slice pa gs.length pc) := y 1 _ rfl
      have y2 : wr.cell? ⟨g0, e' + n * 6 + 2, none⟩ = some (.int .i64 o0) := y 2 _ rfl
      have y3 : wr.cell? ⟨g0, e' + n * 6 + 3, none⟩ = some (.int .i64 o1) := y 3 _ rfl
      have y4 : wr.cell? ⟨g0, e' + n * 6 + 4, none⟩ = some (.int .i64 o2) := y 4 _ rfl
      have y5 : wr.cell? ⟨g0, e' + n * 6 + 5, none⟩ = some (.int .i64 o3) := y 5 _ rfl
      have d0 : (0 : Int) ≤ (n : Int) := by omega
      have d1 : (n : Int) < (l.length : Int) := by omega
      have kk0 : (0 : Int) ≤ (k : Int) := by omega
      have kk1 : (k : Int) < 4 := by omega
      have hnb : n ≤ 1000 := by have := HL.out; omega
      have hrb : r ≤ 1000 := by omega
      have rD := heap_alloc_new wr (.cells (cf num (.slice pa gs.length pc) o0 o1 o2 o3) 55)
      have hbA := (Below.refl wr.heap.size wr).alloc (Nat.le_refl _) (.cells (cf num (.slice pa gs.length pc) o0 o1 o2 o3) 55)
      have hNW : N ≤ wr.heap.size := by have := hB.size; have := HN.out; omega
      have hcM : (wr.alloc (.cells (cf num (.slice pa gs.length pc) o0 o1 o2 o3) 55)).cell? ⟨wr.heap.size, 2 + k, none⟩ = some (.int .i64 M) := by
        refine cellB rD _ _ (cf_at _ _ _ _ _ _ k _ ?_)
        have hk4 : k < [o0, o1, o2, o3].length := k2
        rw [← hMe]; show [o0, o1, o2, o3][k]? = some ([o0, o1, o2, o3].getD k 0)
        rw [List.getD_eq_getElem?_getD, List.getElem?_eq_getElem hk4]; rfl
      obtain ⟨WA, hWA⟩ : ∃ W, wr.alloc (.cells (cf num (.slice pa gs.length pc) o0 o1 o2 o3) 55) = W := ⟨_, rfl⟩
      rw [hWA] at rD hbA hcM
      obtain ⟨D, hD⟩ : ∃ D, wr.heap.size = D := ⟨_, rfl⟩
      obtain ⟨R, hR⟩ : ∃ R, cpN (owS l k) n = R := ⟨_, rfl⟩
      have HRL : Hid (R.length = r) := by show R.length = r; rw [← hR]; exact hrl
      have HBA : Hid (Below N w WA ∧ N ≤ WA.heap.size) := ⟨hB.trans (hbA.mono hNW), Nat.le_trans hNW hbA.size⟩
      have HOW : Hid (WA.ownsRow N 3 1 (.slice ma r mc) r (zcs R)) := by rw [← hR]; exact owns_next hown hbA
      rw [hD] at hcM
      have HD : Hid (wr.heap.size = D) := hD
      have HWA : Hid (wr.alloc (.cells (cf num (.slice pa gs.length pc) o0 o1 o2 o3) 55) = WA) := hWA
      have HNM : Hid (n + gk = l.length ∧ n < l.length ∧ r ≤ n ∧ R.length = r) := ⟨hnn, hn2, hrn, HRL.out⟩
      by_cases hz : n = 0
      · have HAT : Hid (cpN (owS l k) (n + 1) = R ++ [M]) := by rw [← hR]; exact cpN_keep hsx (.inl hz)
        have HZ0 : Hid (n = 0) := hz
        clear hz hnn hn1 hn2 hx hMe hgb hil y rD hbA hNW hWA hD hown hB HV h1 h2 hsx hrn hrl hR
        go_upto_region 10 with fail
        rw [HWA.out, HD.out]
        clear y0 y1 y2 y3 y4 y5 HWA HD
        have q1 : ((n : Int) == 0) = true := by have := HZ0.out; simp; omega
        have q2 : (n == 0) = true := by have := HZ0.out; simp; omega
        have q3 : decide (n = 0) = true := by have := HZ0.out; simp; omega
        go_quiet (fail)
        clear q1 q2 q3
        go_wp2_with (first
          | (at_builtin; refine wpList_append_lies _ rfl _ _ 25 rfl N 3 i0 (.int .i64 0) 1 8 Try.underlying25 hi hz0 hz1 hz2 rfl (by decide) (.slice ma r mc) r (zcs R) rfl (owns_next (owns_next HOW.out (below_drewN (Below.refl _ WA) _)) ((Below.refl _ _).alloc (Nat.le_refl _) (.cells #[.int .i64 M] 3))) ⟨WA.heap.size, 0, none⟩ 1 1 [.int .i64 M] rfl rfl (World.news_of_block (heap_alloc_new _ _)) (by simp [Value.oneCell']) (by decide) (by unfold maxLen; omega) (by omega) (Nat.le_trans HBA.out.2 (by simp)) _ rfl ?_; intro ga ca w7 hown7 hgrow hat hlt7)
          | fail)
        have hBG : Below N w w7 := below_grown ((below_drewN HBA.out.1 _).alloc HBA.out.2 (.cells #[.int .i64 M] 3)) hgrow (fun j hj => (HOW.out.lt j hj).1) (Nat.le_trans HBA.out.2 (by simp))
        go_roundg (l.length - (n + 1))
        case measure => have := HNM.out; omega
        case rel =>
          obtain ⟨h1, h2, h3, h4⟩ := HNM.out
          refine ⟨n + 1, r + 1, by omega, by go_num, by omega, ?_, ?_, hBG⟩
          · rw [HAT.out, List.length_append, HRL.out]; rfl
          · rw [HAT.out]; show w7.ownsRow N 3 1 _ _ (zcs (R ++ [M])); rw [zcs_snoc]; exact hown7
      · obtain ⟨im, him⟩ : ∃ im, n - 1 = im := ⟨_, rfl⟩
        have him2 : (n : Int) - 1 = (im : Int) := by omega
        obtain ⟨q, hq⟩ : ∃ q, l[im]? = some q := ⟨_, List.getElem?_eq_getElem (by omega)⟩
        obtain ⟨P, hPe⟩ : ∃ P, (cgO q).getD k 0 = P := ⟨_, rfl⟩
        have hsq : (owS l k)[n - 1]? = some P := by rw [him, owS, List.getElem?_map, hq, ← hPe]; rfl
        obtain ⟨g1, e1', gv1, hg1, -, -, z⟩ := (HV.out _ hB).at hq
        injection hg1 with hg1
        injection hg1 with hga hgb'
        subst hga
        subst hgb'
        obtain ⟨pn, pgs, q0, q1, q2, q3⟩ := q
        have z0 : wr.cell? ⟨g0, e' + im * 6 + (2 + k), none⟩ = some (.int .i64 P) := by
          refine z (2 + k) _ (cf_at _ _ _ _ _ _ k _ ?_)
          have hk4 : k < [q0, q1, q2, q3].length := k2
          rw [← hPe]; show [q0, q1, q2, q3][k]? = some ([q0, q1, q2, q3].getD k 0)
          rw [List.getD_eq_getElem?_getD, List.getElem?_eq_getElem hk4]; rfl
        rw [hD] at hbA
        have z1 : WA.cell? ⟨g0, e' + im * 6 + 2 + k, none⟩ = some (.int .i64 P) := by
          rw [Nat.add_assoc]
          exact (hbA.cell (p := ⟨g0, e' + im * 6 + (2 + k), none⟩) (by show g0 < D; omega)).trans z0
        have dm0 : (0 : Int) ≤ (im : Int) := by omega
        have dm1 : (im : Int) < (l.length : Int) := by omega
        have dm5 : im ≤ 1000 := by omega
        have dmw : IntKind.i64.wrap (im : Int) = (im : Int) := wrap_small _ (by omega) (by omega)
        have HZ0 : Hid (¬ n = 0) := hz
        by_cases heq : P = M
        · have HAT : Hid (cpN (owS l k) (n + 1) = R) := by rw [← hR]; exact cpN_drop hsx (by omega) (by rw [hsq, heq])
          subst heq
          clear hz hnn hn1 hn2 hx hMe hgb hil y rD hbA hNW hWA hD hown hB HV h1 h2 hsx hrn hrl hR him hq hPe hsq z z0
          go_upto_region 10 with fail
          rw [HWA.out, HD.out]
          clear y0 y1 y2 y3 y4 y5 HWA HD
          have q1 : ((n : Int) == 0) = false := by have := HZ0.out; simp; omega
          have q2 : (n == 0) = false := by have := HZ0.out; simp; omega
          have q3 : decide (n = 0) = false := by have := HZ0.out; simp; omega
          go_quiet (fail)
          clear q1 q2 q3
          go_wp2_with fail
          go_roundg (l.length - (n + 1))
          case measure => have := HNM.out; omega
          case rel =>
            obtain ⟨h1, h2, h3, h4⟩ := HNM.out
            exact ⟨n + 1, r, by omega, by go_num, by omega, by rw [HAT.out]; exact h4, by rw [HAT.out]; exact owns_next HOW.out (below_drewN (Below.refl _ WA) _), below_drewN HBA.out.1 _⟩
        · have HAT : Hid (cpN (owS l k) (n + 1) = R ++ [M]) := by rw [← hR]; exact cpN_keep hsx (.inr (by rw [hsq]; intro e; injection e with e; exact heq e))
          have hne : (P != M) = true := by simpa using heq
          clear hz hnn hn1 hn2 hx hMe hgb hil y rD hbA hNW hWA hD hown hB HV h1 h2 hsx hrn hrl hR him hq hPe hsq z z0
          go_upto_region 10 with fail
          rw [HWA.out, HD.out]
          clear y0 y1 y2 y3 y4 y5 HWA HD
          have q1 : ((n : Int) == 0) = false := by have := HZ0.out; simp; omega
          have q2 : (n == 0) = false := by have := HZ0.out; simp; omega
          have q3 : decide (n = 0) = false := by have := HZ0.out; simp; omega
          go_quiet (fail)
          clear q1 q2 q3
          go_wp2_with (first
            | (at_builtin; refine wpList_append_lies _ rfl _ _ 25 rfl N 3 i0 (.int .i64 0) 1 8 Try.underlying25 hi hz0 hz1 hz2 rfl (by decide) (.slice ma r mc) r (zcs R) rfl (owns_next (owns_next HOW.out (below_drewN (Below.refl _ WA) _)) ((Below.refl _ _).alloc (Nat.le_refl _) (.cells #[.int .i64 M] 3))) ⟨WA.heap.size, 0, none⟩ 1 1 [.int .i64 M] rfl rfl (World.news_of_block (heap_alloc_new _ _)) (by simp [Value.oneCell']) (by decide) (by unfold maxLen; omega) (by omega) (Nat.le_trans HBA.out.2 (by simp)) _ rfl ?_; intro ga ca w7 hown7 hgrow hat hlt7)
            | fail)
          have hBG : Below N w w7 := below_grown ((below_drewN HBA.out.1 _).alloc HBA.out.2 (.cells #[.int .i64 M] 3)) hgrow (fun j hj => (HOW.out.lt j hj).1) (Nat.le_trans HBA.out.2 (by simp))
          go_roundg (l.length - (n + 1))
          case measure => have := HNM.out; omega
          case rel =>
            obtain ⟨h1, h2, h3, h4⟩ := HNM.out
            refine ⟨n + 1, r + 1, by omega, by go_num, by omega, ?_, ?_, hBG⟩
            · rw [HAT.out, List.length_append, HRL.out]; rfl
            · rw [HAT.out]; show w7.ownsRow N 3 1 _ _ (zcs (R ++ [M])); rw [zcs_snoc]; exact hown7
end Go.Proofs.Ytcehmaegnfelhaa
