/- reeve: a shard's way, walked. -/
import Derived.Test.YtcehmaegnfelhaaRvG
namespace Go.Proofs.Ytcehmaegnfelhaa
open Go.RowKit
attribute [local go_sem ↓] Go.wp_at_zero Go.wp_at_succ

/-- Whose a shard is, one configuration behind the other. -/
def owS (l : List Cg) (i : Nat) : List Int := l.map fun x => (cgO x).getD i 0
/-- What Way tells. -/
def WyPost (l : List Cg) (i : Int) (e : Ending) (W' : World) : Prop :=
  if i < 0 ∨ 4 ≤ i then e = .returned (.tuple #[.slice none 0 0, .int .i64 1]) else if foB l l.length = true then ∃ u, e = .returned (.tuple #[u, .int .i64 0]) ∧ Il W' u (cpt (owS l i.toNat)) else e = .returned (.tuple #[.slice none 0 0, .int .i64 4])
set_option maxRecDepth 20000 in
set_option maxHeartbeats 1000000 in
theorem way_any (l : List Cg) (v : Value) (i : Int) (w : World) (hv : Cl w v l) (hl : l.length ≤ 1000) (hgl : ∀ (i : Nat) x, l[i]? = some x → x.gs.length ≤ 1000) : Calls Try.prog 11 #[v, .int .i64 i] w fun e W' => WyPost l i e W' ∧ Below w.heap.size w W' := by
  obtain ⟨va, vc, rfl⟩ := hv.slice
  have hF := follow_any l _ w hv hl hgl
  obtain ⟨i0, hi, hz0, hz1, hz2⟩ := info_parts Try.info3
  obtain ⟨N, hN⟩ : ∃ N, w.heap.size = N := ⟨_, rfl⟩
  rw [hN] at hF ⊢
  have HN : Hid (w.heap.size = N) := hN
  have HV : Hid (∀ W, Below N w W → Cl W (.slice va l.length vc) l) := fun W hW => hv.on hW (by omega)
  have HL : Hid (l.length ≤ 1000) := hl
  obtain ⟨T, hT⟩ : ∃ T, foB l l.length = T := ⟨_, rfl⟩
  have HP : Hid (∀ e W', WyPost l i e W' ↔ if i < 0 ∨ 4 ≤ i then e = .returned (.tuple #[.slice none 0 0, .int .i64 1]) else if T = true then ∃ u, e = .returned (.tuple #[u, .int .i64 0]) ∧ Il W' u (cpt (owS l i.toNat)) else e = .returned (.tuple #[.slice none 0 0, .int .i64 4])) := fun e W' => by rw [WyPost, hT]
  rw [hT] at hF
  have hb0 : Below N w w := Below.refl _ _
  clear hv hN hgl hl hT
  by_cases h1 : i < 0
  · go_enter Try.func11, Try.ntmps11
    go_wp2_with fail
    exact bodyPost_ret (v := .tuple #[.slice none 0 0, .int .i64 1]) (by simp [results, Try.f11, go_sem]) rfl ⟨(HP.out _ _).2 (by rw [if_pos (.inl (by assumption))]), hb0⟩
  by_cases h2 : 4 ≤ i
  · go_enter Try.func11, Try.ntmps11
    go_wp2_with fail
    exact bodyPost_ret (v := .tuple #[.slice none 0 0, .int .i64 1]) (by simp [results, Try.f11, go_sem]) rfl ⟨(HP.out _ _).2 (by rw [if_pos (.inr (by assumption))]), hb0⟩
  have HP2 : Hid (∀ e W', WyPost l i e W' ↔ if T = true then ∃ u, e = .returned (.tuple #[u, .int .i64 0]) ∧ Il W' u (cpt (owS l i.toNat)) else e = .returned (.tuple #[.slice none 0 0, .int .i64 4])) := fun e W' => by rw [HP.out e W', if_neg (fun h => h.elim h1 h2)]
  clear HP
  obtain ⟨k, rfl⟩ : ∃ k : Nat, i = (k : Int) := ⟨i.toNat, by omega⟩
  have k2 : k < 4 := by omega
  rw [Int.toNat_natCast] at HP2
  cases T with
  | false =>
    go_enter Try.func11, Try.ntmps11
    go_wp2_with (first
      | (go_at_call 20; refine hF.mono ?_; clear hF; rintro e w1 ⟨rfl, hB⟩)
      | fail)
    exact bodyPost_ret (v := .tuple #[.slice none 0 0, .int .i64 4]) (by simp [results, Try.f11, go_sem]) rfl ⟨(HP2.out _ _).2 rfl, hB⟩
  | true =>
  go_enter Try.func11, Try.ntmps11
  go_wp2_with (first
    | (go_at_call 20; refine hF.mono ?_; clear hF; rintro e w1 ⟨rfl, hB⟩)
    | fail)
  have HB1 : Hid (Below N w w1) := hB
  clear hB hb0
  go_loopg [6, 20] l.length (fun gk s j wr => ∃ (n : Nat), n + gk = l.length ∧ j = .int .i64 n ∧ wr.ownsRow N 3 1 s n (zcs ((owS l k).take n)) ∧ Below N w wr)
  case atStart => exact ⟨0, by omega, rfl, World.ownsRow_nil _ _ _ _, HB1.out⟩
  case round =>
    obtain ⟨n, hnn, rfl, hown, hB⟩ := hrel
    obtain ⟨ma, mc, rfl⟩ := owns_slice hown
    by_cases hn1 : n = l.length
    · have hC := compact_any (owS l k) (.slice ma n mc) wr N (by rw [show (owS l k).length = n by simp [owS, hn1]]; rw [List.take_of_length_le (by simp [owS, hn1])] at hown; exact hown) (by simp [owS]; exact HL.out)
      have HB : Hid (Below N w wr ∧ N ≤ wr.heap.size) := ⟨hB, by have := hB.size; have := HN.out; omega⟩
      clear hown hB HV
      subst hn1
      go_wp2_with (first
        | (go_at_call 23; refine hC.mono ?_; clear hC; rintro e w2 ⟨u, rfl, hu, hB2⟩)
        | fail)
      refine bodyPost_ret (v := .tuple #[u, .int .i64 0]) (by simp [results, Try.f11, go_sem]) rfl ⟨(HP2.out _ _).2 ?_, HB.out.1.trans hB2⟩
      rw [if_pos trivial]
      exact ⟨u, rfl, hu⟩
    · have hn2 : n < l.length := by omega
      obtain ⟨x, hx⟩ : ∃ x, l[n]? = some x := ⟨_, List.getElem?_eq_getElem hn2⟩
      obtain ⟨M, hMe⟩ : ∃ M, (cgO x).getD k 0 = M := ⟨_, rfl⟩
      have hat : (owS l k).take (n + 1) = (owS l k).take n ++ [M] := by
        have h9 : (owS l k)[n]? = some M := by rw [owS, List.getElem?_map, hx, ← hMe]; rfl
        rw [List.take_add_one, h9]; rfl
      obtain ⟨g0, e', gv, hg', hgb, hil, y⟩ := (HV.out _ hB).at hx
      subst hg'
      obtain ⟨pa, pc, rfl⟩ := hil.slice
      obtain ⟨num, gs, o0, o1, o2, o3⟩ := x
      have y0 : wr.cell? ⟨g0, e' + n * 6, none⟩ = some (.int .i64 num) := y 0 _ rfl
      have y1 : wr.cell? ⟨g0, e' + n * 6 + 1, none⟩ = some (.slice pa gs.length pc) := y 1 _ rfl
      have y2 : wr.cell? ⟨g0, e' + n * 6 + 2, none⟩ = some (.int .i64 o0) := y 2 _ rfl
      have y3 : wr.cell? ⟨g0, e' + n * 6 + 3, none⟩ = some (.int .i64 o1) := y 3 _ rfl
      have y4 : wr.cell? ⟨g0, e' + n * 6 + 4, none⟩ = some (.int .i64 o2) := y 4 _ rfl
      have y5 : wr.cell? ⟨g0, e' + n * 6 + 5, none⟩ = some (.int .i64 o3) := y 5 _ rfl
      have d0 : (0 : Int) ≤ (n : Int) := by omega
      have d1 : (n : Int) < (l.length : Int) := by omega
      have kk0 : (0 : Int) ≤ (k : Int) := by omega
      have kk1 : (k : Int) < 4 := by omega
      have hnb : n ≤ 1000 := by have := HL.out; omega
      have rD := heap_alloc_new wr (.cells (cf num (.slice pa gs.length pc) o0 o1 o2 o3) 50)
      have hbA := (Below.refl wr.heap.size wr).alloc (Nat.le_refl _) (.cells (cf num (.slice pa gs.length pc) o0 o1 o2 o3) 50)
      have hNW : N ≤ wr.heap.size := by have := hB.size; have := HN.out; omega
      have hcM : (wr.alloc (.cells (cf num (.slice pa gs.length pc) o0 o1 o2 o3) 50)).cell? ⟨wr.heap.size, 2 + k, none⟩ = some (.int .i64 M) := by
        refine cellB rD _ _ (cf_at _ _ _ _ _ _ k _ ?_)
        have hk4 : k < [o0, o1, o2, o3].length := k2
        rw [← hMe]; show [o0, o1, o2, o3][k]? = some ([o0, o1, o2, o3].getD k 0)
        rw [List.getD_eq_getElem?_getD, List.getElem?_eq_getElem hk4]; rfl
      obtain ⟨WA, hWA⟩ : ∃ W, wr.alloc (.cells (cf num (.slice pa gs.length pc) o0 o1 o2 o3) 50) = W := ⟨_, rfl⟩
      rw [hWA] at rD hbA hcM
      obtain ⟨D, hD⟩ : ∃ D, wr.heap.size = D := ⟨_, rfl⟩
      have HBA : Hid (Below N w WA ∧ N ≤ WA.heap.size) := ⟨hB.trans (hbA.mono hNW), Nat.le_trans hNW hbA.size⟩
      have HOW : Hid (WA.ownsRow N 3 1 (.slice ma n mc) n (zcs ((owS l k).take n))) := owns_next hown hbA
      rw [hD] at hcM
      have HD : Hid (wr.heap.size = D) := hD
      have HWA : Hid (wr.alloc (.cells (cf num (.slice pa gs.length pc) o0 o1 o2 o3) 50) = WA) := hWA
      have HAT : Hid ((owS l k).take (n + 1) = (owS l k).take n ++ [M]) := hat
      have HNM : Hid (n + gk = l.length ∧ n < l.length) := ⟨hnn, hn2⟩
      clear hnn hn1 hn2 hx hMe hat hgb hil y rD hbA hNW hWA hD hown hB HV h1 h2
      go_upto_region 9 with fail
      rw [HWA.out, HD.out]
      clear y0 y1 y2 y3 y4 y5 HWA HD
      go_wp2_with (first
        | (at_builtin; refine wpList_append_lies _ rfl _ _ 25 rfl N 3 i0 (.int .i64 0) 1 8 Try.underlying25 hi hz0 hz1 hz2 rfl (by decide) (.slice ma n mc) n (zcs ((owS l k).take n)) rfl (owns_next HOW.out ((Below.refl _ WA).alloc (Nat.le_refl _) (.cells #[.int .i64 M] 3))) ⟨WA.heap.size, 0, none⟩ 1 1 [.int .i64 M] rfl rfl (World.news_of_block (heap_alloc_new _ _)) (by simp [Value.oneCell']) (by decide) (by unfold maxLen; omega) (by omega) (Nat.le_trans HBA.out.2 ((Below.refl _ WA).alloc (Nat.le_refl _) (.cells #[.int .i64 M] 3)).size) _ rfl ?_; intro ga ca w7 hown7 hgrow hat hlt7)
        | fail)
      have hBG : Below N w w7 := below_grown (HBA.out.1.alloc HBA.out.2 (.cells #[.int .i64 M] 3)) hgrow (fun j hj => (HOW.out.lt j hj).1) (Nat.le_trans HBA.out.2 ((Below.refl _ WA).alloc (Nat.le_refl _) (.cells #[.int .i64 M] 3)).size)
      go_roundg (l.length - (n + 1))
      case measure => have := HNM.out; omega
      case rel =>
        obtain ⟨h1, h2⟩ := HNM.out
        refine ⟨n + 1, by omega, by go_num, ?_, hBG⟩
        rw [HAT.out, zcs_snoc]; exact hown7
end Go.Proofs.Ytcehmaegnfelhaa
