/- The law PleaSplits, walked. -/
import Derived.Test.YtihilkdokfdoeaaDoorPlM
import Derived.Test.YtihilkdokfdoeaaDoorPlI
import Derived.Test.YtihilkdokfdoeaaDoorPlC
namespace Go.Proofs.YtihilkdokfdoeaaDoor
open Go.RowKit Go.Maps
attribute [local go_sem ↓] Go.wp_at_zero Go.wp_at_succ

theorem bs_tl2 (t : List UInt8) : (bs t).toList = t := by rw [ByteArray.toList_eq]; rfl
set_option maxRecDepth 20000 in
theorem nsame45 (cl no kind : Int) (k v od : List UInt8) (fr tt E : Int) (T : List UInt8) (w : World) : (binOp .neq 45 (.agg #[.int .i64 cl, .int .i64 no, .int .i64 kind, .string (bs k), .string (bs v), .string (bs od), .int .i64 fr, .int .i64 tt, .int .i64 E, .string (bs T)]) (.agg #[.int .i64 cl, .int .i64 no, .int .i64 kind, .string (bs k), .string (bs v), .string (bs od), .int .i64 fr, .int .i64 tt, .int .i64 E, .string (bs T)])).run Tryd.prog w = .ok (.bool false) w := by
  go_simp
set_option maxRecDepth 20000 in
theorem nsame53 (tm pcl pno pE : Int) (pT : List UInt8) (w : World) : (binOp .neq 53 (.agg #[.int .i64 tm, .int .i64 pcl, .int .i64 pno, .int .i64 pE, .string (bs pT)]) (.agg #[.int .i64 tm, .int .i64 pcl, .int .i64 pno, .int .i64 pE, .string (bs pT)])).run Tryd.prog w = .ok (.bool false) w := by
  go_simp
theorem SlF.at_len {α : Type} {f : α → List Value} {s : Nat} {w : World} {a : Option Addr} {m c : Nat} {l : List α} (h : SlF f s w (.slice a m c) l) {i : Nat} {x : α} (hx : l[i]? = some x) :
    ∃ b o, a = some ⟨b, o, none⟩ ∧ b < w.heap.size ∧ ∀ k u, (f x)[k]? = some u → w.cell? ⟨b, o + i * s + k, none⟩ = some u := by
  obtain ⟨a', c', e⟩ := h.slice
  injection e with e1 e2 e3
  subst e1; subst e2; subst e3
  exact h.at hx
theorem prt_at {U V : Nat → Value} {W : World} {B : Nat} (h : W.heap[B]? = some (.cells #[U 0, V 0, U 1, V 1, U 2, V 2, U 3, V 3] 37)) {i : Nat} (hi : i < 4) : W.cell? ⟨B, i * 2, none⟩ = some (U i) ∧ W.cell? ⟨B, i * 2 + 1, none⟩ = some (V i) := by
  constructor
  · refine cellB h _ _ ?_
    rcases i with _ | _ | _ | _ | i
    · rfl
    · rfl
    · rfl
    · rfl
    · omega
  · refine cellB h _ _ ?_
    rcases i with _ | _ | _ | _ | i
    · rfl
    · rfl
    · rfl
    · rfl
    · omega
set_option maxRecDepth 20000 in
set_option maxHeartbeats 4000000 in
theorem splits_any (calls : List Cl) (pts : List Pt) (vc vp : Value) (w : World) (hc : SlF ccs 10 w vc calls) (hp : SlF pks 5 w vp pts) (wc : ∀ c ∈ calls, wfK (ck c)) (wp : ∀ p ∈ pts, wfK (pk2 p)) (hk : ∀ c ∈ calls, c.op.k.length ≤ 140737488351232) (hlb : calls.length ≤ 3000000000000) (he : EnvK w) : Calls Tryd.prog 3 #[vc, vp] w fun e W' => e = .returned (.bool true) ∧ Below w.heap.size w W' := by
  obtain ⟨pa, pcap, rfl⟩ := hp.slice
  have hLg := large_any calls vc pa pts.length pcap w hc hk hlb
  obtain ⟨va, vcap, rfl⟩ := hc.slice
  obtain ⟨N, hN⟩ : ∃ N, w.heap.size = N := ⟨_, rfl⟩
  have HP : Hid (∀ W, Below N w W → Calls Tryd.prog 8 #[] W fun e W' => e = .returned (.bool true) ∧ Below N w W') := fun W hW => (parts_any W (he.below hW (by have := he.size; omega))).mono fun e W' hh => ⟨hh.1, hW.trans (hh.2.mono (by have := hW.size; omega))⟩
  have HN : Hid (w.heap.size = N) := hN
  rw [hN] at hLg
  cases hb : lgB calls pts.length with
  | true =>
    rw [hb] at hLg
    clear hc hp hk he hN hb wc wp hlb
    go_enter Tryd.func3, Tryd.ntmps3
    go_upto_region 2 with (go_at_call 7; refine hLg.mono ?_; clear hLg; rintro e w1 ⟨rfl, hb1⟩)
    have hP := HP.out w1 hb1
    clear hb1
    go_wp2_with (go_at_call 8; refine hP.mono ?_; clear hP; rintro e w2 ⟨rfl, hb2⟩)
    go_ret
    exact ⟨rfl, by rw [HN.out]; exact hb2⟩
  | false =>
    rw [hb] at hLg
    obtain ⟨l1, l2, -⟩ := lgB_no hb
    have H1 : Hid (∀ W, Below N w W → Calls Tryd.prog 9 #[.slice va calls.length vcap, .slice pa pts.length pcap] W fun e W' => ∃ B U V, e = .returned (.tuple #[.slice (some ⟨B, 0, none⟩) 4 4, .int .i64 0]) ∧ Prt (partC calls) (partP calls pts) B U V W' ∧ Below N w W') := fun W hW => (Split_any calls pts _ _ W (hc.on hW (by omega)) (hp.on hW (by omega)) (by omega) (by omega) wc wp hk (he.below hW (by have := he.size; omega))).mono fun e W' hh => by
      obtain ⟨B, U, V, h1, h2, h3⟩ := hh
      exact ⟨B, U, V, h1, h2, hW.trans (h3.mono (by have := hW.size; omega))⟩
    have H2 : Hid (∀ W, Below N w W → Calls Tryd.prog 11 #[.slice va calls.length vcap] W fun e W' => ∃ u, e = .returned u ∧ SlF ccs 10 W' u calls ∧ Below W.heap.size W W' ∧ Below N w W') := fun W hW => (calls_any calls _ W (hc.on hW (by omega)) (by omega)).mono fun e W' hh => by
      obtain ⟨u, h1, h2, h3⟩ := hh
      exact ⟨u, h1, h2, h3, hW.trans (h3.mono (by have := hW.size; omega))⟩
    have H3 : Hid (∀ W u, Below N w W → SlF ccs 10 W u calls → Calls Tryd.prog 12 #[.slice pa pts.length pcap] W fun e W' => ∃ x, e = .returned x ∧ SlF pks 5 W' x pts ∧ SlF ccs 10 W' u calls ∧ Below W.heap.size W W' ∧ Below N w W') := fun W u hW hu => (points_any pts _ W (hp.on hW (by omega)) (by omega)).mono fun e W' hh => by
      obtain ⟨x, h1, h2, h3⟩ := hh
      exact ⟨x, h1, h2, hu.on h3 (Nat.le_refl _), h3, hW.trans (h3.mono (by have := hW.size; omega))⟩
    have H4 : Hid (∀ W u x, Below N w W → SlF ccs 10 W u calls → SlF pks 5 W x pts → Calls Tryd.prog 10 #[u, x] W fun e W' => ∃ (h o : Nat) (cc : Nat) (U V : Nat → Value), e = .returned (.slice (some ⟨h, o, none⟩) 4 cc) ∧ RS calls pts W.heap.size W (.slice (some ⟨h, o, none⟩) 4 cc) U V 4 W' ∧ Below N w W') := fun W u x hW hu hx => (rSplit_any calls pts u x W hu hx (by omega) (by omega) hk).mono fun e W' hh => by
      obtain ⟨x, U, V, h1, h2⟩ := hh
      have h3 : SlF (fun i => [U i, V i]) 2 W' x (List.range 4) := SlF.of_owns (base := W.heap.size) (e := 39) (fun _ => rfl) h2.row
      obtain ⟨a, c, e⟩ := h3.slice
      have e' : x = .slice a 4 c := e
      subst e'
      obtain ⟨b, o, e2, -, -⟩ := SlF.at_len h3 (i := 0) (x := 0) rfl
      subst e2
      exact ⟨b, o, c, U, V, h1, h2, hW.trans (h2.below.mono (by have := hW.size; omega))⟩
    have HLB : Hid (calls.length ≤ 80 ∧ pts.length ≤ 80) := ⟨l1, l2⟩
    clear hc hp hk he hN hb wc wp hlb l1 l2
    go_enter Tryd.func3, Tryd.ntmps3
    go_upto_region 3 with (go_at_call 7; refine hLg.mono ?_; clear hLg; rintro e w1 ⟨rfl, hb1⟩)
    have h1 := H1.out w1 hb1
    go_upto_region 4 with (go_at_call 9; refine h1.mono ?_; clear h1; rintro e w2 ⟨B, U, V, rfl, hPrt, hb2⟩)
    have h2 := H2.out w2 hb2
    go_upto_region 5 with (first
      | (go_at_call 11; refine h2.mono ?_; clear h2; rintro e w3 ⟨u, rfl, hu, hb23, hb3⟩; have h3 := H3.out w3 u hb3 hu)
      | (go_at_call 12; refine h3.mono ?_; clear h3; rintro e w4 ⟨x, rfl, hx, hu4, hb34, hb4⟩; have h4 := H4.out w4 u x hb4 hu4 hx)
      | (go_at_call 10; refine h4.mono ?_; clear h4; rintro e w5 ⟨h, o, cc, U2, V2, rfl, hRS, hb5⟩))
    obtain ⟨M, hM⟩ : ∃ M, w5.heap.size = M := ⟨_, rfl⟩
    have HM : Hid (w5.heap.size = M ∧ N ≤ M) := ⟨hM, by have := hb5.size; have := HN.out; omega⟩
    have hb25 : Below w2.heap.size w2 w5 := hb23.trans ((hb34.trans (hRS.below.mono hb34.size)).mono hb23.size)
    have HALL : Hid (∀ i, i < 4 → ∃ (ua : Option Addr) (uc : Nat) (va : Option Addr) (vc : Nat) (ua2 : Option Addr) (uc2 : Nat) (va2 : Option Addr) (vc2 : Nat), ∀ W, Below M w5 W →
        W.cell? ⟨B, i * 2, none⟩ = some (.slice ua (partC calls i).length uc) ∧ W.cell? ⟨B, i * 2 + 1, none⟩ = some (.slice va (partP calls pts i).length vc) ∧ W.cell? ⟨h, o + i * 2, none⟩ = some (.slice ua2 (partC calls i).length uc2) ∧ W.cell? ⟨h, o + i * 2 + 1, none⟩ = some (.slice va2 (partP calls pts i).length vc2) ∧
        SlF ccs 10 W (.slice ua (partC calls i).length uc) (partC calls i) ∧ SlF pks 5 W (.slice va (partP calls pts i).length vc) (partP calls pts i) ∧ SlF ccs 10 W (.slice ua2 (partC calls i).length uc2) (partC calls i) ∧ SlF pks 5 W (.slice va2 (partP calls pts i).length vc2) (partP calls pts i)) := fun i hi => by
      obtain ⟨ua, uc, e1⟩ := (hPrt.cs i hi).slice
      obtain ⟨va, vc, e2⟩ := (hPrt.ps i hi).slice
      obtain ⟨ua2, uc2, e3⟩ := (hRS.cs i hi).slice
      obtain ⟨va2, vc2, e4⟩ := (hRS.ps i hi).slice
      have h3 : SlF (fun i => [U2 i, V2 i]) 2 w5 (.slice (some ⟨h, o, none⟩) 4 cc) (List.range 4) := SlF.of_owns (base := w4.heap.size) (e := 39) (fun _ => rfl) hRS.row
      refine ⟨ua, uc, va, vc, ua2, uc2, va2, vc2, fun W hW => ?_⟩
      have hbW : Below w2.heap.size w2 W := hb25.trans (hW.mono (by have := hb25.size; omega))
      have hbx : W.heap[B]? = some (.cells #[U 0, V 0, U 1, V 1, U 2, V 2, U 3, V 3] 37) := (hbW.block B (Array.getElem?_eq_some_iff.1 hPrt.box).1).trans hPrt.box
      obtain ⟨b1, b2⟩ := prt_at hbx hi
      obtain ⟨b, o', e5, -, y⟩ := SlF.at_len (h3.on hW (by omega)) (i := i) (x := i) (by rw [List.getElem?_range hi])
      injection e5 with e5
      injection e5 with e5 e6
      subst e5
      subst e6
      have y0 := y 0 _ rfl
      have y1 := y 1 _ rfl
      rw [e1] at b1
      rw [e2] at b2
      rw [e3] at y0
      rw [e4] at y1
      refine ⟨b1, b2, y0, y1, ?_, ?_, ?_, ?_⟩
      · rw [← e1]; exact (hPrt.cs i hi).on hbW (Nat.le_refl _)
      · rw [← e2]; exact (hPrt.ps i hi).on hbW (Nat.le_refl _)
      · rw [← e3]; exact (hRS.cs i hi).on hW (by omega)
      · rw [← e4]; exact (hRS.ps i hi).on hW (by omega)
    have HB5 : Hid (Below N w w5) := hb5
    clear hb1 hPrt hb2 hu hb23 hb3 hx hu4 hb34 hb4 hRS hb5 hM hb25 H1 H2 H3 H4
    go_wp2_with fail
    go_loopg [35] 4 (fun gk j wr => ∃ i : Nat, i + gk = 4 ∧ j = .int .i64 i ∧ Below M w5 wr)
    case atStart => exact ⟨0, by omega, rfl, Below.refl _ _⟩
    case round =>
      obtain ⟨i, hii, rfl, hB⟩ := hrel
      by_cases hi1 : i = 4
      · subst hi1
        have hP := HP.out wr (HB5.out.trans (hB.mono HM.out.2))
        clear HP HALL hB
        go_wp2_with (go_at_call 8; refine hP.mono ?_; clear hP; rintro e w6 ⟨rfl, hb6⟩)
        go_ret
        exact ⟨rfl, by rw [HN.out]; exact hb6⟩
      · have hi4 : i < 4 := by omega
        obtain ⟨ua, uc, va, vc, ua2, uc2, va2, vc2, hq⟩ := HALL.out i hi4
        obtain ⟨kn, hkn⟩ : ∃ k, (partC calls i).length = k := ⟨_, rfl⟩
        obtain ⟨ln, hln⟩ : ∃ k, (partP calls pts i).length = k := ⟨_, rfl⟩
        have HL : Hid ((partC calls i).length = kn ∧ (partP calls pts i).length = ln ∧ (partC calls i).length ≤ calls.length ∧ (partP calls pts i).length ≤ pts.length) := ⟨hkn, hln, List.length_filter_le _ _, List.length_filter_le _ _⟩
        rw [hkn, hln] at hq
        have HQ : Hid (_) := hq
        have hqr := hq wr hB
        have c0 := hqr.1
        have c1 := hqr.2.1
        have c2 := hqr.2.2.1
        have c3 := hqr.2.2.2.1
        have d0 : (0 : Int) ≤ (i : Int) := by omega
        have d1 : (i : Int) < 4 := by omega
        have HB : Hid (Below M w5 wr.drew) := below_drew hB
        clear hkn hln hqr hq hB
        go_upto_region 10 with fail
        refine region_Z 99 (fun W => W.cell? ⟨B, i * 2, none⟩ = some (.slice ua kn uc) ∧ W.cell? ⟨B, i * 2 + 1, none⟩ = some (.slice va ln vc) ∧ W.cell? ⟨h, o + i * 2, none⟩ = some (.slice ua2 kn uc2) ∧ W.cell? ⟨h, o + i * 2 + 1, none⟩ = some (.slice va2 ln vc2)) (by kernel_rfl) ?_
        have hS0 : wr.drew.cell? ⟨B, i * 2, none⟩ = some (.slice ua kn uc) ∧ wr.drew.cell? ⟨B, i * 2 + 1, none⟩ = some (.slice va ln vc) ∧ wr.drew.cell? ⟨h, o + i * 2, none⟩ = some (.slice ua2 kn uc2) ∧ wr.drew.cell? ⟨h, o + i * 2 + 1, none⟩ = some (.slice va2 ln vc2) := ⟨c0, c1, c2, c3⟩
        refine Y_take (i := 0) (v := ?_) rfl (by kernel_rfl) (by kernel_rfl) (by kernel_rfl) (by kernel_rfl) (fun _ _ _ h => h) (by rfl) hS0 ?_ ?_
        rotate_left
        · (intro w' hSw; obtain ⟨s1, s2, s3, s4⟩ := hSw; (try go_simp); (try with_reducible rfl))
        simp only [Act.put, List.setIfInBounds_toArray, List.getElem_toArray, List.getElem_cons_zero, List.set_cons_succ, List.set_cons_zero]
        refine Y_take (i := 1) (v := ?_) rfl (by kernel_rfl) (by kernel_rfl) (by kernel_rfl) (by kernel_rfl) (fun _ _ _ h => h) (by rfl) hS0 ?_ ?_
        rotate_left
        · (intro w' hSw; obtain ⟨s1, s2, s3, s4⟩ := hSw; (try go_simp); (try with_reducible rfl))
        simp only [Act.put, List.setIfInBounds_toArray, List.getElem_toArray, List.getElem_cons_succ, List.getElem_cons_zero, List.set_cons_succ, List.set_cons_zero]
        refine Y_take (i := 2) (v := ?_) rfl (by kernel_rfl) (by kernel_rfl) (by kernel_rfl) (by kernel_rfl) (fun _ _ _ h => h) (by rfl) hS0 ?_ ?_
        rotate_left
        · (intro w' hSw; obtain ⟨s1, s2, s3, s4⟩ := hSw; (try go_simp); (try with_reducible rfl))
        simp only [Act.put, List.setIfInBounds_toArray, List.getElem_toArray, List.getElem_cons_succ, List.getElem_cons_zero, List.set_cons_succ, List.set_cons_zero]
        refine Y_take (i := 3) (v := ?_) rfl (by kernel_rfl) (by kernel_rfl) (by kernel_rfl) (by kernel_rfl) (fun _ _ _ h => h) (by rfl) hS0 ?_ ?_
        rotate_left
        · (intro w' hSw; obtain ⟨s1, s2, s3, s4⟩ := hSw; (try go_simp); (try with_reducible rfl))
        simp only [Act.put, List.setIfInBounds_toArray, List.getElem_toArray, List.getElem_cons_succ, List.getElem_cons_zero, List.set_cons_succ, List.set_cons_zero]
        refine Y_take (i := 4) (v := ?_) rfl (by kernel_rfl) (by kernel_rfl) (by kernel_rfl) (by kernel_rfl) (fun _ _ _ h => h) (by rfl) hS0 ?_ ?_
        rotate_left
        · (intro w' hSw; obtain ⟨s1, s2, s3, s4⟩ := hSw; (try go_simp); (try with_reducible rfl))
        simp only [Act.put, List.setIfInBounds_toArray, List.getElem_toArray, List.getElem_cons_succ, List.getElem_cons_zero, List.set_cons_succ, List.set_cons_zero]
        refine Y_take (i := 5) (v := ?_) rfl (by kernel_rfl) (by kernel_rfl) (by kernel_rfl) (by kernel_rfl) (fun _ _ _ h => h) (by rfl) hS0 ?_ ?_
        rotate_left
        · (intro w' hSw; obtain ⟨s1, s2, s3, s4⟩ := hSw; (try go_simp); (try with_reducible rfl))
        simp only [Act.put, List.setIfInBounds_toArray, List.getElem_toArray, List.getElem_cons_succ, List.getElem_cons_zero, List.set_cons_succ, List.set_cons_zero]
        refine Y_take (i := 6) (v := ?_) rfl (by kernel_rfl) (by kernel_rfl) (by kernel_rfl) (by kernel_rfl) (fun _ _ _ h => h) (by rfl) hS0 ?_ ?_
        rotate_left
        · (intro w' hSw; obtain ⟨s1, s2, s3, s4⟩ := hSw; (try go_simp); (try with_reducible rfl))
        simp only [Act.put, List.setIfInBounds_toArray, List.getElem_toArray, List.getElem_cons_succ, List.getElem_cons_zero, List.set_cons_succ, List.set_cons_zero]
        refine Y_take (i := 7) (v := ?_) rfl (by kernel_rfl) (by kernel_rfl) (by kernel_rfl) (by kernel_rfl) (fun _ _ _ h => h) (by rfl) hS0 ?_ ?_
        rotate_left
        · (intro w' hSw; obtain ⟨s1, s2, s3, s4⟩ := hSw; (try go_simp); (try with_reducible rfl))
        simp only [Act.put, List.setIfInBounds_toArray, List.getElem_toArray, List.getElem_cons_succ, List.getElem_cons_zero, List.set_cons_succ, List.set_cons_zero]
        refine Y_take (i := 8) (v := ?_) rfl (by kernel_rfl) (by kernel_rfl) (by kernel_rfl) (by kernel_rfl) (fun _ _ _ h => h) (by rfl) hS0 ?_ ?_
        rotate_left
        · (intro w' hSw; obtain ⟨s1, s2, s3, s4⟩ := hSw; (try go_simp); (try with_reducible rfl))
        simp only [Act.put, List.setIfInBounds_toArray, List.getElem_toArray, List.getElem_cons_succ, List.getElem_cons_zero, List.set_cons_succ, List.set_cons_zero]
        refine Y_take (i := 9) (v := ?_) rfl (by kernel_rfl) (by kernel_rfl) (by kernel_rfl) (by kernel_rfl) (fun _ _ _ h => h) (by rfl) hS0 ?_ ?_
        rotate_left
        · (intro w' hSw; obtain ⟨s1, s2, s3, s4⟩ := hSw; (try go_simp); (try with_reducible rfl))
        simp only [Act.put, List.setIfInBounds_toArray, List.getElem_toArray, List.getElem_cons_succ, List.getElem_cons_zero, List.set_cons_succ, List.set_cons_zero]
        refine Y_take (i := 10) (v := ?_) rfl (by kernel_rfl) (by kernel_rfl) (by kernel_rfl) (by kernel_rfl) (fun _ _ _ h => h) (by rfl) hS0 ?_ ?_
        rotate_left
        · (intro w' hSw; obtain ⟨s1, s2, s3, s4⟩ := hSw; (try go_simp); (try with_reducible rfl))
        simp only [Act.put, List.setIfInBounds_toArray, List.getElem_toArray, List.getElem_cons_succ, List.getElem_cons_zero, List.set_cons_succ, List.set_cons_zero]
        refine Y_take (i := 11) (v := ?_) rfl (by kernel_rfl) (by kernel_rfl) (by kernel_rfl) (by kernel_rfl) (fun _ _ _ h => h) (by rfl) hS0 ?_ ?_
        rotate_left
        · (intro w' hSw; obtain ⟨s1, s2, s3, s4⟩ := hSw; (try go_simp); (try with_reducible rfl))
        simp only [Act.put, List.setIfInBounds_toArray, List.getElem_toArray, List.getElem_cons_succ, List.getElem_cons_zero, List.set_cons_succ, List.set_cons_zero]
        refine Y_take (i := 12) (v := ?_) rfl (by kernel_rfl) (by kernel_rfl) (by kernel_rfl) (by kernel_rfl) (fun _ _ _ h => h) (by rfl) hS0 ?_ ?_
        rotate_left
        · (intro w' hSw; obtain ⟨s1, s2, s3, s4⟩ := hSw; (try go_simp); (try with_reducible rfl))
        simp only [Act.put, List.setIfInBounds_toArray, List.getElem_toArray, List.getElem_cons_succ, List.getElem_cons_zero, List.set_cons_succ, List.set_cons_zero]
        refine Y_take (i := 13) (v := ?_) rfl (by kernel_rfl) (by kernel_rfl) (by kernel_rfl) (by kernel_rfl) (fun _ _ _ h => h) (by rfl) hS0 ?_ ?_
        rotate_left
        · (intro w' hSw; obtain ⟨s1, s2, s3, s4⟩ := hSw; (try go_simp); (try with_reducible rfl))
        simp only [Act.put, List.setIfInBounds_toArray, List.getElem_toArray, List.getElem_cons_succ, List.getElem_cons_zero, List.set_cons_succ, List.set_cons_zero]
        refine Y_take (i := 14) (v := ?_) rfl (by kernel_rfl) (by kernel_rfl) (by kernel_rfl) (by kernel_rfl) (fun _ _ _ h => h) (by rfl) hS0 ?_ ?_
        rotate_left
        · (intro w' hSw; obtain ⟨s1, s2, s3, s4⟩ := hSw; (try go_simp); (try with_reducible rfl))
        simp only [Act.put, List.setIfInBounds_toArray, List.getElem_toArray, List.getElem_cons_succ, List.getElem_cons_zero, List.set_cons_succ, List.set_cons_zero]
        refine Y_take (i := 15) (v := ?_) rfl (by kernel_rfl) (by kernel_rfl) (by kernel_rfl) (by kernel_rfl) (fun _ _ _ h => h) (by rfl) hS0 ?_ ?_
        rotate_left
        · (intro w' hSw; obtain ⟨s1, s2, s3, s4⟩ := hSw; (try go_simp); (try with_reducible rfl))
        simp only [Act.put, List.setIfInBounds_toArray, List.getElem_toArray, List.getElem_cons_succ, List.getElem_cons_zero, List.set_cons_succ, List.set_cons_zero]
        refine Y_take (i := 16) (v := ?_) rfl (by kernel_rfl) (by kernel_rfl) (by kernel_rfl) (by kernel_rfl) (fun _ _ _ h => h) (by rfl) hS0 ?_ ?_
        rotate_left
        · (intro w' hSw; obtain ⟨s1, s2, s3, s4⟩ := hSw; (try go_simp); (try with_reducible rfl))
        simp only [Act.put, List.setIfInBounds_toArray, List.getElem_toArray, List.getElem_cons_succ, List.getElem_cons_zero, List.set_cons_succ, List.set_cons_zero]
        refine Y_take (i := 17) (v := ?_) rfl (by kernel_rfl) (by kernel_rfl) (by kernel_rfl) (by kernel_rfl) (fun _ _ _ h => h) (by rfl) hS0 ?_ ?_
        rotate_left
        · (intro w' hSw; obtain ⟨s1, s2, s3, s4⟩ := hSw; (try go_simp); (try with_reducible rfl))
        simp only [Act.put, List.setIfInBounds_toArray, List.getElem_toArray, List.getElem_cons_succ, List.getElem_cons_zero, List.set_cons_succ, List.set_cons_zero]
        refine Y_take (i := 18) (v := ?_) rfl (by kernel_rfl) (by kernel_rfl) (by kernel_rfl) (by kernel_rfl) (fun _ _ _ h => h) (by rfl) hS0 ?_ ?_
        rotate_left
        · (intro w' hSw; obtain ⟨s1, s2, s3, s4⟩ := hSw; (try go_simp); (try with_reducible rfl))
        simp only [Act.put, List.setIfInBounds_toArray, List.getElem_toArray, List.getElem_cons_succ, List.getElem_cons_zero, List.set_cons_succ, List.set_cons_zero]
        refine Y_take (i := 19) (v := ?_) rfl (by kernel_rfl) (by kernel_rfl) (by kernel_rfl) (by kernel_rfl) (fun _ _ _ h => h) (by rfl) hS0 ?_ ?_
        rotate_left
        · (intro w' hSw; obtain ⟨s1, s2, s3, s4⟩ := hSw; (try go_simp); (try with_reducible rfl))
        simp only [Act.put, List.setIfInBounds_toArray, List.getElem_toArray, List.getElem_cons_succ, List.getElem_cons_zero, List.set_cons_succ, List.set_cons_zero]
        refine Y_take (i := 20) (v := ?_) rfl (by kernel_rfl) (by kernel_rfl) (by kernel_rfl) (by kernel_rfl) (fun _ _ _ h => h) (by rfl) hS0 ?_ ?_
        rotate_left
        · (intro w' hSw; obtain ⟨s1, s2, s3, s4⟩ := hSw; (try go_simp); (try with_reducible rfl))
        simp only [Act.put, List.setIfInBounds_toArray, List.getElem_toArray, List.getElem_cons_succ, List.getElem_cons_zero, List.set_cons_succ, List.set_cons_zero]
        refine Y_take (i := 21) (v := ?_) rfl (by kernel_rfl) (by kernel_rfl) (by kernel_rfl) (by kernel_rfl) (fun _ _ _ h => h) (by rfl) hS0 ?_ ?_
        rotate_left
        · (intro w' hSw; obtain ⟨s1, s2, s3, s4⟩ := hSw; (try go_simp); (try with_reducible rfl))
        simp only [Act.put, List.setIfInBounds_toArray, List.getElem_toArray, List.getElem_cons_succ, List.getElem_cons_zero, List.set_cons_succ, List.set_cons_zero]
        refine Y_take (i := 22) (v := ?_) rfl (by kernel_rfl) (by kernel_rfl) (by kernel_rfl) (by kernel_rfl) (fun _ _ _ h => h) (by rfl) hS0 ?_ ?_
        rotate_left
        · (intro w' hSw; obtain ⟨s1, s2, s3, s4⟩ := hSw; (try go_simp); (try with_reducible rfl))
        simp only [Act.put, List.setIfInBounds_toArray, List.getElem_toArray, List.getElem_cons_succ, List.getElem_cons_zero, List.set_cons_succ, List.set_cons_zero]
        refine Y_take (i := 23) (v := ?_) rfl (by kernel_rfl) (by kernel_rfl) (by kernel_rfl) (by kernel_rfl) (fun _ _ _ h => h) (by rfl) hS0 ?_ ?_
        rotate_left
        · (intro w' hSw; obtain ⟨s1, s2, s3, s4⟩ := hSw; (try go_simp); (try with_reducible rfl))
        simp only [Act.put, List.setIfInBounds_toArray, List.getElem_toArray, List.getElem_cons_succ, List.getElem_cons_zero, List.set_cons_succ, List.set_cons_zero]
        refine Y_take (i := 24) (v := ?_) rfl (by kernel_rfl) (by kernel_rfl) (by kernel_rfl) (by kernel_rfl) (fun _ _ _ h => h) (by rfl) hS0 ?_ ?_
        rotate_left
        · (intro w' hSw; obtain ⟨s1, s2, s3, s4⟩ := hSw; (try go_simp); (try with_reducible rfl))
        simp only [Act.put, List.setIfInBounds_toArray, List.getElem_toArray, List.getElem_cons_succ, List.getElem_cons_zero, List.set_cons_succ, List.set_cons_zero]
        refine Y_take (i := 25) (v := ?_) rfl (by kernel_rfl) (by kernel_rfl) (by kernel_rfl) (by kernel_rfl) (fun _ _ _ h => h) (by rfl) hS0 ?_ ?_
        rotate_left
        · (intro w' hSw; obtain ⟨s1, s2, s3, s4⟩ := hSw; (try go_simp); (try with_reducible rfl))
        simp only [Act.put, List.setIfInBounds_toArray, List.getElem_toArray, List.getElem_cons_succ, List.getElem_cons_zero, List.set_cons_succ, List.set_cons_zero]
        refine Y_take (i := 26) (v := ?_) rfl (by kernel_rfl) (by kernel_rfl) (by kernel_rfl) (by kernel_rfl) (fun _ _ _ h => h) (by rfl) hS0 ?_ ?_
        rotate_left
        · (intro w' hSw; obtain ⟨s1, s2, s3, s4⟩ := hSw; (try go_simp); (try with_reducible rfl))
        simp only [Act.put, List.setIfInBounds_toArray, List.getElem_toArray, List.getElem_cons_succ, List.getElem_cons_zero, List.set_cons_succ, List.set_cons_zero]
        refine Y_take (i := 27) (v := ?_) rfl (by kernel_rfl) (by kernel_rfl) (by kernel_rfl) (by kernel_rfl) (fun _ _ _ h => h) (by rfl) hS0 ?_ ?_
        rotate_left
        · (intro w' hSw; obtain ⟨s1, s2, s3, s4⟩ := hSw; (try go_simp); (try with_reducible rfl))
        simp only [Act.put, List.setIfInBounds_toArray, List.getElem_toArray, List.getElem_cons_succ, List.getElem_cons_zero, List.set_cons_succ, List.set_cons_zero]
        refine Z_done (by kernel_rfl) ?_ _
        have c0' := hS0.1
        have c1' := hS0.2.1
        clear hS0 c0 c1 c2 c3
        go_wp2_with fail
        go_loopg [72] kn (fun gk j wr => ∃ n : Nat, n + gk = kn ∧ j = .int .i64 n ∧ Below M w5 wr)
        case atStart => exact ⟨0, by omega, rfl, HB.out⟩
        case round =>
          obtain ⟨n, hnn, rfl, hB⟩ := hrel
          by_cases hn1 : n = kn
          · subst hn1
            have hq := HQ.out wr hB
            have a1 := hq.2.1
            have HB : Hid (Below M w5 wr) := hB
            clear hB hq
            go_wp2_with fail
            go_loopg [100] ln (fun gk j wr => ∃ n : Nat, n + gk = ln ∧ j = .int .i64 n ∧ Below M w5 wr)
            case atStart => exact ⟨0, by omega, rfl, HB.out⟩
            case round =>
              obtain ⟨n, hnn, rfl, hB⟩ := hrel
              by_cases hn1 : n = ln
              · subst hn1
                have HB7 : Hid (Below M w5 wr) := hB
                clear hB HB
                go_wp2_with fail
                go_roundg (4 - (i + 1))
                case measure => omega
                case rel => exact ⟨i + 1, by omega, by go_num, HB7.out⟩
              · have hn2 : n < ln := by omega
                have hq := HQ.out wr hB
                obtain ⟨c, ho⟩ : ∃ c, (partP calls pts i)[n]? = some c := ⟨_, List.getElem?_eq_getElem (by have := HL.out.2; omega)⟩
                obtain ⟨g, e1, hg1, -, y1⟩ := SlF.at_len hq.2.2.2.2.2.1 ho
                obtain ⟨g2, e2, hg2, -, y2⟩ := SlF.at_len hq.2.2.2.2.2.2.2 ho
                have hc1 := hq.2.1
                have hc2 := hq.2.2.2.1
                rw [hg1] at hc1
                rw [hg2] at hc2
                have HSE : Hid (∀ W, Below M w5 W → W.cell? ⟨B, i * 2 + 1, none⟩ = some (.slice (some ⟨g, e1, none⟩) ln vc) ∧ W.cell? ⟨h, o + i * 2 + 1, none⟩ = some (.slice (some ⟨g2, e2, none⟩) ln vc2) ∧ (∀ j u, (pks c)[j]? = some u → W.cell? ⟨g, e1 + n * 5 + j, none⟩ = some u) ∧ (∀ j u, (pks c)[j]? = some u → W.cell? ⟨g2, e2 + n * 5 + j, none⟩ = some u)) := fun W hW => by
                  have hq := HQ.out W hW
                  have hc1 := hq.2.1
                  have hc2 := hq.2.2.2.1
                  obtain ⟨g', e1', hg1', -, y1'⟩ := SlF.at_len hq.2.2.2.2.2.1 ho
                  obtain ⟨g2', e2', hg2', -, y2'⟩ := SlF.at_len hq.2.2.2.2.2.2.2 ho
                  rw [hg1] at hg1' hc1
                  rw [hg2] at hg2' hc2
                  injection hg1' with hg1'
                  injection hg1' with hga hgb
                  injection hg2' with hg2'
                  injection hg2' with hgc hgd
                  rw [← hga, ← hgb] at y1'
                  rw [← hgc, ← hgd] at y2'
                  exact ⟨hc1, hc2, y1', y2'⟩
                have d0 : (0 : Int) ≤ (n : Int) := by omega
                have d1 : (n : Int) < (ln : Int) := by omega
                have hnb : n ≤ 100000 := by have := HL.out; have := HLB.out; omega
                have hBd := below_drew hB
                have hSd := HSE.out _ hBd
                obtain ⟨tm, pcl, pno, pT, pE⟩ := c
                have HCL : Hid (∀ W, Below M w5 W → Calls Tryd.prog 14 #[.agg #[.int .i64 tm, .int .i64 pcl, .int .i64 pno, .int .i64 pE, .string (bs pT)]] W fun e W' => e = .returned (.agg #[.int .i64 tm, .int .i64 pcl, .int .i64 pno, .int .i64 pE, .string (bs pT)]) ∧ Below M w5 W') := fun W hW => (point_any tm pcl pno pE pT W).mono fun e W' hh => ⟨hh.1, hW.trans (hh.2.mono (by have := hW.size; have := HM.out; omega))⟩
                have hne := nsame53 tm pcl pno pE pT
                have HBD : Hid (_) := hBd
                clear hq y1 y2 hc1 hc2 hB ho hBd hg1 hg2
                go_upto_region 21 with fail
                refine region_Z 99 (fun W => W.cell? ⟨B, i * 2 + 1, none⟩ = some (.slice (some ⟨g, e1, none⟩) ln vc) ∧ W.cell? ⟨h, o + i * 2 + 1, none⟩ = some (.slice (some ⟨g2, e2, none⟩) ln vc2) ∧ (∀ j u, (pks ⟨tm, pcl, pno, (pT, pE)⟩)[j]? = some u → W.cell? ⟨g, e1 + n * 5 + j, none⟩ = some u) ∧ (∀ j u, (pks ⟨tm, pcl, pno, (pT, pE)⟩)[j]? = some u → W.cell? ⟨g2, e2 + n * 5 + j, none⟩ = some u)) (by kernel_rfl) ?_
                have hS0 := hSd
                refine Y_take (i := 0) (v := ?_) rfl (by kernel_rfl) (by kernel_rfl) (by kernel_rfl) (by kernel_rfl) (fun _ _ _ h => h) (by rfl) hS0 ?_ ?_
                rotate_left
                · (intro w' hSw; obtain ⟨s1, s2, s3, s4⟩ := hSw; have p0 : w'.cell? ⟨g, e1 + n * 5, none⟩ = some (.int .i64 tm) := s3 0 _ rfl; have p1 : w'.cell? ⟨g, e1 + n * 5 + 1, none⟩ = some (.int .i64 pcl) := s3 1 _ rfl; have p2 : w'.cell? ⟨g, e1 + n * 5 + 2, none⟩ = some (.int .i64 pno) := s3 2 _ rfl; have p3 : w'.cell? ⟨g, e1 + n * 5 + 3, none⟩ = some (.int .i64 pE) := s3 3 _ rfl; have p4 : w'.cell? ⟨g, e1 + n * 5 + 4, none⟩ = some (.string (bs pT)) := s3 4 _ rfl; have q0 : w'.cell? ⟨g2, e2 + n * 5, none⟩ = some (.int .i64 tm) := s4 0 _ rfl; have q1 : w'.cell? ⟨g2, e2 + n * 5 + 1, none⟩ = some (.int .i64 pcl) := s4 1 _ rfl; have q2 : w'.cell? ⟨g2, e2 + n * 5 + 2, none⟩ = some (.int .i64 pno) := s4 2 _ rfl; have q3 : w'.cell? ⟨g2, e2 + n * 5 + 3, none⟩ = some (.int .i64 pE) := s4 3 _ rfl; have q4 : w'.cell? ⟨g2, e2 + n * 5 + 4, none⟩ = some (.string (bs pT)) := s4 4 _ rfl; (try go_simp); (try with_reducible rfl))
                simp only [Act.put, List.setIfInBounds_toArray, List.getElem_toArray, List.getElem_cons_zero, List.set_cons_succ, List.set_cons_zero]
                refine Y_take (i := 1) (v := ?_) rfl (by kernel_rfl) (by kernel_rfl) (by kernel_rfl) (by kernel_rfl) (fun _ _ _ h => h) (by rfl) hS0 ?_ ?_
                rotate_left
                · (intro w' hSw; obtain ⟨s1, s2, s3, s4⟩ := hSw; have p0 : w'.cell? ⟨g, e1 + n * 5, none⟩ = some (.int .i64 tm) := s3 0 _ rfl; have p1 : w'.cell? ⟨g, e1 + n * 5 + 1, none⟩ = some (.int .i64 pcl) := s3 1 _ rfl; have p2 : w'.cell? ⟨g, e1 + n * 5 + 2, none⟩ = some (.int .i64 pno) := s3 2 _ rfl; have p3 : w'.cell? ⟨g, e1 + n * 5 + 3, none⟩ = some (.int .i64 pE) := s3 3 _ rfl; have p4 : w'.cell? ⟨g, e1 + n * 5 + 4, none⟩ = some (.string (bs pT)) := s3 4 _ rfl; have q0 : w'.cell? ⟨g2, e2 + n * 5, none⟩ = some (.int .i64 tm) := s4 0 _ rfl; have q1 : w'.cell? ⟨g2, e2 + n * 5 + 1, none⟩ = some (.int .i64 pcl) := s4 1 _ rfl; have q2 : w'.cell? ⟨g2, e2 + n * 5 + 2, none⟩ = some (.int .i64 pno) := s4 2 _ rfl; have q3 : w'.cell? ⟨g2, e2 + n * 5 + 3, none⟩ = some (.int .i64 pE) := s4 3 _ rfl; have q4 : w'.cell? ⟨g2, e2 + n * 5 + 4, none⟩ = some (.string (bs pT)) := s4 4 _ rfl; (try go_simp); (try with_reducible rfl))
                simp only [Act.put, List.setIfInBounds_toArray, List.getElem_toArray, List.getElem_cons_succ, List.getElem_cons_zero, List.set_cons_succ, List.set_cons_zero]
                refine Y_take (i := 2) (v := ?_) rfl (by kernel_rfl) (by kernel_rfl) (by kernel_rfl) (by kernel_rfl) (fun _ _ _ h => h) (by rfl) hS0 ?_ ?_
                rotate_left
                · (intro w' hSw; obtain ⟨s1, s2, s3, s4⟩ := hSw; have p0 : w'.cell? ⟨g, e1 + n * 5, none⟩ = some (.int .i64 tm) := s3 0 _ rfl; have p1 : w'.cell? ⟨g, e1 + n * 5 + 1, none⟩ = some (.int .i64 pcl) := s3 1 _ rfl; have p2 : w'.cell? ⟨g, e1 + n * 5 + 2, none⟩ = some (.int .i64 pno) := s3 2 _ rfl; have p3 : w'.cell? ⟨g, e1 + n * 5 + 3, none⟩ = some (.int .i64 pE) := s3 3 _ rfl; have p4 : w'.cell? ⟨g, e1 + n * 5 + 4, none⟩ = some (.string (bs pT)) := s3 4 _ rfl; have q0 : w'.cell? ⟨g2, e2 + n * 5, none⟩ = some (.int .i64 tm) := s4 0 _ rfl; have q1 : w'.cell? ⟨g2, e2 + n * 5 + 1, none⟩ = some (.int .i64 pcl) := s4 1 _ rfl; have q2 : w'.cell? ⟨g2, e2 + n * 5 + 2, none⟩ = some (.int .i64 pno) := s4 2 _ rfl; have q3 : w'.cell? ⟨g2, e2 + n * 5 + 3, none⟩ = some (.int .i64 pE) := s4 3 _ rfl; have q4 : w'.cell? ⟨g2, e2 + n * 5 + 4, none⟩ = some (.string (bs pT)) := s4 4 _ rfl; (try go_simp); (try with_reducible rfl))
                simp only [Act.put, List.setIfInBounds_toArray, List.getElem_toArray, List.getElem_cons_succ, List.getElem_cons_zero, List.set_cons_succ, List.set_cons_zero]
                refine Y_take (i := 3) (v := ?_) rfl (by kernel_rfl) (by kernel_rfl) (by kernel_rfl) (by kernel_rfl) (fun _ _ _ h => h) (by rfl) hS0 ?_ ?_
                rotate_left
                · (intro w' hSw; obtain ⟨s1, s2, s3, s4⟩ := hSw; have p0 : w'.cell? ⟨g, e1 + n * 5, none⟩ = some (.int .i64 tm) := s3 0 _ rfl; have p1 : w'.cell? ⟨g, e1 + n * 5 + 1, none⟩ = some (.int .i64 pcl) := s3 1 _ rfl; have p2 : w'.cell? ⟨g, e1 + n * 5 + 2, none⟩ = some (.int .i64 pno) := s3 2 _ rfl; have p3 : w'.cell? ⟨g, e1 + n * 5 + 3, none⟩ = some (.int .i64 pE) := s3 3 _ rfl; have p4 : w'.cell? ⟨g, e1 + n * 5 + 4, none⟩ = some (.string (bs pT)) := s3 4 _ rfl; have q0 : w'.cell? ⟨g2, e2 + n * 5, none⟩ = some (.int .i64 tm) := s4 0 _ rfl; have q1 : w'.cell? ⟨g2, e2 + n * 5 + 1, none⟩ = some (.int .i64 pcl) := s4 1 _ rfl; have q2 : w'.cell? ⟨g2, e2 + n * 5 + 2, none⟩ = some (.int .i64 pno) := s4 2 _ rfl; have q3 : w'.cell? ⟨g2, e2 + n * 5 + 3, none⟩ = some (.int .i64 pE) := s4 3 _ rfl; have q4 : w'.cell? ⟨g2, e2 + n * 5 + 4, none⟩ = some (.string (bs pT)) := s4 4 _ rfl; (try go_simp); (try with_reducible rfl))
                simp only [Act.put, List.setIfInBounds_toArray, List.getElem_toArray, List.getElem_cons_succ, List.getElem_cons_zero, List.set_cons_succ, List.set_cons_zero]
                refine Y_take (i := 4) (v := ?_) rfl (by kernel_rfl) (by kernel_rfl) (by kernel_rfl) (by kernel_rfl) (fun _ _ _ h => h) (by rfl) hS0 ?_ ?_
                rotate_left
                · (intro w' hSw; obtain ⟨s1, s2, s3, s4⟩ := hSw; have p0 : w'.cell? ⟨g, e1 + n * 5, none⟩ = some (.int .i64 tm) := s3 0 _ rfl; have p1 : w'.cell? ⟨g, e1 + n * 5 + 1, none⟩ = some (.int .i64 pcl) := s3 1 _ rfl; have p2 : w'.cell? ⟨g, e1 + n * 5 + 2, none⟩ = some (.int .i64 pno) := s3 2 _ rfl; have p3 : w'.cell? ⟨g, e1 + n * 5 + 3, none⟩ = some (.int .i64 pE) := s3 3 _ rfl; have p4 : w'.cell? ⟨g, e1 + n * 5 + 4, none⟩ = some (.string (bs pT)) := s3 4 _ rfl; have q0 : w'.cell? ⟨g2, e2 + n * 5, none⟩ = some (.int .i64 tm) := s4 0 _ rfl; have q1 : w'.cell? ⟨g2, e2 + n * 5 + 1, none⟩ = some (.int .i64 pcl) := s4 1 _ rfl; have q2 : w'.cell? ⟨g2, e2 + n * 5 + 2, none⟩ = some (.int .i64 pno) := s4 2 _ rfl; have q3 : w'.cell? ⟨g2, e2 + n * 5 + 3, none⟩ = some (.int .i64 pE) := s4 3 _ rfl; have q4 : w'.cell? ⟨g2, e2 + n * 5 + 4, none⟩ = some (.string (bs pT)) := s4 4 _ rfl; (try go_simp); (try with_reducible rfl))
                simp only [Act.put, List.setIfInBounds_toArray, List.getElem_toArray, List.getElem_cons_succ, List.getElem_cons_zero, List.set_cons_succ, List.set_cons_zero]
                refine Y_take (i := 5) (v := ?_) rfl (by kernel_rfl) (by kernel_rfl) (by kernel_rfl) (by kernel_rfl) (fun _ _ _ h => h) (by rfl) hS0 ?_ ?_
                rotate_left
                · (intro w' hSw; obtain ⟨s1, s2, s3, s4⟩ := hSw; have p0 : w'.cell? ⟨g, e1 + n * 5, none⟩ = some (.int .i64 tm) := s3 0 _ rfl; have p1 : w'.cell? ⟨g, e1 + n * 5 + 1, none⟩ = some (.int .i64 pcl) := s3 1 _ rfl; have p2 : w'.cell? ⟨g, e1 + n * 5 + 2, none⟩ = some (.int .i64 pno) := s3 2 _ rfl; have p3 : w'.cell? ⟨g, e1 + n * 5 + 3, none⟩ = some (.int .i64 pE) := s3 3 _ rfl; have p4 : w'.cell? ⟨g, e1 + n * 5 + 4, none⟩ = some (.string (bs pT)) := s3 4 _ rfl; have q0 : w'.cell? ⟨g2, e2 + n * 5, none⟩ = some (.int .i64 tm) := s4 0 _ rfl; have q1 : w'.cell? ⟨g2, e2 + n * 5 + 1, none⟩ = some (.int .i64 pcl) := s4 1 _ rfl; have q2 : w'.cell? ⟨g2, e2 + n * 5 + 2, none⟩ = some (.int .i64 pno) := s4 2 _ rfl; have q3 : w'.cell? ⟨g2, e2 + n * 5 + 3, none⟩ = some (.int .i64 pE) := s4 3 _ rfl; have q4 : w'.cell? ⟨g2, e2 + n * 5 + 4, none⟩ = some (.string (bs pT)) := s4 4 _ rfl; (try go_simp); (try with_reducible rfl))
                simp only [Act.put, List.setIfInBounds_toArray, List.getElem_toArray, List.getElem_cons_succ, List.getElem_cons_zero, List.set_cons_succ, List.set_cons_zero]
                refine Y_take (i := 6) (v := ?_) rfl (by kernel_rfl) (by kernel_rfl) (by kernel_rfl) (by kernel_rfl) (fun _ _ _ h => h) (by rfl) hS0 ?_ ?_
                rotate_left
                · (intro w' hSw; obtain ⟨s1, s2, s3, s4⟩ := hSw; have p0 : w'.cell? ⟨g, e1 + n * 5, none⟩ = some (.int .i64 tm) := s3 0 _ rfl; have p1 : w'.cell? ⟨g, e1 + n * 5 + 1, none⟩ = some (.int .i64 pcl) := s3 1 _ rfl; have p2 : w'.cell? ⟨g, e1 + n * 5 + 2, none⟩ = some (.int .i64 pno) := s3 2 _ rfl; have p3 : w'.cell? ⟨g, e1 + n * 5 + 3, none⟩ = some (.int .i64 pE) := s3 3 _ rfl; have p4 : w'.cell? ⟨g, e1 + n * 5 + 4, none⟩ = some (.string (bs pT)) := s3 4 _ rfl; have q0 : w'.cell? ⟨g2, e2 + n * 5, none⟩ = some (.int .i64 tm) := s4 0 _ rfl; have q1 : w'.cell? ⟨g2, e2 + n * 5 + 1, none⟩ = some (.int .i64 pcl) := s4 1 _ rfl; have q2 : w'.cell? ⟨g2, e2 + n * 5 + 2, none⟩ = some (.int .i64 pno) := s4 2 _ rfl; have q3 : w'.cell? ⟨g2, e2 + n * 5 + 3, none⟩ = some (.int .i64 pE) := s4 3 _ rfl; have q4 : w'.cell? ⟨g2, e2 + n * 5 + 4, none⟩ = some (.string (bs pT)) := s4 4 _ rfl; (try go_simp); (try with_reducible rfl))
                simp only [Act.put, List.setIfInBounds_toArray, List.getElem_toArray, List.getElem_cons_succ, List.getElem_cons_zero, List.set_cons_succ, List.set_cons_zero]
                refine Y_take (i := 7) (v := ?_) rfl (by kernel_rfl) (by kernel_rfl) (by kernel_rfl) (by kernel_rfl) (fun _ _ _ h => h) (by rfl) hS0 ?_ ?_
                rotate_left
                · (intro w' hSw; obtain ⟨s1, s2, s3, s4⟩ := hSw; have p0 : w'.cell? ⟨g, e1 + n * 5, none⟩ = some (.int .i64 tm) := s3 0 _ rfl; have p1 : w'.cell? ⟨g, e1 + n * 5 + 1, none⟩ = some (.int .i64 pcl) := s3 1 _ rfl; have p2 : w'.cell? ⟨g, e1 + n * 5 + 2, none⟩ = some (.int .i64 pno) := s3 2 _ rfl; have p3 : w'.cell? ⟨g, e1 + n * 5 + 3, none⟩ = some (.int .i64 pE) := s3 3 _ rfl; have p4 : w'.cell? ⟨g, e1 + n * 5 + 4, none⟩ = some (.string (bs pT)) := s3 4 _ rfl; have q0 : w'.cell? ⟨g2, e2 + n * 5, none⟩ = some (.int .i64 tm) := s4 0 _ rfl; have q1 : w'.cell? ⟨g2, e2 + n * 5 + 1, none⟩ = some (.int .i64 pcl) := s4 1 _ rfl; have q2 : w'.cell? ⟨g2, e2 + n * 5 + 2, none⟩ = some (.int .i64 pno) := s4 2 _ rfl; have q3 : w'.cell? ⟨g2, e2 + n * 5 + 3, none⟩ = some (.int .i64 pE) := s4 3 _ rfl; have q4 : w'.cell? ⟨g2, e2 + n * 5 + 4, none⟩ = some (.string (bs pT)) := s4 4 _ rfl; (try go_simp); (try with_reducible rfl))
                simp only [Act.put, List.setIfInBounds_toArray, List.getElem_toArray, List.getElem_cons_succ, List.getElem_cons_zero, List.set_cons_succ, List.set_cons_zero]
                refine Y_take (i := 9) (v := ?_) rfl (by kernel_rfl) (by kernel_rfl) (by kernel_rfl) (by kernel_rfl) (fun _ _ _ h => h) (by rfl) hS0 ?_ ?_
                rotate_left
                · (intro w' hSw; obtain ⟨s1, s2, s3, s4⟩ := hSw; have p0 : w'.cell? ⟨g, e1 + n * 5, none⟩ = some (.int .i64 tm) := s3 0 _ rfl; have p1 : w'.cell? ⟨g, e1 + n * 5 + 1, none⟩ = some (.int .i64 pcl) := s3 1 _ rfl; have p2 : w'.cell? ⟨g, e1 + n * 5 + 2, none⟩ = some (.int .i64 pno) := s3 2 _ rfl; have p3 : w'.cell? ⟨g, e1 + n * 5 + 3, none⟩ = some (.int .i64 pE) := s3 3 _ rfl; have p4 : w'.cell? ⟨g, e1 + n * 5 + 4, none⟩ = some (.string (bs pT)) := s3 4 _ rfl; have q0 : w'.cell? ⟨g2, e2 + n * 5, none⟩ = some (.int .i64 tm) := s4 0 _ rfl; have q1 : w'.cell? ⟨g2, e2 + n * 5 + 1, none⟩ = some (.int .i64 pcl) := s4 1 _ rfl; have q2 : w'.cell? ⟨g2, e2 + n * 5 + 2, none⟩ = some (.int .i64 pno) := s4 2 _ rfl; have q3 : w'.cell? ⟨g2, e2 + n * 5 + 3, none⟩ = some (.int .i64 pE) := s4 3 _ rfl; have q4 : w'.cell? ⟨g2, e2 + n * 5 + 4, none⟩ = some (.string (bs pT)) := s4 4 _ rfl; (try go_simp); (try with_reducible rfl))
                simp only [Act.put, List.setIfInBounds_toArray, List.getElem_toArray, List.getElem_cons_succ, List.getElem_cons_zero, List.set_cons_succ, List.set_cons_zero]
                refine Y_take (i := 10) (v := ?_) rfl (by kernel_rfl) (by kernel_rfl) (by kernel_rfl) (by kernel_rfl) (fun _ _ _ h => h) (by rfl) hS0 ?_ ?_
                rotate_left
                · (intro w' hSw; obtain ⟨s1, s2, s3, s4⟩ := hSw; have p0 : w'.cell? ⟨g, e1 + n * 5, none⟩ = some (.int .i64 tm) := s3 0 _ rfl; have p1 : w'.cell? ⟨g, e1 + n * 5 + 1, none⟩ = some (.int .i64 pcl) := s3 1 _ rfl; have p2 : w'.cell? ⟨g, e1 + n * 5 + 2, none⟩ = some (.int .i64 pno) := s3 2 _ rfl; have p3 : w'.cell? ⟨g, e1 + n * 5 + 3, none⟩ = some (.int .i64 pE) := s3 3 _ rfl; have p4 : w'.cell? ⟨g, e1 + n * 5 + 4, none⟩ = some (.string (bs pT)) := s3 4 _ rfl; have q0 : w'.cell? ⟨g2, e2 + n * 5, none⟩ = some (.int .i64 tm) := s4 0 _ rfl; have q1 : w'.cell? ⟨g2, e2 + n * 5 + 1, none⟩ = some (.int .i64 pcl) := s4 1 _ rfl; have q2 : w'.cell? ⟨g2, e2 + n * 5 + 2, none⟩ = some (.int .i64 pno) := s4 2 _ rfl; have q3 : w'.cell? ⟨g2, e2 + n * 5 + 3, none⟩ = some (.int .i64 pE) := s4 3 _ rfl; have q4 : w'.cell? ⟨g2, e2 + n * 5 + 4, none⟩ = some (.string (bs pT)) := s4 4 _ rfl; (try go_simp); (try with_reducible rfl))
                simp only [Act.put, List.setIfInBounds_toArray, List.getElem_toArray, List.getElem_cons_succ, List.getElem_cons_zero, List.set_cons_succ, List.set_cons_zero]
                refine Y_take (i := 11) (v := ?_) rfl (by kernel_rfl) (by kernel_rfl) (by kernel_rfl) (by kernel_rfl) (fun _ _ _ h => h) (by rfl) hS0 ?_ ?_
                rotate_left
                · (intro w' hSw; obtain ⟨s1, s2, s3, s4⟩ := hSw; have p0 : w'.cell? ⟨g, e1 + n * 5, none⟩ = some (.int .i64 tm) := s3 0 _ rfl; have p1 : w'.cell? ⟨g, e1 + n * 5 + 1, none⟩ = some (.int .i64 pcl) := s3 1 _ rfl; have p2 : w'.cell? ⟨g, e1 + n * 5 + 2, none⟩ = some (.int .i64 pno) := s3 2 _ rfl; have p3 : w'.cell? ⟨g, e1 + n * 5 + 3, none⟩ = some (.int .i64 pE) := s3 3 _ rfl; have p4 : w'.cell? ⟨g, e1 + n * 5 + 4, none⟩ = some (.string (bs pT)) := s3 4 _ rfl; have q0 : w'.cell? ⟨g2, e2 + n * 5, none⟩ = some (.int .i64 tm) := s4 0 _ rfl; have q1 : w'.cell? ⟨g2, e2 + n * 5 + 1, none⟩ = some (.int .i64 pcl) := s4 1 _ rfl; have q2 : w'.cell? ⟨g2, e2 + n * 5 + 2, none⟩ = some (.int .i64 pno) := s4 2 _ rfl; have q3 : w'.cell? ⟨g2, e2 + n * 5 + 3, none⟩ = some (.int .i64 pE) := s4 3 _ rfl; have q4 : w'.cell? ⟨g2, e2 + n * 5 + 4, none⟩ = some (.string (bs pT)) := s4 4 _ rfl; (try go_simp); (try with_reducible rfl))
                simp only [Act.put, List.setIfInBounds_toArray, List.getElem_toArray, List.getElem_cons_succ, List.getElem_cons_zero, List.set_cons_succ, List.set_cons_zero]
                refine Y_take (i := 12) (v := ?_) rfl (by kernel_rfl) (by kernel_rfl) (by kernel_rfl) (by kernel_rfl) (fun _ _ _ h => h) (by rfl) hS0 ?_ ?_
                rotate_left
                · (intro w' hSw; obtain ⟨s1, s2, s3, s4⟩ := hSw; have p0 : w'.cell? ⟨g, e1 + n * 5, none⟩ = some (.int .i64 tm) := s3 0 _ rfl; have p1 : w'.cell? ⟨g, e1 + n * 5 + 1, none⟩ = some (.int .i64 pcl) := s3 1 _ rfl; have p2 : w'.cell? ⟨g, e1 + n * 5 + 2, none⟩ = some (.int .i64 pno) := s3 2 _ rfl; have p3 : w'.cell? ⟨g, e1 + n * 5 + 3, none⟩ = some (.int .i64 pE) := s3 3 _ rfl; have p4 : w'.cell? ⟨g, e1 + n * 5 + 4, none⟩ = some (.string (bs pT)) := s3 4 _ rfl; have q0 : w'.cell? ⟨g2, e2 + n * 5, none⟩ = some (.int .i64 tm) := s4 0 _ rfl; have q1 : w'.cell? ⟨g2, e2 + n * 5 + 1, none⟩ = some (.int .i64 pcl) := s4 1 _ rfl; have q2 : w'.cell? ⟨g2, e2 + n * 5 + 2, none⟩ = some (.int .i64 pno) := s4 2 _ rfl; have q3 : w'.cell? ⟨g2, e2 + n * 5 + 3, none⟩ = some (.int .i64 pE) := s4 3 _ rfl; have q4 : w'.cell? ⟨g2, e2 + n * 5 + 4, none⟩ = some (.string (bs pT)) := s4 4 _ rfl; (try go_simp); (try with_reducible rfl))
                simp only [Act.put, List.setIfInBounds_toArray, List.getElem_toArray, List.getElem_cons_succ, List.getElem_cons_zero, List.set_cons_succ, List.set_cons_zero]
                refine Y_take (i := 13) (v := ?_) rfl (by kernel_rfl) (by kernel_rfl) (by kernel_rfl) (by kernel_rfl) (fun _ _ _ h => h) (by rfl) hS0 ?_ ?_
                rotate_left
                · (intro w' hSw; obtain ⟨s1, s2, s3, s4⟩ := hSw; have p0 : w'.cell? ⟨g, e1 + n * 5, none⟩ = some (.int .i64 tm) := s3 0 _ rfl; have p1 : w'.cell? ⟨g, e1 + n * 5 + 1, none⟩ = some (.int .i64 pcl) := s3 1 _ rfl; have p2 : w'.cell? ⟨g, e1 + n * 5 + 2, none⟩ = some (.int .i64 pno) := s3 2 _ rfl; have p3 : w'.cell? ⟨g, e1 + n * 5 + 3, none⟩ = some (.int .i64 pE) := s3 3 _ rfl; have p4 : w'.cell? ⟨g, e1 + n * 5 + 4, none⟩ = some (.string (bs pT)) := s3 4 _ rfl; have q0 : w'.cell? ⟨g2, e2 + n * 5, none⟩ = some (.int .i64 tm) := s4 0 _ rfl; have q1 : w'.cell? ⟨g2, e2 + n * 5 + 1, none⟩ = some (.int .i64 pcl) := s4 1 _ rfl; have q2 : w'.cell? ⟨g2, e2 + n * 5 + 2, none⟩ = some (.int .i64 pno) := s4 2 _ rfl; have q3 : w'.cell? ⟨g2, e2 + n * 5 + 3, none⟩ = some (.int .i64 pE) := s4 3 _ rfl; have q4 : w'.cell? ⟨g2, e2 + n * 5 + 4, none⟩ = some (.string (bs pT)) := s4 4 _ rfl; (try go_simp); (try with_reducible rfl))
                simp only [Act.put, List.setIfInBounds_toArray, List.getElem_toArray, List.getElem_cons_succ, List.getElem_cons_zero, List.set_cons_succ, List.set_cons_zero]
                refine Y_take (i := 14) (v := ?_) rfl (by kernel_rfl) (by kernel_rfl) (by kernel_rfl) (by kernel_rfl) (fun _ _ _ h => h) (by rfl) hS0 ?_ ?_
                rotate_left
                · (intro w' hSw; obtain ⟨s1, s2, s3, s4⟩ := hSw; have p0 : w'.cell? ⟨g, e1 + n * 5, none⟩ = some (.int .i64 tm) := s3 0 _ rfl; have p1 : w'.cell? ⟨g, e1 + n * 5 + 1, none⟩ = some (.int .i64 pcl) := s3 1 _ rfl; have p2 : w'.cell? ⟨g, e1 + n * 5 + 2, none⟩ = some (.int .i64 pno) := s3 2 _ rfl; have p3 : w'.cell? ⟨g, e1 + n * 5 + 3, none⟩ = some (.int .i64 pE) := s3 3 _ rfl; have p4 : w'.cell? ⟨g, e1 + n * 5 + 4, none⟩ = some (.string (bs pT)) := s3 4 _ rfl; have q0 : w'.cell? ⟨g2, e2 + n * 5, none⟩ = some (.int .i64 tm) := s4 0 _ rfl; have q1 : w'.cell? ⟨g2, e2 + n * 5 + 1, none⟩ = some (.int .i64 pcl) := s4 1 _ rfl; have q2 : w'.cell? ⟨g2, e2 + n * 5 + 2, none⟩ = some (.int .i64 pno) := s4 2 _ rfl; have q3 : w'.cell? ⟨g2, e2 + n * 5 + 3, none⟩ = some (.int .i64 pE) := s4 3 _ rfl; have q4 : w'.cell? ⟨g2, e2 + n * 5 + 4, none⟩ = some (.string (bs pT)) := s4 4 _ rfl; (try go_simp); (try with_reducible rfl))
                simp only [Act.put, List.setIfInBounds_toArray, List.getElem_toArray, List.getElem_cons_succ, List.getElem_cons_zero, List.set_cons_succ, List.set_cons_zero]
                refine Y_take (i := 15) (v := ?_) rfl (by kernel_rfl) (by kernel_rfl) (by kernel_rfl) (by kernel_rfl) (fun _ _ _ h => h) (by rfl) hS0 ?_ ?_
                rotate_left
                · (intro w' hSw; obtain ⟨s1, s2, s3, s4⟩ := hSw; have p0 : w'.cell? ⟨g, e1 + n * 5, none⟩ = some (.int .i64 tm) := s3 0 _ rfl; have p1 : w'.cell? ⟨g, e1 + n * 5 + 1, none⟩ = some (.int .i64 pcl) := s3 1 _ rfl; have p2 : w'.cell? ⟨g, e1 + n * 5 + 2, none⟩ = some (.int .i64 pno) := s3 2 _ rfl; have p3 : w'.cell? ⟨g, e1 + n * 5 + 3, none⟩ = some (.int .i64 pE) := s3 3 _ rfl; have p4 : w'.cell? ⟨g, e1 + n * 5 + 4, none⟩ = some (.string (bs pT)) := s3 4 _ rfl; have q0 : w'.cell? ⟨g2, e2 + n * 5, none⟩ = some (.int .i64 tm) := s4 0 _ rfl; have q1 : w'.cell? ⟨g2, e2 + n * 5 + 1, none⟩ = some (.int .i64 pcl) := s4 1 _ rfl; have q2 : w'.cell? ⟨g2, e2 + n * 5 + 2, none⟩ = some (.int .i64 pno) := s4 2 _ rfl; have q3 : w'.cell? ⟨g2, e2 + n * 5 + 3, none⟩ = some (.int .i64 pE) := s4 3 _ rfl; have q4 : w'.cell? ⟨g2, e2 + n * 5 + 4, none⟩ = some (.string (bs pT)) := s4 4 _ rfl; (try go_simp); (try with_reducible rfl))
                simp only [Act.put, List.setIfInBounds_toArray, List.getElem_toArray, List.getElem_cons_succ, List.getElem_cons_zero, List.set_cons_succ, List.set_cons_zero]
                refine Y_take (i := 16) (v := ?_) rfl (by kernel_rfl) (by kernel_rfl) (by kernel_rfl) (by kernel_rfl) (fun _ _ _ h => h) (by rfl) hS0 ?_ ?_
                rotate_left
                · (intro w' hSw; obtain ⟨s1, s2, s3, s4⟩ := hSw; have p0 : w'.cell? ⟨g, e1 + n * 5, none⟩ = some (.int .i64 tm) := s3 0 _ rfl; have p1 : w'.cell? ⟨g, e1 + n * 5 + 1, none⟩ = some (.int .i64 pcl) := s3 1 _ rfl; have p2 : w'.cell? ⟨g, e1 + n * 5 + 2, none⟩ = some (.int .i64 pno) := s3 2 _ rfl; have p3 : w'.cell? ⟨g, e1 + n * 5 + 3, none⟩ = some (.int .i64 pE) := s3 3 _ rfl; have p4 : w'.cell? ⟨g, e1 + n * 5 + 4, none⟩ = some (.string (bs pT)) := s3 4 _ rfl; have q0 : w'.cell? ⟨g2, e2 + n * 5, none⟩ = some (.int .i64 tm) := s4 0 _ rfl; have q1 : w'.cell? ⟨g2, e2 + n * 5 + 1, none⟩ = some (.int .i64 pcl) := s4 1 _ rfl; have q2 : w'.cell? ⟨g2, e2 + n * 5 + 2, none⟩ = some (.int .i64 pno) := s4 2 _ rfl; have q3 : w'.cell? ⟨g2, e2 + n * 5 + 3, none⟩ = some (.int .i64 pE) := s4 3 _ rfl; have q4 : w'.cell? ⟨g2, e2 + n * 5 + 4, none⟩ = some (.string (bs pT)) := s4 4 _ rfl; (try go_simp); (try with_reducible rfl))
                simp only [Act.put, List.setIfInBounds_toArray, List.getElem_toArray, List.getElem_cons_succ, List.getElem_cons_zero, List.set_cons_succ, List.set_cons_zero]
                refine Z_step (i := 8) (by kernel_rfl) rfl (fun K' hK => ?_)
                go_simp
                refine (HCL.out _ HBD.out).mono ?_
                rintro e w6 ⟨rfl, hb6⟩
                have hS6 := HSE.out w6 hb6
                refine hK _ _ (fun _ => hS6) ?_
                clear hK K'
                refine Z_step (i := 17) (by kernel_rfl) rfl (fun K' hK => ?_)
                go_simp
                refine hK _ _ (fun _ => hS6) (Z_done (by kernel_rfl) ?_ _)
                clear hK K' hSd hS0 hS6
                have HB6 : Hid (Below M w5 w6) := hb6
                clear hb6
                go_wp2_with fail
                go_roundg (ln - (n + 1))
                case measure => omega
                case rel => exact ⟨n + 1, by omega, by go_num, HB6.out⟩
          · have hn2 : n < kn := by omega
            have hq := HQ.out wr hB
            obtain ⟨c, ho⟩ : ∃ c, (partC calls i)[n]? = some c := ⟨_, List.getElem?_eq_getElem (by have := HL.out.1; omega)⟩
            obtain ⟨g, e1, hg1, -, y1⟩ := SlF.at_len hq.2.2.2.2.1 ho
            obtain ⟨g2, e2, hg2, -, y2⟩ := SlF.at_len hq.2.2.2.2.2.2.1 ho
            have hc1 := hq.1
            have hc2 := hq.2.2.1
            rw [hg1] at hc1
            rw [hg2] at hc2
            have HSE : Hid (∀ W, Below M w5 W → W.cell? ⟨B, i * 2, none⟩ = some (.slice (some ⟨g, e1, none⟩) kn uc) ∧ W.cell? ⟨h, o + i * 2, none⟩ = some (.slice (some ⟨g2, e2, none⟩) kn uc2) ∧ (∀ j u, (ccs c)[j]? = some u → W.cell? ⟨g, e1 + n * 10 + j, none⟩ = some u) ∧ (∀ j u, (ccs c)[j]? = some u → W.cell? ⟨g2, e2 + n * 10 + j, none⟩ = some u)) := fun W hW => by
              have hq := HQ.out W hW
              have hc1 := hq.1
              have hc2 := hq.2.2.1
              obtain ⟨g', e1', hg1', -, y1'⟩ := SlF.at_len hq.2.2.2.2.1 ho
              obtain ⟨g2', e2', hg2', -, y2'⟩ := SlF.at_len hq.2.2.2.2.2.2.1 ho
              rw [hg1] at hg1' hc1
              rw [hg2] at hg2' hc2
              injection hg1' with hg1'
              injection hg1' with hga hgb
              injection hg2' with hg2'
              injection hg2' with hgc hgd
              rw [← hga, ← hgb] at y1'
              rw [← hgc, ← hgd] at y2'
              exact ⟨hc1, hc2, y1', y2'⟩
            have d0 : (0 : Int) ≤ (n : Int) := by omega
            have d1 : (n : Int) < (kn : Int) := by omega
            have hnb : n ≤ 100000 := by have := HL.out; have := HLB.out; omega
            have hBd := below_drew hB
            have hSd := HSE.out _ hBd
            obtain ⟨cl, no, ⟨kind, k, v, od⟩, fr, tt, T, E⟩ := c
            have HCL : Hid (∀ W, Below M w5 W → Calls Tryd.prog 13 #[.agg #[.int .i64 cl, .int .i64 no, .int .i64 kind, .string (bs k), .string (bs v), .string (bs od), .int .i64 fr, .int .i64 tt, .int .i64 E, .string (bs T)]] W fun e W' => e = .returned (.agg #[.int .i64 cl, .int .i64 no, .int .i64 kind, .string (bs k), .string (bs v), .string (bs od), .int .i64 fr, .int .i64 tt, .int .i64 E, .string (bs T)]) ∧ Below M w5 W') := fun W hW => (call_any cl no kind k v od fr tt E T W).mono fun e W' hh => ⟨hh.1, hW.trans (hh.2.mono (by have := hW.size; have := HM.out; omega))⟩
            have hne := nsame45 cl no kind k v od fr tt E T
            have HBD : Hid (_) := hBd
            clear hq y1 y2 hc1 hc2 hB ho hBd hg1 hg2
            go_upto_region 15 with fail
            refine region_Z 99 (fun W => W.cell? ⟨B, i * 2, none⟩ = some (.slice (some ⟨g, e1, none⟩) kn uc) ∧ W.cell? ⟨h, o + i * 2, none⟩ = some (.slice (some ⟨g2, e2, none⟩) kn uc2) ∧ (∀ j u, (ccs ⟨cl, no, ⟨kind, k, v, od⟩, fr, tt, (T, E)⟩)[j]? = some u → W.cell? ⟨g, e1 + n * 10 + j, none⟩ = some u) ∧ (∀ j u, (ccs ⟨cl, no, ⟨kind, k, v, od⟩, fr, tt, (T, E)⟩)[j]? = some u → W.cell? ⟨g2, e2 + n * 10 + j, none⟩ = some u)) (by kernel_rfl) ?_
            have hS0 := hSd
            refine Y_take (i := 0) (v := ?_) rfl (by kernel_rfl) (by kernel_rfl) (by kernel_rfl) (by kernel_rfl) (fun _ _ _ h => h) (by rfl) hS0 ?_ ?_
            rotate_left
            · (intro w' hSw; obtain ⟨s1, s2, s3, s4⟩ := hSw; have p0 : w'.cell? ⟨g, e1 + n * 10, none⟩ = some (.int .i64 cl) := s3 0 _ rfl; have p1 : w'.cell? ⟨g, e1 + n * 10 + 1, none⟩ = some (.int .i64 no) := s3 1 _ rfl; have p2 : w'.cell? ⟨g, e1 + n * 10 + 2, none⟩ = some (.int .i64 kind) := s3 2 _ rfl; have p3 : w'.cell? ⟨g, e1 + n * 10 + 3, none⟩ = some (.string (bs k)) := s3 3 _ rfl; have p4 : w'.cell? ⟨g, e1 + n * 10 + 4, none⟩ = some (.string (bs v)) := s3 4 _ rfl; have p5 : w'.cell? ⟨g, e1 + n * 10 + 5, none⟩ = some (.string (bs od)) := s3 5 _ rfl; have p6 : w'.cell? ⟨g, e1 + n * 10 + 6, none⟩ = some (.int .i64 fr) := s3 6 _ rfl; have p7 : w'.cell? ⟨g, e1 + n * 10 + 7, none⟩ = some (.int .i64 tt) := s3 7 _ rfl; have p8 : w'.cell? ⟨g, e1 + n * 10 + 8, none⟩ = some (.int .i64 E) := s3 8 _ rfl; have p9 : w'.cell? ⟨g, e1 + n * 10 + 9, none⟩ = some (.string (bs T)) := s3 9 _ rfl; have q0 : w'.cell? ⟨g2, e2 + n * 10, none⟩ = some (.int .i64 cl) := s4 0 _ rfl; have q1 : w'.cell? ⟨g2, e2 + n * 10 + 1, none⟩ = some (.int .i64 no) := s4 1 _ rfl; have q2 : w'.cell? ⟨g2, e2 + n * 10 + 2, none⟩ = some (.int .i64 kind) := s4 2 _ rfl; have q3 : w'.cell? ⟨g2, e2 + n * 10 + 3, none⟩ = some (.string (bs k)) := s4 3 _ rfl; have q4 : w'.cell? ⟨g2, e2 + n * 10 + 4, none⟩ = some (.string (bs v)) := s4 4 _ rfl; have q5 : w'.cell? ⟨g2, e2 + n * 10 + 5, none⟩ = some (.string (bs od)) := s4 5 _ rfl; have q6 : w'.cell? ⟨g2, e2 + n * 10 + 6, none⟩ = some (.int .i64 fr) := s4 6 _ rfl; have q7 : w'.cell? ⟨g2, e2 + n * 10 + 7, none⟩ = some (.int .i64 tt) := s4 7 _ rfl; have q8 : w'.cell? ⟨g2, e2 + n * 10 + 8, none⟩ = some (.int .i64 E) := s4 8 _ rfl; have q9 : w'.cell? ⟨g2, e2 + n * 10 + 9, none⟩ = some (.string (bs T)) := s4 9 _ rfl; (try go_simp); (try with_reducible rfl))
            simp only [Act.put, List.setIfInBounds_toArray, List.getElem_toArray, List.getElem_cons_zero, List.set_cons_succ, List.set_cons_zero]
            refine Y_take (i := 1) (v := ?_) rfl (by kernel_rfl) (by kernel_rfl) (by kernel_rfl) (by kernel_rfl) (fun _ _ _ h => h) (by rfl) hS0 ?_ ?_
            rotate_left
            · (intro w' hSw; obtain ⟨s1, s2, s3, s4⟩ := hSw; have p0 : w'.cell? ⟨g, e1 + n * 10, none⟩ = some (.int .i64 cl) := s3 0 _ rfl; have p1 : w'.cell? ⟨g, e1 + n * 10 + 1, none⟩ = some (.int .i64 no) := s3 1 _ rfl; have p2 : w'.cell? ⟨g, e1 + n * 10 + 2, none⟩ = some (.int .i64 kind) := s3 2 _ rfl; have p3 : w'.cell? ⟨g, e1 + n * 10 + 3, none⟩ = some (.string (bs k)) := s3 3 _ rfl; have p4 : w'.cell? ⟨g, e1 + n * 10 + 4, none⟩ = some (.string (bs v)) := s3 4 _ rfl; have p5 : w'.cell? ⟨g, e1 + n * 10 + 5, none⟩ = some (.string (bs od)) := s3 5 _ rfl; have p6 : w'.cell? ⟨g, e1 + n * 10 + 6, none⟩ = some (.int .i64 fr) := s3 6 _ rfl; have p7 : w'.cell? ⟨g, e1 + n * 10 + 7, none⟩ = some (.int .i64 tt) := s3 7 _ rfl; have p8 : w'.cell? ⟨g, e1 + n * 10 + 8, none⟩ = some (.int .i64 E) := s3 8 _ rfl; have p9 : w'.cell? ⟨g, e1 + n * 10 + 9, none⟩ = some (.string (bs T)) := s3 9 _ rfl; have q0 : w'.cell? ⟨g2, e2 + n * 10, none⟩ = some (.int .i64 cl) := s4 0 _ rfl; have q1 : w'.cell? ⟨g2, e2 + n * 10 + 1, none⟩ = some (.int .i64 no) := s4 1 _ rfl; have q2 : w'.cell? ⟨g2, e2 + n * 10 + 2, none⟩ = some (.int .i64 kind) := s4 2 _ rfl; have q3 : w'.cell? ⟨g2, e2 + n * 10 + 3, none⟩ = some (.string (bs k)) := s4 3 _ rfl; have q4 : w'.cell? ⟨g2, e2 + n * 10 + 4, none⟩ = some (.string (bs v)) := s4 4 _ rfl; have q5 : w'.cell? ⟨g2, e2 + n * 10 + 5, none⟩ = some (.string (bs od)) := s4 5 _ rfl; have q6 : w'.cell? ⟨g2, e2 + n * 10 + 6, none⟩ = some (.int .i64 fr) := s4 6 _ rfl; have q7 : w'.cell? ⟨g2, e2 + n * 10 + 7, none⟩ = some (.int .i64 tt) := s4 7 _ rfl; have q8 : w'.cell? ⟨g2, e2 + n * 10 + 8, none⟩ = some (.int .i64 E) := s4 8 _ rfl; have q9 : w'.cell? ⟨g2, e2 + n * 10 + 9, none⟩ = some (.string (bs T)) := s4 9 _ rfl; (try go_simp); (try with_reducible rfl))
            simp only [Act.put, List.setIfInBounds_toArray, List.getElem_toArray, List.getElem_cons_succ, List.getElem_cons_zero, List.set_cons_succ, List.set_cons_zero]
            refine Y_take (i := 2) (v := ?_) rfl (by kernel_rfl) (by kernel_rfl) (by kernel_rfl) (by kernel_rfl) (fun _ _ _ h => h) (by rfl) hS0 ?_ ?_
            rotate_left
            · (intro w' hSw; obtain ⟨s1, s2, s3, s4⟩ := hSw; have p0 : w'.cell? ⟨g, e1 + n * 10, none⟩ = some (.int .i64 cl) := s3 0 _ rfl; have p1 : w'.cell? ⟨g, e1 + n * 10 + 1, none⟩ = some (.int .i64 no) := s3 1 _ rfl; have p2 : w'.cell? ⟨g, e1 + n * 10 + 2, none⟩ = some (.int .i64 kind) := s3 2 _ rfl; have p3 : w'.cell? ⟨g, e1 + n * 10 + 3, none⟩ = some (.string (bs k)) := s3 3 _ rfl; have p4 : w'.cell? ⟨g, e1 + n * 10 + 4, none⟩ = some (.string (bs v)) := s3 4 _ rfl; have p5 : w'.cell? ⟨g, e1 + n * 10 + 5, none⟩ = some (.string (bs od)) := s3 5 _ rfl; have p6 : w'.cell? ⟨g, e1 + n * 10 + 6, none⟩ = some (.int .i64 fr) := s3 6 _ rfl; have p7 : w'.cell? ⟨g, e1 + n * 10 + 7, none⟩ = some (.int .i64 tt) := s3 7 _ rfl; have p8 : w'.cell? ⟨g, e1 + n * 10 + 8, none⟩ = some (.int .i64 E) := s3 8 _ rfl; have p9 : w'.cell? ⟨g, e1 + n * 10 + 9, none⟩ = some (.string (bs T)) := s3 9 _ rfl; have q0 : w'.cell? ⟨g2, e2 + n * 10, none⟩ = some (.int .i64 cl) := s4 0 _ rfl; have q1 : w'.cell? ⟨g2, e2 + n * 10 + 1, none⟩ = some (.int .i64 no) := s4 1 _ rfl; have q2 : w'.cell? ⟨g2, e2 + n * 10 + 2, none⟩ = some (.int .i64 kind) := s4 2 _ rfl; have q3 : w'.cell? ⟨g2, e2 + n * 10 + 3, none⟩ = some (.string (bs k)) := s4 3 _ rfl; have q4 : w'.cell? ⟨g2, e2 + n * 10 + 4, none⟩ = some (.string (bs v)) := s4 4 _ rfl; have q5 : w'.cell? ⟨g2, e2 + n * 10 + 5, none⟩ = some (.string (bs od)) := s4 5 _ rfl; have q6 : w'.cell? ⟨g2, e2 + n * 10 + 6, none⟩ = some (.int .i64 fr) := s4 6 _ rfl; have q7 : w'.cell? ⟨g2, e2 + n * 10 + 7, none⟩ = some (.int .i64 tt) := s4 7 _ rfl; have q8 : w'.cell? ⟨g2, e2 + n * 10 + 8, none⟩ = some (.int .i64 E) := s4 8 _ rfl; have q9 : w'.cell? ⟨g2, e2 + n * 10 + 9, none⟩ = some (.string (bs T)) := s4 9 _ rfl; (try go_simp); (try with_reducible rfl))
            simp only [Act.put, List.setIfInBounds_toArray, List.getElem_toArray, List.getElem_cons_succ, List.getElem_cons_zero, List.set_cons_succ, List.set_cons_zero]
            refine Y_take (i := 3) (v := ?_) rfl (by kernel_rfl) (by kernel_rfl) (by kernel_rfl) (by kernel_rfl) (fun _ _ _ h => h) (by rfl) hS0 ?_ ?_
            rotate_left
            · (intro w' hSw; obtain ⟨s1, s2, s3, s4⟩ := hSw; have p0 : w'.cell? ⟨g, e1 + n * 10, none⟩ = some (.int .i64 cl) := s3 0 _ rfl; have p1 : w'.cell? ⟨g, e1 + n * 10 + 1, none⟩ = some (.int .i64 no) := s3 1 _ rfl; have p2 : w'.cell? ⟨g, e1 + n * 10 + 2, none⟩ = some (.int .i64 kind) := s3 2 _ rfl; have p3 : w'.cell? ⟨g, e1 + n * 10 + 3, none⟩ = some (.string (bs k)) := s3 3 _ rfl; have p4 : w'.cell? ⟨g, e1 + n * 10 + 4, none⟩ = some (.string (bs v)) := s3 4 _ rfl; have p5 : w'.cell? ⟨g, e1 + n * 10 + 5, none⟩ = some (.string (bs od)) := s3 5 _ rfl; have p6 : w'.cell? ⟨g, e1 + n * 10 + 6, none⟩ = some (.int .i64 fr) := s3 6 _ rfl; have p7 : w'.cell? ⟨g, e1 + n * 10 + 7, none⟩ = some (.int .i64 tt) := s3 7 _ rfl; have p8 : w'.cell? ⟨g, e1 + n * 10 + 8, none⟩ = some (.int .i64 E) := s3 8 _ rfl; have p9 : w'.cell? ⟨g, e1 + n * 10 + 9, none⟩ = some (.string (bs T)) := s3 9 _ rfl; have q0 : w'.cell? ⟨g2, e2 + n * 10, none⟩ = some (.int .i64 cl) := s4 0 _ rfl; have q1 : w'.cell? ⟨g2, e2 + n * 10 + 1, none⟩ = some (.int .i64 no) := s4 1 _ rfl; have q2 : w'.cell? ⟨g2, e2 + n * 10 + 2, none⟩ = some (.int .i64 kind) := s4 2 _ rfl; have q3 : w'.cell? ⟨g2, e2 + n * 10 + 3, none⟩ = some (.string (bs k)) := s4 3 _ rfl; have q4 : w'.cell? ⟨g2, e2 + n * 10 + 4, none⟩ = some (.string (bs v)) := s4 4 _ rfl; have q5 : w'.cell? ⟨g2, e2 + n * 10 + 5, none⟩ = some (.string (bs od)) := s4 5 _ rfl; have q6 : w'.cell? ⟨g2, e2 + n * 10 + 6, none⟩ = some (.int .i64 fr) := s4 6 _ rfl; have q7 : w'.cell? ⟨g2, e2 + n * 10 + 7, none⟩ = some (.int .i64 tt) := s4 7 _ rfl; have q8 : w'.cell? ⟨g2, e2 + n * 10 + 8, none⟩ = some (.int .i64 E) := s4 8 _ rfl; have q9 : w'.cell? ⟨g2, e2 + n * 10 + 9, none⟩ = some (.string (bs T)) := s4 9 _ rfl; (try go_simp); (try with_reducible rfl))
            simp only [Act.put, List.setIfInBounds_toArray, List.getElem_toArray, List.getElem_cons_succ, List.getElem_cons_zero, List.set_cons_succ, List.set_cons_zero]
            refine Y_take (i := 4) (v := ?_) rfl (by kernel_rfl) (by kernel_rfl) (by kernel_rfl) (by kernel_rfl) (fun _ _ _ h => h) (by rfl) hS0 ?_ ?_
            rotate_left
            · (intro w' hSw; obtain ⟨s1, s2, s3, s4⟩ := hSw; have p0 : w'.cell? ⟨g, e1 + n * 10, none⟩ = some (.int .i64 cl) := s3 0 _ rfl; have p1 : w'.cell? ⟨g, e1 + n * 10 + 1, none⟩ = some (.int .i64 no) := s3 1 _ rfl; have p2 : w'.cell? ⟨g, e1 + n * 10 + 2, none⟩ = some (.int .i64 kind) := s3 2 _ rfl; have p3 : w'.cell? ⟨g, e1 + n * 10 + 3, none⟩ = some (.string (bs k)) := s3 3 _ rfl; have p4 : w'.cell? ⟨g, e1 + n * 10 + 4, none⟩ = some (.string (bs v)) := s3 4 _ rfl; have p5 : w'.cell? ⟨g, e1 + n * 10 + 5, none⟩ = some (.string (bs od)) := s3 5 _ rfl; have p6 : w'.cell? ⟨g, e1 + n * 10 + 6, none⟩ = some (.int .i64 fr) := s3 6 _ rfl; have p7 : w'.cell? ⟨g, e1 + n * 10 + 7, none⟩ = some (.int .i64 tt) := s3 7 _ rfl; have p8 : w'.cell? ⟨g, e1 + n * 10 + 8, none⟩ = some (.int .i64 E) := s3 8 _ rfl; have p9 : w'.cell? ⟨g, e1 + n * 10 + 9, none⟩ = some (.string (bs T)) := s3 9 _ rfl; have q0 : w'.cell? ⟨g2, e2 + n * 10, none⟩ = some (.int .i64 cl) := s4 0 _ rfl; have q1 : w'.cell? ⟨g2, e2 + n * 10 + 1, none⟩ = some (.int .i64 no) := s4 1 _ rfl; have q2 : w'.cell? ⟨g2, e2 + n * 10 + 2, none⟩ = some (.int .i64 kind) := s4 2 _ rfl; have q3 : w'.cell? ⟨g2, e2 + n * 10 + 3, none⟩ = some (.string (bs k)) := s4 3 _ rfl; have q4 : w'.cell? ⟨g2, e2 + n * 10 + 4, none⟩ = some (.string (bs v)) := s4 4 _ rfl; have q5 : w'.cell? ⟨g2, e2 + n * 10 + 5, none⟩ = some (.string (bs od)) := s4 5 _ rfl; have q6 : w'.cell? ⟨g2, e2 + n * 10 + 6, none⟩ = some (.int .i64 fr) := s4 6 _ rfl; have q7 : w'.cell? ⟨g2, e2 + n * 10 + 7, none⟩ = some (.int .i64 tt) := s4 7 _ rfl; have q8 : w'.cell? ⟨g2, e2 + n * 10 + 8, none⟩ = some (.int .i64 E) := s4 8 _ rfl; have q9 : w'.cell? ⟨g2, e2 + n * 10 + 9, none⟩ = some (.string (bs T)) := s4 9 _ rfl; (try go_simp); (try with_reducible rfl))
            simp only [Act.put, List.setIfInBounds_toArray, List.getElem_toArray, List.getElem_cons_succ, List.getElem_cons_zero, List.set_cons_succ, List.set_cons_zero]
            refine Y_take (i := 5) (v := ?_) rfl (by kernel_rfl) (by kernel_rfl) (by kernel_rfl) (by kernel_rfl) (fun _ _ _ h => h) (by rfl) hS0 ?_ ?_
            rotate_left
            · (intro w' hSw; obtain ⟨s1, s2, s3, s4⟩ := hSw; have p0 : w'.cell? ⟨g, e1 + n * 10, none⟩ = some (.int .i64 cl) := s3 0 _ rfl; have p1 : w'.cell? ⟨g, e1 + n * 10 + 1, none⟩ = some (.int .i64 no) := s3 1 _ rfl; have p2 : w'.cell? ⟨g, e1 + n * 10 + 2, none⟩ = some (.int .i64 kind) := s3 2 _ rfl; have p3 : w'.cell? ⟨g, e1 + n * 10 + 3, none⟩ = some (.string (bs k)) := s3 3 _ rfl; have p4 : w'.cell? ⟨g, e1 + n * 10 + 4, none⟩ = some (.string (bs v)) := s3 4 _ rfl; have p5 : w'.cell? ⟨g, e1 + n * 10 + 5, none⟩ = some (.string (bs od)) := s3 5 _ rfl; have p6 : w'.cell? ⟨g, e1 + n * 10 + 6, none⟩ = some (.int .i64 fr) := s3 6 _ rfl; have p7 : w'.cell? ⟨g, e1 + n * 10 + 7, none⟩ = some (.int .i64 tt) := s3 7 _ rfl; have p8 : w'.cell? ⟨g, e1 + n * 10 + 8, none⟩ = some (.int .i64 E) := s3 8 _ rfl; have p9 : w'.cell? ⟨g, e1 + n * 10 + 9, none⟩ = some (.string (bs T)) := s3 9 _ rfl; have q0 : w'.cell? ⟨g2, e2 + n * 10, none⟩ = some (.int .i64 cl) := s4 0 _ rfl; have q1 : w'.cell? ⟨g2, e2 + n * 10 + 1, none⟩ = some (.int .i64 no) := s4 1 _ rfl; have q2 : w'.cell? ⟨g2, e2 + n * 10 + 2, none⟩ = some (.int .i64 kind) := s4 2 _ rfl; have q3 : w'.cell? ⟨g2, e2 + n * 10 + 3, none⟩ = some (.string (bs k)) := s4 3 _ rfl; have q4 : w'.cell? ⟨g2, e2 + n * 10 + 4, none⟩ = some (.string (bs v)) := s4 4 _ rfl; have q5 : w'.cell? ⟨g2, e2 + n * 10 + 5, none⟩ = some (.string (bs od)) := s4 5 _ rfl; have q6 : w'.cell? ⟨g2, e2 + n * 10 + 6, none⟩ = some (.int .i64 fr) := s4 6 _ rfl; have q7 : w'.cell? ⟨g2, e2 + n * 10 + 7, none⟩ = some (.int .i64 tt) := s4 7 _ rfl; have q8 : w'.cell? ⟨g2, e2 + n * 10 + 8, none⟩ = some (.int .i64 E) := s4 8 _ rfl; have q9 : w'.cell? ⟨g2, e2 + n * 10 + 9, none⟩ = some (.string (bs T)) := s4 9 _ rfl; (try go_simp); (try with_reducible rfl))
            simp only [Act.put, List.setIfInBounds_toArray, List.getElem_toArray, List.getElem_cons_succ, List.getElem_cons_zero, List.set_cons_succ, List.set_cons_zero]
            refine Y_take (i := 6) (v := ?_) rfl (by kernel_rfl) (by kernel_rfl) (by kernel_rfl) (by kernel_rfl) (fun _ _ _ h => h) (by rfl) hS0 ?_ ?_
            rotate_left
            · (intro w' hSw; obtain ⟨s1, s2, s3, s4⟩ := hSw; have p0 : w'.cell? ⟨g, e1 + n * 10, none⟩ = some (.int .i64 cl) := s3 0 _ rfl; have p1 : w'.cell? ⟨g, e1 + n * 10 + 1, none⟩ = some (.int .i64 no) := s3 1 _ rfl; have p2 : w'.cell? ⟨g, e1 + n * 10 + 2, none⟩ = some (.int .i64 kind) := s3 2 _ rfl; have p3 : w'.cell? ⟨g, e1 + n * 10 + 3, none⟩ = some (.string (bs k)) := s3 3 _ rfl; have p4 : w'.cell? ⟨g, e1 + n * 10 + 4, none⟩ = some (.string (bs v)) := s3 4 _ rfl; have p5 : w'.cell? ⟨g, e1 + n * 10 + 5, none⟩ = some (.string (bs od)) := s3 5 _ rfl; have p6 : w'.cell? ⟨g, e1 + n * 10 + 6, none⟩ = some (.int .i64 fr) := s3 6 _ rfl; have p7 : w'.cell? ⟨g, e1 + n * 10 + 7, none⟩ = some (.int .i64 tt) := s3 7 _ rfl; have p8 : w'.cell? ⟨g, e1 + n * 10 + 8, none⟩ = some (.int .i64 E) := s3 8 _ rfl; have p9 : w'.cell? ⟨g, e1 + n * 10 + 9, none⟩ = some (.string (bs T)) := s3 9 _ rfl; have q0 : w'.cell? ⟨g2, e2 + n * 10, none⟩ = some (.int .i64 cl) := s4 0 _ rfl; have q1 : w'.cell? ⟨g2, e2 + n * 10 + 1, none⟩ = some (.int .i64 no) := s4 1 _ rfl; have q2 : w'.cell? ⟨g2, e2 + n * 10 + 2, none⟩ = some (.int .i64 kind) := s4 2 _ rfl; have q3 : w'.cell? ⟨g2, e2 + n * 10 + 3, none⟩ = some (.string (bs k)) := s4 3 _ rfl; have q4 : w'.cell? ⟨g2, e2 + n * 10 + 4, none⟩ = some (.string (bs v)) := s4 4 _ rfl; have q5 : w'.cell? ⟨g2, e2 + n * 10 + 5, none⟩ = some (.string (bs od)) := s4 5 _ rfl; have q6 : w'.cell? ⟨g2, e2 + n * 10 + 6, none⟩ = some (.int .i64 fr) := s4 6 _ rfl; have q7 : w'.cell? ⟨g2, e2 + n * 10 + 7, none⟩ = some (.int .i64 tt) := s4 7 _ rfl; have q8 : w'.cell? ⟨g2, e2 + n * 10 + 8, none⟩ = some (.int .i64 E) := s4 8 _ rfl; have q9 : w'.cell? ⟨g2, e2 + n * 10 + 9, none⟩ = some (.string (bs T)) := s4 9 _ rfl; (try go_simp); (try with_reducible rfl))
            simp only [Act.put, List.setIfInBounds_toArray, List.getElem_toArray, List.getElem_cons_succ, List.getElem_cons_zero, List.set_cons_succ, List.set_cons_zero]
            refine Y_take (i := 7) (v := ?_) rfl (by kernel_rfl) (by kernel_rfl) (by kernel_rfl) (by kernel_rfl) (fun _ _ _ h => h) (by rfl) hS0 ?_ ?_
            rotate_left
            · (intro w' hSw; obtain ⟨s1, s2, s3, s4⟩ := hSw; have p0 : w'.cell? ⟨g, e1 + n * 10, none⟩ = some (.int .i64 cl) := s3 0 _ rfl; have p1 : w'.cell? ⟨g, e1 + n * 10 + 1, none⟩ = some (.int .i64 no) := s3 1 _ rfl; have p2 : w'.cell? ⟨g, e1 + n * 10 + 2, none⟩ = some (.int .i64 kind) := s3 2 _ rfl; have p3 : w'.cell? ⟨g, e1 + n * 10 + 3, none⟩ = some (.string (bs k)) := s3 3 _ rfl; have p4 : w'.cell? ⟨g, e1 + n * 10 + 4, none⟩ = some (.string (bs v)) := s3 4 _ rfl; have p5 : w'.cell? ⟨g, e1 + n * 10 + 5, none⟩ = some (.string (bs od)) := s3 5 _ rfl; have p6 : w'.cell? ⟨g, e1 + n * 10 + 6, none⟩ = some (.int .i64 fr) := s3 6 _ rfl; have p7 : w'.cell? ⟨g, e1 + n * 10 + 7, none⟩ = some (.int .i64 tt) := s3 7 _ rfl; have p8 : w'.cell? ⟨g, e1 + n * 10 + 8, none⟩ = some (.int .i64 E) := s3 8 _ rfl; have p9 : w'.cell? ⟨g, e1 + n * 10 + 9, none⟩ = some (.string (bs T)) := s3 9 _ rfl; have q0 : w'.cell? ⟨g2, e2 + n * 10, none⟩ = some (.int .i64 cl) := s4 0 _ rfl; have q1 : w'.cell? ⟨g2, e2 + n * 10 + 1, none⟩ = some (.int .i64 no) := s4 1 _ rfl; have q2 : w'.cell? ⟨g2, e2 + n * 10 + 2, none⟩ = some (.int .i64 kind) := s4 2 _ rfl; have q3 : w'.cell? ⟨g2, e2 + n * 10 + 3, none⟩ = some (.string (bs k)) := s4 3 _ rfl; have q4 : w'.cell? ⟨g2, e2 + n * 10 + 4, none⟩ = some (.string (bs v)) := s4 4 _ rfl; have q5 : w'.cell? ⟨g2, e2 + n * 10 + 5, none⟩ = some (.string (bs od)) := s4 5 _ rfl; have q6 : w'.cell? ⟨g2, e2 + n * 10 + 6, none⟩ = some (.int .i64 fr) := s4 6 _ rfl; have q7 : w'.cell? ⟨g2, e2 + n * 10 + 7, none⟩ = some (.int .i64 tt) := s4 7 _ rfl; have q8 : w'.cell? ⟨g2, e2 + n * 10 + 8, none⟩ = some (.int .i64 E) := s4 8 _ rfl; have q9 : w'.cell? ⟨g2, e2 + n * 10 + 9, none⟩ = some (.string (bs T)) := s4 9 _ rfl; (try go_simp); (try with_reducible rfl))
            simp only [Act.put, List.setIfInBounds_toArray, List.getElem_toArray, List.getElem_cons_succ, List.getElem_cons_zero, List.set_cons_succ, List.set_cons_zero]
            refine Y_take (i := 9) (v := ?_) rfl (by kernel_rfl) (by kernel_rfl) (by kernel_rfl) (by kernel_rfl) (fun _ _ _ h => h) (by rfl) hS0 ?_ ?_
            rotate_left
            · (intro w' hSw; obtain ⟨s1, s2, s3, s4⟩ := hSw; have p0 : w'.cell? ⟨g, e1 + n * 10, none⟩ = some (.int .i64 cl) := s3 0 _ rfl; have p1 : w'.cell? ⟨g, e1 + n * 10 + 1, none⟩ = some (.int .i64 no) := s3 1 _ rfl; have p2 : w'.cell? ⟨g, e1 + n * 10 + 2, none⟩ = some (.int .i64 kind) := s3 2 _ rfl; have p3 : w'.cell? ⟨g, e1 + n * 10 + 3, none⟩ = some (.string (bs k)) := s3 3 _ rfl; have p4 : w'.cell? ⟨g, e1 + n * 10 + 4, none⟩ = some (.string (bs v)) := s3 4 _ rfl; have p5 : w'.cell? ⟨g, e1 + n * 10 + 5, none⟩ = some (.string (bs od)) := s3 5 _ rfl; have p6 : w'.cell? ⟨g, e1 + n * 10 + 6, none⟩ = some (.int .i64 fr) := s3 6 _ rfl; have p7 : w'.cell? ⟨g, e1 + n * 10 + 7, none⟩ = some (.int .i64 tt) := s3 7 _ rfl; have p8 : w'.cell? ⟨g, e1 + n * 10 + 8, none⟩ = some (.int .i64 E) := s3 8 _ rfl; have p9 : w'.cell? ⟨g, e1 + n * 10 + 9, none⟩ = some (.string (bs T)) := s3 9 _ rfl; have q0 : w'.cell? ⟨g2, e2 + n * 10, none⟩ = some (.int .i64 cl) := s4 0 _ rfl; have q1 : w'.cell? ⟨g2, e2 + n * 10 + 1, none⟩ = some (.int .i64 no) := s4 1 _ rfl; have q2 : w'.cell? ⟨g2, e2 + n * 10 + 2, none⟩ = some (.int .i64 kind) := s4 2 _ rfl; have q3 : w'.cell? ⟨g2, e2 + n * 10 + 3, none⟩ = some (.string (bs k)) := s4 3 _ rfl; have q4 : w'.cell? ⟨g2, e2 + n * 10 + 4, none⟩ = some (.string (bs v)) := s4 4 _ rfl; have q5 : w'.cell? ⟨g2, e2 + n * 10 + 5, none⟩ = some (.string (bs od)) := s4 5 _ rfl; have q6 : w'.cell? ⟨g2, e2 + n * 10 + 6, none⟩ = some (.int .i64 fr) := s4 6 _ rfl; have q7 : w'.cell? ⟨g2, e2 + n * 10 + 7, none⟩ = some (.int .i64 tt) := s4 7 _ rfl; have q8 : w'.cell? ⟨g2, e2 + n * 10 + 8, none⟩ = some (.int .i64 E) := s4 8 _ rfl; have q9 : w'.cell? ⟨g2, e2 + n * 10 + 9, none⟩ = some (.string (bs T)) := s4 9 _ rfl; (try go_simp); (try with_reducible rfl))
            simp only [Act.put, List.setIfInBounds_toArray, List.getElem_toArray, List.getElem_cons_succ, List.getElem_cons_zero, List.set_cons_succ, List.set_cons_zero]
            refine Y_take (i := 10) (v := ?_) rfl (by kernel_rfl) (by kernel_rfl) (by kernel_rfl) (by kernel_rfl) (fun _ _ _ h => h) (by rfl) hS0 ?_ ?_
            rotate_left
            · (intro w' hSw; obtain ⟨s1, s2, s3, s4⟩ := hSw; have p0 : w'.cell? ⟨g, e1 + n * 10, none⟩ = some (.int .i64 cl) := s3 0 _ rfl; have p1 : w'.cell? ⟨g, e1 + n * 10 + 1, none⟩ = some (.int .i64 no) := s3 1 _ rfl; have p2 : w'.cell? ⟨g, e1 + n * 10 + 2, none⟩ = some (.int .i64 kind) := s3 2 _ rfl; have p3 : w'.cell? ⟨g, e1 + n * 10 + 3, none⟩ = some (.string (bs k)) := s3 3 _ rfl; have p4 : w'.cell? ⟨g, e1 + n * 10 + 4, none⟩ = some (.string (bs v)) := s3 4 _ rfl; have p5 : w'.cell? ⟨g, e1 + n * 10 + 5, none⟩ = some (.string (bs od)) := s3 5 _ rfl; have p6 : w'.cell? ⟨g, e1 + n * 10 + 6, none⟩ = some (.int .i64 fr) := s3 6 _ rfl; have p7 : w'.cell? ⟨g, e1 + n * 10 + 7, none⟩ = some (.int .i64 tt) := s3 7 _ rfl; have p8 : w'.cell? ⟨g, e1 + n * 10 + 8, none⟩ = some (.int .i64 E) := s3 8 _ rfl; have p9 : w'.cell? ⟨g, e1 + n * 10 + 9, none⟩ = some (.string (bs T)) := s3 9 _ rfl; have q0 : w'.cell? ⟨g2, e2 + n * 10, none⟩ = some (.int .i64 cl) := s4 0 _ rfl; have q1 : w'.cell? ⟨g2, e2 + n * 10 + 1, none⟩ = some (.int .i64 no) := s4 1 _ rfl; have q2 : w'.cell? ⟨g2, e2 + n * 10 + 2, none⟩ = some (.int .i64 kind) := s4 2 _ rfl; have q3 : w'.cell? ⟨g2, e2 + n * 10 + 3, none⟩ = some (.string (bs k)) := s4 3 _ rfl; have q4 : w'.cell? ⟨g2, e2 + n * 10 + 4, none⟩ = some (.string (bs v)) := s4 4 _ rfl; have q5 : w'.cell? ⟨g2, e2 + n * 10 + 5, none⟩ = some (.string (bs od)) := s4 5 _ rfl; have q6 : w'.cell? ⟨g2, e2 + n * 10 + 6, none⟩ = some (.int .i64 fr) := s4 6 _ rfl; have q7 : w'.cell? ⟨g2, e2 + n * 10 + 7, none⟩ = some (.int .i64 tt) := s4 7 _ rfl; have q8 : w'.cell? ⟨g2, e2 + n * 10 + 8, none⟩ = some (.int .i64 E) := s4 8 _ rfl; have q9 : w'.cell? ⟨g2, e2 + n * 10 + 9, none⟩ = some (.string (bs T)) := s4 9 _ rfl; (try go_simp); (try with_reducible rfl))
            simp only [Act.put, List.setIfInBounds_toArray, List.getElem_toArray, List.getElem_cons_succ, List.getElem_cons_zero, List.set_cons_succ, List.set_cons_zero]
            refine Y_take (i := 11) (v := ?_) rfl (by kernel_rfl) (by kernel_rfl) (by kernel_rfl) (by kernel_rfl) (fun _ _ _ h => h) (by rfl) hS0 ?_ ?_
            rotate_left
            · (intro w' hSw; obtain ⟨s1, s2, s3, s4⟩ := hSw; have p0 : w'.cell? ⟨g, e1 + n * 10, none⟩ = some (.int .i64 cl) := s3 0 _ rfl; have p1 : w'.cell? ⟨g, e1 + n * 10 + 1, none⟩ = some (.int .i64 no) := s3 1 _ rfl; have p2 : w'.cell? ⟨g, e1 + n * 10 + 2, none⟩ = some (.int .i64 kind) := s3 2 _ rfl; have p3 : w'.cell? ⟨g, e1 + n * 10 + 3, none⟩ = some (.string (bs k)) := s3 3 _ rfl; have p4 : w'.cell? ⟨g, e1 + n * 10 + 4, none⟩ = some (.string (bs v)) := s3 4 _ rfl; have p5 : w'.cell? ⟨g, e1 + n * 10 + 5, none⟩ = some (.string (bs od)) := s3 5 _ rfl; have p6 : w'.cell? ⟨g, e1 + n * 10 + 6, none⟩ = some (.int .i64 fr) := s3 6 _ rfl; have p7 : w'.cell? ⟨g, e1 + n * 10 + 7, none⟩ = some (.int .i64 tt) := s3 7 _ rfl; have p8 : w'.cell? ⟨g, e1 + n * 10 + 8, none⟩ = some (.int .i64 E) := s3 8 _ rfl; have p9 : w'.cell? ⟨g, e1 + n * 10 + 9, none⟩ = some (.string (bs T)) := s3 9 _ rfl; have q0 : w'.cell? ⟨g2, e2 + n * 10, none⟩ = some (.int .i64 cl) := s4 0 _ rfl; have q1 : w'.cell? ⟨g2, e2 + n * 10 + 1, none⟩ = some (.int .i64 no) := s4 1 _ rfl; have q2 : w'.cell? ⟨g2, e2 + n * 10 + 2, none⟩ = some (.int .i64 kind) := s4 2 _ rfl; have q3 : w'.cell? ⟨g2, e2 + n * 10 + 3, none⟩ = some (.string (bs k)) := s4 3 _ rfl; have q4 : w'.cell? ⟨g2, e2 + n * 10 + 4, none⟩ = some (.string (bs v)) := s4 4 _ rfl; have q5 : w'.cell? ⟨g2, e2 + n * 10 + 5, none⟩ = some (.string (bs od)) := s4 5 _ rfl; have q6 : w'.cell? ⟨g2, e2 + n * 10 + 6, none⟩ = some (.int .i64 fr) := s4 6 _ rfl; have q7 : w'.cell? ⟨g2, e2 + n * 10 + 7, none⟩ = some (.int .i64 tt) := s4 7 _ rfl; have q8 : w'.cell? ⟨g2, e2 + n * 10 + 8, none⟩ = some (.int .i64 E) := s4 8 _ rfl; have q9 : w'.cell? ⟨g2, e2 + n * 10 + 9, none⟩ = some (.string (bs T)) := s4 9 _ rfl; (try go_simp); (try with_reducible rfl))
            simp only [Act.put, List.setIfInBounds_toArray, List.getElem_toArray, List.getElem_cons_succ, List.getElem_cons_zero, List.set_cons_succ, List.set_cons_zero]
            refine Y_take (i := 12) (v := ?_) rfl (by kernel_rfl) (by kernel_rfl) (by kernel_rfl) (by kernel_rfl) (fun _ _ _ h => h) (by rfl) hS0 ?_ ?_
            rotate_left
            · (intro w' hSw; obtain ⟨s1, s2, s3, s4⟩ := hSw; have p0 : w'.cell? ⟨g, e1 + n * 10, none⟩ = some (.int .i64 cl) := s3 0 _ rfl; have p1 : w'.cell? ⟨g, e1 + n * 10 + 1, none⟩ = some (.int .i64 no) := s3 1 _ rfl; have p2 : w'.cell? ⟨g, e1 + n * 10 + 2, none⟩ = some (.int .i64 kind) := s3 2 _ rfl; have p3 : w'.cell? ⟨g, e1 + n * 10 + 3, none⟩ = some (.string (bs k)) := s3 3 _ rfl; have p4 : w'.cell? ⟨g, e1 + n * 10 + 4, none⟩ = some (.string (bs v)) := s3 4 _ rfl; have p5 : w'.cell? ⟨g, e1 + n * 10 + 5, none⟩ = some (.string (bs od)) := s3 5 _ rfl; have p6 : w'.cell? ⟨g, e1 + n * 10 + 6, none⟩ = some (.int .i64 fr) := s3 6 _ rfl; have p7 : w'.cell? ⟨g, e1 + n * 10 + 7, none⟩ = some (.int .i64 tt) := s3 7 _ rfl; have p8 : w'.cell? ⟨g, e1 + n * 10 + 8, none⟩ = some (.int .i64 E) := s3 8 _ rfl; have p9 : w'.cell? ⟨g, e1 + n * 10 + 9, none⟩ = some (.string (bs T)) := s3 9 _ rfl; have q0 : w'.cell? ⟨g2, e2 + n * 10, none⟩ = some (.int .i64 cl) := s4 0 _ rfl; have q1 : w'.cell? ⟨g2, e2 + n * 10 + 1, none⟩ = some (.int .i64 no) := s4 1 _ rfl; have q2 : w'.cell? ⟨g2, e2 + n * 10 + 2, none⟩ = some (.int .i64 kind) := s4 2 _ rfl; have q3 : w'.cell? ⟨g2, e2 + n * 10 + 3, none⟩ = some (.string (bs k)) := s4 3 _ rfl; have q4 : w'.cell? ⟨g2, e2 + n * 10 + 4, none⟩ = some (.string (bs v)) := s4 4 _ rfl; have q5 : w'.cell? ⟨g2, e2 + n * 10 + 5, none⟩ = some (.string (bs od)) := s4 5 _ rfl; have q6 : w'.cell? ⟨g2, e2 + n * 10 + 6, none⟩ = some (.int .i64 fr) := s4 6 _ rfl; have q7 : w'.cell? ⟨g2, e2 + n * 10 + 7, none⟩ = some (.int .i64 tt) := s4 7 _ rfl; have q8 : w'.cell? ⟨g2, e2 + n * 10 + 8, none⟩ = some (.int .i64 E) := s4 8 _ rfl; have q9 : w'.cell? ⟨g2, e2 + n * 10 + 9, none⟩ = some (.string (bs T)) := s4 9 _ rfl; (try go_simp); (try with_reducible rfl))
            simp only [Act.put, List.setIfInBounds_toArray, List.getElem_toArray, List.getElem_cons_succ, List.getElem_cons_zero, List.set_cons_succ, List.set_cons_zero]
            refine Y_take (i := 13) (v := ?_) rfl (by kernel_rfl) (by kernel_rfl) (by kernel_rfl) (by kernel_rfl) (fun _ _ _ h => h) (by rfl) hS0 ?_ ?_
            rotate_left
            · (intro w' hSw; obtain ⟨s1, s2, s3, s4⟩ := hSw; have p0 : w'.cell? ⟨g, e1 + n * 10, none⟩ = some (.int .i64 cl) := s3 0 _ rfl; have p1 : w'.cell? ⟨g, e1 + n * 10 + 1, none⟩ = some (.int .i64 no) := s3 1 _ rfl; have p2 : w'.cell? ⟨g, e1 + n * 10 + 2, none⟩ = some (.int .i64 kind) := s3 2 _ rfl; have p3 : w'.cell? ⟨g, e1 + n * 10 + 3, none⟩ = some (.string (bs k)) := s3 3 _ rfl; have p4 : w'.cell? ⟨g, e1 + n * 10 + 4, none⟩ = some (.string (bs v)) := s3 4 _ rfl; have p5 : w'.cell? ⟨g, e1 + n * 10 + 5, none⟩ = some (.string (bs od)) := s3 5 _ rfl; have p6 : w'.cell? ⟨g, e1 + n * 10 + 6, none⟩ = some (.int .i64 fr) := s3 6 _ rfl; have p7 : w'.cell? ⟨g, e1 + n * 10 + 7, none⟩ = some (.int .i64 tt) := s3 7 _ rfl; have p8 : w'.cell? ⟨g, e1 + n * 10 + 8, none⟩ = some (.int .i64 E) := s3 8 _ rfl; have p9 : w'.cell? ⟨g, e1 + n * 10 + 9, none⟩ = some (.string (bs T)) := s3 9 _ rfl; have q0 : w'.cell? ⟨g2, e2 + n * 10, none⟩ = some (.int .i64 cl) := s4 0 _ rfl; have q1 : w'.cell? ⟨g2, e2 + n * 10 + 1, none⟩ = some (.int .i64 no) := s4 1 _ rfl; have q2 : w'.cell? ⟨g2, e2 + n * 10 + 2, none⟩ = some (.int .i64 kind) := s4 2 _ rfl; have q3 : w'.cell? ⟨g2, e2 + n * 10 + 3, none⟩ = some (.string (bs k)) := s4 3 _ rfl; have q4 : w'.cell? ⟨g2, e2 + n * 10 + 4, none⟩ = some (.string (bs v)) := s4 4 _ rfl; have q5 : w'.cell? ⟨g2, e2 + n * 10 + 5, none⟩ = some (.string (bs od)) := s4 5 _ rfl; have q6 : w'.cell? ⟨g2, e2 + n * 10 + 6, none⟩ = some (.int .i64 fr) := s4 6 _ rfl; have q7 : w'.cell? ⟨g2, e2 + n * 10 + 7, none⟩ = some (.int .i64 tt) := s4 7 _ rfl; have q8 : w'.cell? ⟨g2, e2 + n * 10 + 8, none⟩ = some (.int .i64 E) := s4 8 _ rfl; have q9 : w'.cell? ⟨g2, e2 + n * 10 + 9, none⟩ = some (.string (bs T)) := s4 9 _ rfl; (try go_simp); (try with_reducible rfl))
            simp only [Act.put, List.setIfInBounds_toArray, List.getElem_toArray, List.getElem_cons_succ, List.getElem_cons_zero, List.set_cons_succ, List.set_cons_zero]
            refine Y_take (i := 14) (v := ?_) rfl (by kernel_rfl) (by kernel_rfl) (by kernel_rfl) (by kernel_rfl) (fun _ _ _ h => h) (by rfl) hS0 ?_ ?_
            rotate_left
            · (intro w' hSw; obtain ⟨s1, s2, s3, s4⟩ := hSw; have p0 : w'.cell? ⟨g, e1 + n * 10, none⟩ = some (.int .i64 cl) := s3 0 _ rfl; have p1 : w'.cell? ⟨g, e1 + n * 10 + 1, none⟩ = some (.int .i64 no) := s3 1 _ rfl; have p2 : w'.cell? ⟨g, e1 + n * 10 + 2, none⟩ = some (.int .i64 kind) := s3 2 _ rfl; have p3 : w'.cell? ⟨g, e1 + n * 10 + 3, none⟩ = some (.string (bs k)) := s3 3 _ rfl; have p4 : w'.cell? ⟨g, e1 + n * 10 + 4, none⟩ = some (.string (bs v)) := s3 4 _ rfl; have p5 : w'.cell? ⟨g, e1 + n * 10 + 5, none⟩ = some (.string (bs od)) := s3 5 _ rfl; have p6 : w'.cell? ⟨g, e1 + n * 10 + 6, none⟩ = some (.int .i64 fr) := s3 6 _ rfl; have p7 : w'.cell? ⟨g, e1 + n * 10 + 7, none⟩ = some (.int .i64 tt) := s3 7 _ rfl; have p8 : w'.cell? ⟨g, e1 + n * 10 + 8, none⟩ = some (.int .i64 E) := s3 8 _ rfl; have p9 : w'.cell? ⟨g, e1 + n * 10 + 9, none⟩ = some (.string (bs T)) := s3 9 _ rfl; have q0 : w'.cell? ⟨g2, e2 + n * 10, none⟩ = some (.int .i64 cl) := s4 0 _ rfl; have q1 : w'.cell? ⟨g2, e2 + n * 10 + 1, none⟩ = some (.int .i64 no) := s4 1 _ rfl; have q2 : w'.cell? ⟨g2, e2 + n * 10 + 2, none⟩ = some (.int .i64 kind) := s4 2 _ rfl; have q3 : w'.cell? ⟨g2, e2 + n * 10 + 3, none⟩ = some (.string (bs k)) := s4 3 _ rfl; have q4 : w'.cell? ⟨g2, e2 + n * 10 + 4, none⟩ = some (.string (bs v)) := s4 4 _ rfl; have q5 : w'.cell? ⟨g2, e2 + n * 10 + 5, none⟩ = some (.string (bs od)) := s4 5 _ rfl; have q6 : w'.cell? ⟨g2, e2 + n * 10 + 6, none⟩ = some (.int .i64 fr) := s4 6 _ rfl; have q7 : w'.cell? ⟨g2, e2 + n * 10 + 7, none⟩ = some (.int .i64 tt) := s4 7 _ rfl; have q8 : w'.cell? ⟨g2, e2 + n * 10 + 8, none⟩ = some (.int .i64 E) := s4 8 _ rfl; have q9 : w'.cell? ⟨g2, e2 + n * 10 + 9, none⟩ = some (.string (bs T)) := s4 9 _ rfl; (try go_simp); (try with_reducible rfl))
            simp only [Act.put, List.setIfInBounds_toArray, List.getElem_toArray, List.getElem_cons_succ, List.getElem_cons_zero, List.set_cons_succ, List.set_cons_zero]
            refine Y_take (i := 15) (v := ?_) rfl (by kernel_rfl) (by kernel_rfl) (by kernel_rfl) (by kernel_rfl) (fun _ _ _ h => h) (by rfl) hS0 ?_ ?_
            rotate_left
            · (intro w' hSw; obtain ⟨s1, s2, s3, s4⟩ := hSw; have p0 : w'.cell? ⟨g, e1 + n * 10, none⟩ = some (.int .i64 cl) := s3 0 _ rfl; have p1 : w'.cell? ⟨g, e1 + n * 10 + 1, none⟩ = some (.int .i64 no) := s3 1 _ rfl; have p2 : w'.cell? ⟨g, e1 + n * 10 + 2, none⟩ = some (.int .i64 kind) := s3 2 _ rfl; have p3 : w'.cell? ⟨g, e1 + n * 10 + 3, none⟩ = some (.string (bs k)) := s3 3 _ rfl; have p4 : w'.cell? ⟨g, e1 + n * 10 + 4, none⟩ = some (.string (bs v)) := s3 4 _ rfl; have p5 : w'.cell? ⟨g, e1 + n * 10 + 5, none⟩ = some (.string (bs od)) := s3 5 _ rfl; have p6 : w'.cell? ⟨g, e1 + n * 10 + 6, none⟩ = some (.int .i64 fr) := s3 6 _ rfl; have p7 : w'.cell? ⟨g, e1 + n * 10 + 7, none⟩ = some (.int .i64 tt) := s3 7 _ rfl; have p8 : w'.cell? ⟨g, e1 + n * 10 + 8, none⟩ = some (.int .i64 E) := s3 8 _ rfl; have p9 : w'.cell? ⟨g, e1 + n * 10 + 9, none⟩ = some (.string (bs T)) := s3 9 _ rfl; have q0 : w'.cell? ⟨g2, e2 + n * 10, none⟩ = some (.int .i64 cl) := s4 0 _ rfl; have q1 : w'.cell? ⟨g2, e2 + n * 10 + 1, none⟩ = some (.int .i64 no) := s4 1 _ rfl; have q2 : w'.cell? ⟨g2, e2 + n * 10 + 2, none⟩ = some (.int .i64 kind) := s4 2 _ rfl; have q3 : w'.cell? ⟨g2, e2 + n * 10 + 3, none⟩ = some (.string (bs k)) := s4 3 _ rfl; have q4 : w'.cell? ⟨g2, e2 + n * 10 + 4, none⟩ = some (.string (bs v)) := s4 4 _ rfl; have q5 : w'.cell? ⟨g2, e2 + n * 10 + 5, none⟩ = some (.string (bs od)) := s4 5 _ rfl; have q6 : w'.cell? ⟨g2, e2 + n * 10 + 6, none⟩ = some (.int .i64 fr) := s4 6 _ rfl; have q7 : w'.cell? ⟨g2, e2 + n * 10 + 7, none⟩ = some (.int .i64 tt) := s4 7 _ rfl; have q8 : w'.cell? ⟨g2, e2 + n * 10 + 8, none⟩ = some (.int .i64 E) := s4 8 _ rfl; have q9 : w'.cell? ⟨g2, e2 + n * 10 + 9, none⟩ = some (.string (bs T)) := s4 9 _ rfl; (try go_simp); (try with_reducible rfl))
            simp only [Act.put, List.setIfInBounds_toArray, List.getElem_toArray, List.getElem_cons_succ, List.getElem_cons_zero, List.set_cons_succ, List.set_cons_zero]
            refine Y_take (i := 16) (v := ?_) rfl (by kernel_rfl) (by kernel_rfl) (by kernel_rfl) (by kernel_rfl) (fun _ _ _ h => h) (by rfl) hS0 ?_ ?_
            rotate_left
            · (intro w' hSw; obtain ⟨s1, s2, s3, s4⟩ := hSw; have p0 : w'.cell? ⟨g, e1 + n * 10, none⟩ = some (.int .i64 cl) := s3 0 _ rfl; have p1 : w'.cell? ⟨g, e1 + n * 10 + 1, none⟩ = some (.int .i64 no) := s3 1 _ rfl; have p2 : w'.cell? ⟨g, e1 + n * 10 + 2, none⟩ = some (.int .i64 kind) := s3 2 _ rfl; have p3 : w'.cell? ⟨g, e1 + n * 10 + 3, none⟩ = some (.string (bs k)) := s3 3 _ rfl; have p4 : w'.cell? ⟨g, e1 + n * 10 + 4, none⟩ = some (.string (bs v)) := s3 4 _ rfl; have p5 : w'.cell? ⟨g, e1 + n * 10 + 5, none⟩ = some (.string (bs od)) := s3 5 _ rfl; have p6 : w'.cell? ⟨g, e1 + n * 10 + 6, none⟩ = some (.int .i64 fr) := s3 6 _ rfl; have p7 : w'.cell? ⟨g, e1 + n * 10 + 7, none⟩ = some (.int .i64 tt) := s3 7 _ rfl; have p8 : w'.cell? ⟨g, e1 + n * 10 + 8, none⟩ = some (.int .i64 E) := s3 8 _ rfl; have p9 : w'.cell? ⟨g, e1 + n * 10 + 9, none⟩ = some (.string (bs T)) := s3 9 _ rfl; have q0 : w'.cell? ⟨g2, e2 + n * 10, none⟩ = some (.int .i64 cl) := s4 0 _ rfl; have q1 : w'.cell? ⟨g2, e2 + n * 10 + 1, none⟩ = some (.int .i64 no) := s4 1 _ rfl; have q2 : w'.cell? ⟨g2, e2 + n * 10 + 2, none⟩ = some (.int .i64 kind) := s4 2 _ rfl; have q3 : w'.cell? ⟨g2, e2 + n * 10 + 3, none⟩ = some (.string (bs k)) := s4 3 _ rfl; have q4 : w'.cell? ⟨g2, e2 + n * 10 + 4, none⟩ = some (.string (bs v)) := s4 4 _ rfl; have q5 : w'.cell? ⟨g2, e2 + n * 10 + 5, none⟩ = some (.string (bs od)) := s4 5 _ rfl; have q6 : w'.cell? ⟨g2, e2 + n * 10 + 6, none⟩ = some (.int .i64 fr) := s4 6 _ rfl; have q7 : w'.cell? ⟨g2, e2 + n * 10 + 7, none⟩ = some (.int .i64 tt) := s4 7 _ rfl; have q8 : w'.cell? ⟨g2, e2 + n * 10 + 8, none⟩ = some (.int .i64 E) := s4 8 _ rfl; have q9 : w'.cell? ⟨g2, e2 + n * 10 + 9, none⟩ = some (.string (bs T)) := s4 9 _ rfl; (try go_simp); (try with_reducible rfl))
            simp only [Act.put, List.setIfInBounds_toArray, List.getElem_toArray, List.getElem_cons_succ, List.getElem_cons_zero, List.set_cons_succ, List.set_cons_zero]
            refine Z_step (i := 8) (by kernel_rfl) rfl (fun K' hK => ?_)
            go_simp
            refine (HCL.out _ HBD.out).mono ?_
            rintro e w6 ⟨rfl, hb6⟩
            have hS6 := HSE.out w6 hb6
            refine hK _ _ (fun _ => hS6) ?_
            clear hK K'
            refine Z_step (i := 17) (by kernel_rfl) rfl (fun K' hK => ?_)
            go_simp
            refine hK _ _ (fun _ => hS6) (Z_done (by kernel_rfl) ?_ _)
            clear hK K' hSd hS0 hS6
            have HB6 : Hid (Below M w5 w6) := hb6
            clear hb6
            go_wp2_with fail
            go_roundg (kn - (n + 1))
            case measure => omega
            case rel => exact ⟨n + 1, by omega, by go_num, HB6.out⟩
end Go.Proofs.YtihilkdokfdoeaaDoor
