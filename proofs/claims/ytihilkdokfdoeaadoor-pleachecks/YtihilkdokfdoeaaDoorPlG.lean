/- What is taken apart shard by shard, walked. -/
import Derived.Test.YtihilkdokfdoeaaDoorPlF
import Derived.Test.YtihilkdokfdoeaaDoorPlZ
namespace Go.Proofs.YtihilkdokfdoeaaDoor
open Go.RowKit Go.Maps
attribute [local go_sem ↓] Go.wp_at_zero Go.wp_at_succ

def updF {α : Type} (f : Nat → α) (p : Nat) (a : α) : Nat → α := fun j => if j = p then a else f j
/-- Four rows in an array, apart from each other. -/
structure Ap {α : Type} (fl : α → List Value) (s : Nat) (ty arr : TypeId) (N : Nat) (w : World) (L : Nat → List α) (U : Nat → Value) (W : World) : Prop where
  res : W.heap[N]? = some (.cells #[.slice none 0 0, .slice none 0 0, .slice none 0 0, .slice none 0 0] arr)
  box : W.heap[N + 1]? = some (.cells #[U 0, U 1, U 2, U 3] arr)
  own : ∀ i, i < 4 → W.ownsRow (N + 2) ty s (U i) (L i).length ((L i).flatMap fl)
  ap : ∀ i j, i < 4 → j < 4 → i ≠ j → ∀ q, (U i).ownBlock = some q → (U j).ownBlock ≠ some q
  below : Below N w W
  size : N + 2 ≤ W.heap.size
theorem box_at {W : World} {B : Nat} {t : TypeId} {U : Nat → Value} (h : W.heap[B]? = some (.cells #[U 0, U 1, U 2, U 3] t)) {p : Nat} (hp : p < 4) : W.cell? ⟨B, p, none⟩ = some (U p) := by
  refine cellB h p _ ?_
  rcases p with _ | _ | _ | _ | p
  · rfl
  · rfl
  · rfl
  · rfl
  · omega
section
variable {α : Type} {fl : α → List Value} {s : Nat} {ty arr : TypeId} {N : Nat} {w : World} {L : Nat → List α} {U : Nat → Value} {W : World}
theorem Ap.on {W' : World} (h : Ap fl s ty arr N w L U W) (hb : Below W.heap.size W W') : Ap fl s ty arr N w L U W' := by
  have := h.size
  exact ⟨(hb.block N (by omega)).trans h.res, (hb.block (N + 1) (by omega)).trans h.box, fun i hi => owns_keep (h.own i hi) fun q e => hb.block q ((h.own i hi).lt q e).2, h.ap, h.below.trans (hb.mono (by omega)), by have := hb.size; omega⟩
theorem Ap.cell (h : Ap fl s ty arr N w L U W) {p : Nat} (hp : p < 4) : W.cell? ⟨N + 1, p, none⟩ = some (U p) := by
  refine cellB h.box p _ ?_
  rcases p with _ | _ | _ | _ | p
  · rfl
  · rfl
  · rfl
  · rfl
  · omega
theorem upd4 (U : Nat → Value) {p : Nat} (hp : p < 4) (v : Value) : (#[U 0, U 1, U 2, U 3] : Array Value).setIfInBounds p v = #[updF U p v 0, updF U p v 1, updF U p v 2, updF U p v 3] := by
  rcases p with _ | _ | _ | _ | p
  · rfl
  · rfl
  · rfl
  · rfl
  · omega
theorem Ap.step (h : Ap fl s ty arr N w L U W) {p : Nat} (hp : p < 4) {W2 W3 : World} (hb : Below W.heap.size W W2) {x : α} {g cap : Nat} (h1 : W3.ownsRow (N + 2) ty s (.slice (some ⟨g, 0, none⟩) ((L p).length + 1) cap) ((L p).length + 1) ((L p ++ [x]).flatMap fl)) (h2 : W2.grownBy W3 (U p).ownBlock) (h3 : (U p).ownBlock = some g ∨ g = W2.heap.size) :
    Ap fl s ty arr N w (updF L p (L p ++ [x])) (updF U p (.slice (some ⟨g, 0, none⟩) ((L p).length + 1) cap)) (W3.setCell ⟨N + 1, p, none⟩ (.slice (some ⟨g, 0, none⟩) ((L p).length + 1) cap)) := by
  have hs := hb.size
  have hz := h.size
  have hbl : ∀ k, k < W.heap.size → (U p).ownBlock ≠ some k → W3.heap[k]? = W.heap[k]? := fun k hk hne => (h2.block k (by omega) (fun e => hne e.symm)).trans (hb.block k hk)
  have hup : ∀ k, (U p).ownBlock = some k → N + 2 ≤ k := fun k e => ((h.own p hp).lt k e).1
  have hbx := (hbl (N + 1) (by omega) (fun e => by have := hup _ e; omega)).trans h.box
  refine ⟨?_, ?_, fun i hi => ?_, fun i j hi hj hij q hq => ?_, ?_, ?_⟩
  · rw [set_far (by omega)]
    exact (hbl N (by omega) (fun e => by have := hup _ e; omega)).trans h.res
  · have := setB hbx p (.slice (some ⟨g, 0, none⟩) ((L p).length + 1) cap)
    rw [upd4 U hp] at this
    exact this
  · unfold updF
    by_cases e : i = p
    · subst e
      rw [if_pos rfl, if_pos rfl, List.length_append]
      exact owns_keep h1 fun q e => set_far (by have := (h1.lt q e).1; omega) _ _
    · rw [if_neg e, if_neg e]
      refine owns_keep (h.own i hi) fun q eq => ?_
      have := (h.own i hi).lt q eq
      rw [set_far (by omega)]
      exact hbl q (by omega) (h.ap i p hi hp e q eq)
  · unfold updF at hq ⊢
    have hlt : ∀ i, i < 4 → ∀ q, (U i).ownBlock = some q → q < W.heap.size := fun i hi q e => ((h.own i hi).lt q e).2
    by_cases e : i = p
    · subst e
      rw [if_pos rfl] at hq
      rw [if_neg (fun e => hij e.symm)]
      have hq' : g = q := by simpa [Value.ownBlock] using hq
      subst hq'
      rcases h3 with h3 | h3
      · exact h.ap i j hi hj hij g h3
      · intro e
        have := hlt j hj g e
        omega
    · rw [if_neg e] at hq
      by_cases e2 : j = p
      · subst e2
        rw [if_pos rfl]
        intro h4
        have hq' : g = q := by simpa [Value.ownBlock] using h4
        subst hq'
        rcases h3 with h3 | h3
        · exact h.ap i j hi hj hij g hq h3
        · have := hlt i hi g hq
          omega
      · rw [if_neg e2]
        exact h.ap i j hi hj hij q hq
  · exact ((h.below.trans (hb.mono (by omega))).grown h2 (by omega) (fun z hz => by have := hup z hz; omega)).setCell (p := ⟨N + 1, p, none⟩) (Nat.le_succ N) _
  · have := h2.size
    simp
    omega
end
theorem Tryd.info51 : (Tryd.prog.info? 51).map (fun i => (i.zero, i.size, i.bytes)) = some (some (.agg #[.int .i64 0, .int .i64 0, .int .i64 0, .string ⟨#[]⟩, .string ⟨#[]⟩, .string ⟨#[]⟩, .int .i64 0, .int .i64 0, .int .i64 0, .string ⟨#[]⟩]), 10, 112) := by kernel_rfl
theorem Tryd.info56 : (Tryd.prog.info? 56).map (fun i => (i.zero, i.size, i.bytes)) = some (some (.agg #[.int .i64 0, .int .i64 0, .int .i64 0, .int .i64 0, .string ⟨#[]⟩]), 5, 48) := by kernel_rfl
set_option maxRecDepth 20000 in
set_option maxHeartbeats 3000000 in
theorem apartC_any (l : List Cl) (f : Cl → Nat) (hf4 : ∀ x, f x < 4) (v : Value) (fv : Value) (hfv : fv = .func (.func 24) #[] #[]) (w : World) (hv : SlF ccs 10 w v l) (hl : l.length ≤ 100000)
    (hC : ∀ W, Below w.heap.size w W → ∀ x ∈ l, Calls Tryd.prog 24 #[clV x] W fun e W' => e = .returned (.int .i64 (f x : Nat)) ∧ Below W.heap.size W W') :
    Calls Tryd.prog 23 #[v, fv] w fun e W' => ∃ U : Nat → Value, e = .returned (.agg #[U 0, U 1, U 2, U 3]) ∧ (∀ i, i < 4 → SlF ccs 10 W' (U i) (l.filter fun x => f x == i)) ∧ Below w.heap.size w W' := by
  obtain ⟨va, vc, rfl⟩ := hv.slice
  obtain ⟨i0, hi, hz0, hz1, hz2⟩ := info_parts Tryd.info51
  obtain ⟨N, hN⟩ : ∃ N, w.heap.size = N := ⟨_, rfl⟩
  obtain ⟨W0, hW0⟩ : ∃ W, (w.alloc (.cells #[.slice none 0 0, .slice none 0 0, .slice none 0 0, .slice none 0 0] 74)).alloc (.cells #[.slice none 0 0, .slice none 0 0, .slice none 0 0, .slice none 0 0] 74) = W := ⟨_, rfl⟩
  have hA0 : Ap ccs 10 51 74 N w (fun i => ([] : List Cl).filter fun x => f x == i) (fun _ => .slice none 0 0) W0 := by
    rw [← hW0, ← hN]
    refine ⟨?_, ?_, fun i hi => World.ownsRow_nil _ _ _ _, fun i j _ _ _ q hq => (by cases hq), ((Below.refl _ w).alloc (Nat.le_refl _) _).alloc (by simp) _, by simp⟩
    · exact ((Below.refl (w.heap.size + 1) _).alloc (by simp) _).block w.heap.size (by omega) |>.trans (heap_alloc_new _ _)
    · have := heap_alloc_new (w.alloc (.cells #[.slice none 0 0, .slice none 0 0, .slice none 0 0, .slice none 0 0] 74)) (.cells #[.slice none 0 0, .slice none 0 0, .slice none 0 0, .slice none 0 0] 74)
      rw [World.size_alloc] at this
      exact this
  have HA0 : Hid (_) := hA0
  have HW0 : Hid ((w.alloc (.cells #[.slice none 0 0, .slice none 0 0, .slice none 0 0, .slice none 0 0] 74)).alloc (.cells #[.slice none 0 0, .slice none 0 0, .slice none 0 0, .slice none 0 0] 74) = W0) := hW0
  have HN : Hid (w.heap.size = N) := hN
  have HV : Hid (∀ W, Below N w W → SlF ccs 10 W (.slice va l.length vc) l) := fun W hW => hv.on hW (by omega)
  have HC : Hid (∀ W, Below N w W → ∀ x ∈ l, Calls Tryd.prog 24 #[clV x] W fun e W' => e = .returned (.int .i64 (f x : Nat)) ∧ Below W.heap.size W W') := by rw [← hN]; exact hC
  have HL : Hid (l.length ≤ 100000 ∧ ∀ x, f x < 4) := ⟨hl, hf4⟩
  subst hfv
  clear hv hN hC hW0 hA0 hl hf4
  go_enter Tryd.func23, Tryd.ntmps23
  go_upto_region 2 with fail
  rw [HW0.out]
  try rw [HN.out]
  go_wp2_with fail
  go_loopg [11] l.length (fun gk j wr => ∃ (n : Nat) (U : Nat → Value), n + gk = l.length ∧ j = .int .i64 n ∧ Ap ccs 10 51 74 N w (fun i => (l.take n).filter fun x => f x == i) U wr)
  case atStart => exact ⟨0, _, by omega, rfl, HA0.out⟩
  case round =>
    obtain ⟨n, U, hnn, rfl, hA⟩ := hrel
    by_cases hn1 : n = l.length
    · subst hn1
      rw [List.take_length] at hA
      have hres := hA.res
      have hbox := hA.box
      obtain ⟨ua0, uc0, hu0⟩ := owns_slice (hA.own 0 (by decide))
      obtain ⟨ua1, uc1, hu1⟩ := owns_slice (hA.own 1 (by decide))
      obtain ⟨ua2, uc2, hu2⟩ := owns_slice (hA.own 2 (by decide))
      obtain ⟨ua3, uc3, hu3⟩ := owns_slice (hA.own 3 (by decide))
      obtain ⟨n0, hn0⟩ : ∃ n, (l.filter fun x => f x == 0).length = n := ⟨_, rfl⟩
      obtain ⟨n1, hn1⟩ : ∃ n, (l.filter fun x => f x == 1).length = n := ⟨_, rfl⟩
      obtain ⟨n2, hn2⟩ : ∃ n, (l.filter fun x => f x == 2).length = n := ⟨_, rfl⟩
      obtain ⟨n3, hn3⟩ : ∃ n, (l.filter fun x => f x == 3).length = n := ⟨_, rfl⟩
      rw [hn0] at hu0
      rw [hn1] at hu1
      rw [hn2] at hu2
      rw [hn3] at hu3
      rw [hu0, hu1, hu2, hu3] at hbox
      have b0 := cellB hbox 0 _ rfl
      have b1 := cellB hbox 1 _ rfl
      have b2 := cellB hbox 2 _ rfl
      have b3 := cellB hbox 3 _ rfl
      have a0 := cellB hres 0 _ rfl
      have a1 := cellB hres 1 _ rfl
      have a2 := cellB hres 2 _ rfl
      have a3 := cellB hres 3 _ rfl
      have f0 := frozenB hres 0
      have f1 := frozenB hres 1
      have f2 := frozenB hres 2
      have f3 := frozenB hres 3
      have hS := set4h hres (.slice ua0 n0 uc0) (.slice ua1 n1 uc1) (.slice ua2 n2 uc2) (.slice ua3 n3 uc3)
      have HU : Hid (U 0 = .slice ua0 n0 uc0 ∧ U 1 = .slice ua1 n1 uc1 ∧ U 2 = .slice ua2 n2 uc2 ∧ U 3 = .slice ua3 n3 uc3) := ⟨hu0, hu1, hu2, hu3⟩
      have r0 := cellB hS 0 _ rfl
      have r1 := cellB hS 1 _ rfl
      have r2 := cellB hS 2 _ rfl
      have r3 := cellB hS 3 _ rfl
      have HR : Hid (_) := And.intro r0 (And.intro r1 (And.intro r2 r3))
      have HA : Hid (_) := hA
      clear hres hbox hS r0 r1 r2 r3 hA HA0 HW0 HV HC hu0 hu1 hu2 hu3 hn0 hn1 hn2 hn3
      go_wp2
      obtain ⟨r0, r1, r2, r3⟩ := HR.out
      refine bodyPost_ret (v := .agg #[.slice ua0 n0 uc0, .slice ua1 n1 uc1, .slice ua2 n2 uc2, .slice ua3 n3 uc3]) (by simp [results, Tryd.f23, go_sem, r0, r1, r2, r3]) rfl ⟨U, by rw [HU.out.1, HU.out.2.1, HU.out.2.2.1, HU.out.2.2.2], fun i hi => ?_, ?_⟩
      · refine SlF.of_owns (base := N + 2) (e := 51) (fun _ => rfl) (owns_keep (HA.out.own i hi) fun q e => ?_)
        have := (HA.out.own i hi).lt q e
        rw [set_far (by omega), set_far (by omega), set_far (by omega), set_far (by omega)]
      · rw [HN.out]
        exact (((HA.out.below.setCell (p := ⟨N, 0, none⟩) (Nat.le_refl _) _).setCell (p := ⟨N, 1, none⟩) (Nat.le_refl _) _).setCell (p := ⟨N, 2, none⟩) (Nat.le_refl _) _).setCell (p := ⟨N, 3, none⟩) (Nat.le_refl _) _
    · have hn2 : n < l.length := by omega
      obtain ⟨x, ho⟩ : ∃ x, l[n]? = some x := ⟨_, List.getElem?_eq_getElem hn2⟩
      have hfx := HL.out.2 x
      obtain ⟨p, hp⟩ : ∃ p, f x = p := ⟨_, rfl⟩
      have htk : (fun i => (l.take (n + 1)).filter fun x => f x == i) = updF (fun i => (l.take n).filter fun x => f x == i) p (((l.take n).filter fun x => f x == p) ++ [x]) := by
        funext i
        rw [take_snoc ho, List.filter_append]
        unfold updF
        by_cases e : i = p
        · subst e; rw [if_pos rfl]; simp [hp]
        · rw [if_neg e]
          have : (f x == i) = false := by rw [hp]; simpa using fun h => e h.symm
          simp [this]
      have hcx := fun W hW => HC.out W hW x (List.mem_of_getElem? ho)
      rw [hp] at hfx hcx
      have hAl : ((l.take n).filter fun x => f x == p).length ≤ n := Nat.le_trans (List.length_filter_le _ _) (by rw [List.length_take]; omega)
      obtain ⟨L, hL⟩ : ∃ L : Nat → List Cl, (fun i => (l.take n).filter fun x => f x == i) = L := ⟨_, rfl⟩
      have hLp : ((l.take n).filter fun x => f x == p) = L p := by rw [← hL]
      rw [hL, hLp] at htk
      rw [hLp] at hAl
      rw [hL] at hA
      obtain ⟨g, e', hg', -, y⟩ := (HV.out _ hA.below).at ho
      subst hg'
      obtain ⟨cl, no, ⟨kind, k, v, od⟩, fr, tt, T, E⟩ := x
      have y0 : wr.cell? ⟨g, e' + n * 10, none⟩ = some (.int .i64 cl) := y 0 _ rfl
      have y1 : wr.cell? ⟨g, e' + n * 10 + 1, none⟩ = some (.int .i64 no) := y 1 _ rfl
      have y2 : wr.cell? ⟨g, e' + n * 10 + 2, none⟩ = some (.int .i64 kind) := y 2 _ rfl
      have y3 : wr.cell? ⟨g, e' + n * 10 + 3, none⟩ = some (.string (bs k)) := y 3 _ rfl
      have y4 : wr.cell? ⟨g, e' + n * 10 + 4, none⟩ = some (.string (bs v)) := y 4 _ rfl
      have y5 : wr.cell? ⟨g, e' + n * 10 + 5, none⟩ = some (.string (bs od)) := y 5 _ rfl
      have y6 : wr.cell? ⟨g, e' + n * 10 + 6, none⟩ = some (.int .i64 fr) := y 6 _ rfl
      have y7 : wr.cell? ⟨g, e' + n * 10 + 7, none⟩ = some (.int .i64 tt) := y 7 _ rfl
      have y8 : wr.cell? ⟨g, e' + n * 10 + 8, none⟩ = some (.int .i64 E) := y 8 _ rfl
      have y9 : wr.cell? ⟨g, e' + n * 10 + 9, none⟩ = some (.string (bs T)) := y 9 _ rfl
      have hnb : n ≤ 100000 := by have := HL.out.1; omega
      have d0 : (0 : Int) ≤ (n : Int) := by omega
      have d1 : (n : Int) < (l.length : Int) := by omega
      have d2 : (0 : Int) ≤ (p : Int) := by omega
      have d3 : (p : Int) < 4 := by omega
      obtain ⟨D, hD⟩ : ∃ D, wr.heap.size = D := ⟨_, rfl⟩
      have hDN : N + 2 ≤ D := by have := hA.size; omega
      have rD := heap_alloc_new wr (.cells #[.int .i64 cl, .int .i64 no, .int .i64 kind, .string (bs k), .string (bs v), .string (bs od), .int .i64 fr, .int .i64 tt, .int .i64 E, .string (bs T)] 51)
      have hbA := (Below.refl wr.heap.size wr).alloc (Nat.le_refl _) (.cells #[.int .i64 cl, .int .i64 no, .int .i64 kind, .string (bs k), .string (bs v), .string (bs od), .int .i64 fr, .int .i64 tt, .int .i64 E, .string (bs T)] 51)
      obtain ⟨WA, hWA⟩ : ∃ W, wr.alloc (.cells #[.int .i64 cl, .int .i64 no, .int .i64 kind, .string (bs k), .string (bs v), .string (bs od), .int .i64 fr, .int .i64 tt, .int .i64 E, .string (bs T)] 51) = W := ⟨_, rfl⟩
      rw [hWA] at rD hbA
      have hA1 := hA.on hbA
      rw [hD] at rD hbA
      have hzA : WA.heap.size = D + 1 := by rw [← hWA, World.size_alloc, hD]
      have HCX : Hid (Calls Tryd.prog 24 #[.agg #[.int .i64 cl, .int .i64 no, .int .i64 kind, .string (bs k), .string (bs v), .string (bs od), .int .i64 fr, .int .i64 tt, .int .i64 E, .string (bs T)]] WA fun e W' => e = .returned (.int .i64 (p : Nat)) ∧ Ap ccs 10 51 74 N w L U W' ∧ W'.heap[D]? = some (.cells #[.int .i64 cl, .int .i64 no, .int .i64 kind, .string (bs k), .string (bs v), .string (bs od), .int .i64 fr, .int .i64 tt, .int .i64 E, .string (bs T)] 51) ∧ W'.cell? ⟨N + 1, p, none⟩ = some (U p)) := (hcx WA hA1.below).mono fun e W' hh => ⟨hh.1, hA1.on hh.2, (hh.2.block D (by omega)).trans rD, (hA1.on hh.2).cell hfx⟩
      have HWA : Hid (wr.alloc (.cells #[.int .i64 cl, .int .i64 no, .int .i64 kind, .string (bs k), .string (bs v), .string (bs od), .int .i64 fr, .int .i64 tt, .int .i64 E, .string (bs T)] 51) = WA) := hWA
      have HD : Hid (wr.heap.size = D) := hD
      have HTk : Hid (_) := htk
      have HP : Hid (p < 4 ∧ (L p).length ≤ n ∧ N + 2 ≤ D ∧ ∀ q, (U p).ownBlock = some q → q < D) := ⟨hfx, hAl, hDN, fun q e => by have := ((hA.own p hfx).lt q e).2; omega⟩
      have x0 := cellB rD 0 _ rfl
      have x1 := cellB rD 1 _ rfl
      have x2 := cellB rD 2 _ rfl
      have x3 := cellB rD 3 _ rfl
      have x4 := cellB rD 4 _ rfl
      have x5 := cellB rD 5 _ rfl
      have x6 := cellB rD 6 _ rfl
      have x7 := cellB rD 7 _ rfl
      have x8 := cellB rD 8 _ rfl
      have x9 := cellB rD 9 _ rfl
      clear htk hL hLp hp hcx hAl hfx y hD hDN rD hbA hWA hzA hA1 hA ho
      go_upto_region 5 with fail
      rw [HWA.out]
      try rw [HD.out]
      clear y0 y1 y2 y3 y4 y5 y6 y7 y8 y9 HWA HD
      go_upto_region 6 with (go_at_call 24; refine HCX.out.mono ?_; clear HCX x0 x1 x2 x3 x4 x5 x6 x7 x8 x9; rintro e1 w1 ⟨rfl, hA2, hB1, hB2⟩)
      have HA2 : Hid (_) := hA2
      obtain ⟨xa, xc, hUp⟩ := owns_slice (hA2.own p HP.out.1)
      clear hA2
      refine region_Z 8 (fun W => W.heap[D]? = some (.cells #[.int .i64 cl, .int .i64 no, .int .i64 kind, .string (bs k), .string (bs v), .string (bs od), .int .i64 fr, .int .i64 tt, .int .i64 E, .string (bs T)] 51) ∧ W.cell? ⟨N + 1, p, none⟩ = some (U p)) (by kernel_rfl) ?_
      have hS0 : w1.drew.heap[D]? = some (.cells #[.int .i64 cl, .int .i64 no, .int .i64 kind, .string (bs k), .string (bs v), .string (bs od), .int .i64 fr, .int .i64 tt, .int .i64 E, .string (bs T)] 51) ∧ w1.drew.cell? ⟨N + 1, p, none⟩ = some (U p) := ⟨hB1, hB2⟩
      refine Z_take (i := 0) (v := ?_) rfl (by kernel_rfl) (by kernel_rfl) (by kernel_rfl) (by kernel_rfl) (fun _ _ _ h => h) (by rfl) hS0 ?_ ?_
      rotate_left
      · (intro w' hSw; obtain ⟨hS1, hS2⟩ := hSw; have p0 := cellB hS1 0 _ rfl; have p1 := cellB hS1 1 _ rfl; have p2 := cellB hS1 2 _ rfl; have p3 := cellB hS1 3 _ rfl; have p4 := cellB hS1 4 _ rfl; have p5 := cellB hS1 5 _ rfl; have p6 := cellB hS1 6 _ rfl; have p7 := cellB hS1 7 _ rfl; have p8 := cellB hS1 8 _ rfl; have p9 := cellB hS1 9 _ rfl; go_simp; (try with_reducible rfl))
      simp only [Act.put, List.setIfInBounds_toArray, List.getElem_toArray, List.getElem_cons_zero, List.set_cons_succ, List.set_cons_zero]
      refine Z_take (i := 1) (v := ?_) rfl (by kernel_rfl) (by kernel_rfl) (by kernel_rfl) (by kernel_rfl) (fun _ _ _ h => h) (by rfl) hS0 ?_ ?_
      rotate_left
      · (intro w' hSw; obtain ⟨hS1, hS2⟩ := hSw; have p0 := cellB hS1 0 _ rfl; have p1 := cellB hS1 1 _ rfl; have p2 := cellB hS1 2 _ rfl; have p3 := cellB hS1 3 _ rfl; have p4 := cellB hS1 4 _ rfl; have p5 := cellB hS1 5 _ rfl; have p6 := cellB hS1 6 _ rfl; have p7 := cellB hS1 7 _ rfl; have p8 := cellB hS1 8 _ rfl; have p9 := cellB hS1 9 _ rfl; go_simp; (try with_reducible rfl))
      simp only [Act.put, List.setIfInBounds_toArray, List.getElem_toArray, List.getElem_cons_succ, List.getElem_cons_zero, List.set_cons_succ, List.set_cons_zero]
      refine Z_take (i := 2) (v := ?_) rfl (by kernel_rfl) (by kernel_rfl) (by kernel_rfl) (by kernel_rfl) (fun _ _ _ h => h) (by rfl) hS0 ?_ ?_
      rotate_left
      · (intro w' hSw; obtain ⟨hS1, hS2⟩ := hSw; have p0 := cellB hS1 0 _ rfl; have p1 := cellB hS1 1 _ rfl; have p2 := cellB hS1 2 _ rfl; have p3 := cellB hS1 3 _ rfl; have p4 := cellB hS1 4 _ rfl; have p5 := cellB hS1 5 _ rfl; have p6 := cellB hS1 6 _ rfl; have p7 := cellB hS1 7 _ rfl; have p8 := cellB hS1 8 _ rfl; have p9 := cellB hS1 9 _ rfl; go_simp; (try with_reducible rfl))
      simp only [Act.put, List.setIfInBounds_toArray, List.getElem_toArray, List.getElem_cons_succ, List.getElem_cons_zero, List.set_cons_succ, List.set_cons_zero]
      refine Z_take (i := 3) (v := ?_) rfl (by kernel_rfl) (by kernel_rfl) (by kernel_rfl) (by kernel_rfl) (fun _ _ _ h => h) (by rfl) hS0 ?_ ?_
      rotate_left
      · (intro w' hSw; obtain ⟨hS1, hS2⟩ := hSw; have p0 := cellB hS1 0 _ rfl; have p1 := cellB hS1 1 _ rfl; have p2 := cellB hS1 2 _ rfl; have p3 := cellB hS1 3 _ rfl; have p4 := cellB hS1 4 _ rfl; have p5 := cellB hS1 5 _ rfl; have p6 := cellB hS1 6 _ rfl; have p7 := cellB hS1 7 _ rfl; have p8 := cellB hS1 8 _ rfl; have p9 := cellB hS1 9 _ rfl; go_simp; (try with_reducible rfl))
      simp only [Act.put, List.setIfInBounds_toArray, List.getElem_toArray, List.getElem_cons_succ, List.getElem_cons_zero, List.set_cons_succ, List.set_cons_zero]
      refine Z_take (i := 4) (v := ?_) rfl (by kernel_rfl) (by kernel_rfl) (by kernel_rfl) (by kernel_rfl) (fun _ _ _ h => h) (by rfl) hS0 ?_ ?_
      rotate_left
      · (intro w' hSw; obtain ⟨hS1, hS2⟩ := hSw; have p0 := cellB hS1 0 _ rfl; have p1 := cellB hS1 1 _ rfl; have p2 := cellB hS1 2 _ rfl; have p3 := cellB hS1 3 _ rfl; have p4 := cellB hS1 4 _ rfl; have p5 := cellB hS1 5 _ rfl; have p6 := cellB hS1 6 _ rfl; have p7 := cellB hS1 7 _ rfl; have p8 := cellB hS1 8 _ rfl; have p9 := cellB hS1 9 _ rfl; go_simp; (try with_reducible rfl))
      simp only [Act.put, List.setIfInBounds_toArray, List.getElem_toArray, List.getElem_cons_succ, List.getElem_cons_zero, List.set_cons_succ, List.set_cons_zero]
      refine Z_step (i := 5) (by kernel_rfl) rfl (fun K' hK => ?_)
      go_simp
      obtain ⟨w2, hw2⟩ : ∃ W, (w1.alloc (.cells #[.int .i64 cl, .int .i64 no, .int .i64 kind, .string (bs k), .string (bs v), .string (bs od), .int .i64 fr, .int .i64 tt, .int .i64 E, .string (bs T)] 51)).drew = W := ⟨_, rfl⟩
      have hb2' : Below w1.heap.size w1 w2 := by rw [← hw2]; exact below_drew ((Below.refl w1.heap.size w1).alloc (Nat.le_refl _) _)
      have rN : w2.heap[w1.heap.size]? = some (.cells #[.int .i64 cl, .int .i64 no, .int .i64 kind, .string (bs k), .string (bs v), .string (bs od), .int .i64 fr, .int .i64 tt, .int .i64 E, .string (bs T)] 51) := by rw [← hw2]; exact heap_alloc_new w1 _
      have hzw2 : w2.heap.size = w1.heap.size + 1 := by rw [← hw2]; exact World.size_alloc _ _
      rw [hw2]
      have hDw : D < w1.heap.size := (Array.getElem?_eq_some_iff.1 hB1).1
      have hS2 : w2.heap[D]? = some (.cells #[.int .i64 cl, .int .i64 no, .int .i64 kind, .string (bs k), .string (bs v), .string (bs od), .int .i64 fr, .int .i64 tt, .int .i64 E, .string (bs T)] 51) ∧ w2.cell? ⟨N + 1, p, none⟩ = some (U p) := ⟨(hb2'.block D hDw).trans hB1, (HA2.out.on hb2').cell HP.out.1⟩
      refine hK _ _ (fun _ => hS2) ?_
      clear hK K'
      refine Z_step (i := 6) (by kernel_rfl) rfl (fun K' hK => ?_)
      rw [if_pos (by rfl)]
      have hown2 := (HA2.out.on hb2').own p HP.out.1
      rw [hUp] at hown2
      refine opwp_append _ _ 22 rfl (.slice xa (L p).length xc) (.slice (some ⟨w1.heap.size, 0, none⟩) 1 1) rfl rfl (fun v' w' => ∃ ga ca, v' = .slice (some ⟨ga, 0, none⟩) ((L p).length + 1) ca ∧ w'.ownsRow (N + 2) 51 10 v' ((L p).length + 1) ((L p).flatMap ccs ++ [.int .i64 cl, .int .i64 no, .int .i64 kind, .string (bs k), .string (bs v), .string (bs od), .int .i64 fr, .int .i64 tt, .int .i64 E, .string (bs T)]) ∧ w2.grownBy w' (U p).ownBlock ∧ ((U p).ownBlock = some ga ∨ ga = w2.heap.size)) ?_ ?_
      · obtain ⟨ga, ca, w', h1, h2, h3, h4, h5⟩ := run_append_lies (P := Tryd.prog) w2 22 22 (N + 2) 51 i0 (.agg #[.int .i64 0, .int .i64 0, .int .i64 0, .string ⟨#[]⟩, .string ⟨#[]⟩, .string ⟨#[]⟩, .int .i64 0, .int .i64 0, .int .i64 0, .string ⟨#[]⟩]) 10 112 Tryd.underlying22 hi hz0 hz1 hz2 rfl (by decide) (.slice xa (L p).length xc) (L p).length _ hown2 ⟨w1.heap.size, 0, none⟩ 1 1 [.int .i64 cl, .int .i64 no, .int .i64 kind, .string (bs k), .string (bs v), .string (bs od), .int .i64 fr, .int .i64 tt, .int .i64 E, .string (bs T)] rfl (World.news_of_block rN) (by simp [Value.oneCell']) (by decide) (by unfold maxLen; have := HP.out.2.1; have := HL.out.1; omega) (by have := HP.out.2.1; have := HL.out.1; omega) (by have := HA2.out.size; omega) _ rfl
        exact ⟨_, w', h1, ga, ca, rfl, h2, by rw [hUp]; exact h3, by rw [hUp]; exact h4⟩
      rintro v' w3 ⟨ga, ca, rfl, g1, g2, g3⟩
      have hstep := HA2.out.step HP.out.1 hb2' (x := ⟨cl, no, ⟨kind, k, v, od⟩, fr, tt, (T, E)⟩) (by rw [List.flatMap_append]; exact g1) g2 g3
      have hbx3 : w3.heap[N + 1]? = some (.cells #[U 0, U 1, U 2, U 3] 74) := (g2.block (N + 1) (by have := HA2.out.size; omega) (fun e => by have := ((HA2.out.own p HP.out.1).lt (N + 1) e.symm).1; omega)).trans ((hb2'.block (N + 1) (by have := HA2.out.size; omega)).trans HA2.out.box)
      have hc3 : w3.cell? ⟨N + 1, p, none⟩ = some (U p) := box_at hbx3 HP.out.1
      have hf3 := frozenB hbx3 p
      have HST : Hid (_) := hstep
      have hDo : (U p).ownBlock ≠ some D := fun e => by have := HP.out.2.2.2 D e; omega
      have hS3 : w3.heap[D]? = some (.cells #[.int .i64 cl, .int .i64 no, .int .i64 kind, .string (bs k), .string (bs v), .string (bs od), .int .i64 fr, .int .i64 tt, .int .i64 E, .string (bs T)] 51) ∧ w3.cell? ⟨N + 1, p, none⟩ = some (U p) := ⟨(g2.block D (by omega) (fun e => hDo e.symm)).trans hS2.1, hc3⟩
      refine hK _ _ (fun _ => hS3) ?_
      clear hK K'
      refine Z_step (i := 7) (by kernel_rfl) rfl (fun K' hK => ?_)
      go_simp
      refine hK _ _ (fun _ => hS3) ?_
      clear hK K'
      refine Z_step (i := 8) (by kernel_rfl) rfl (fun K' hK => ?_)
      go_simp
      refine hK _ _ (fun h => absurd rfl h) (Z_done (by kernel_rfl) ?_ _)
      clear hK K' hS0 hS2 hS3 hc3 hf3 hbx3 g1 g2 g3 hown2 rN hB1 hB2
      go_wp2_with fail
      go_roundg (l.length - (n + 1))
      case measure => omega
      case rel => exact ⟨n + 1, _, by omega, by go_num, by rw [HTk.out]; exact HST.out⟩
set_option maxRecDepth 20000 in
set_option maxHeartbeats 3000000 in
theorem apartP_any (l : List Pt) (f : Pt → Nat) (hf4 : ∀ x, f x < 4) (v : Value) (P : Nat) (fv : Value) (hfv : fv = .func (.func 26) #[] #[.pointer (some ⟨P, 0, none⟩)]) (w : World) (hv : SlF pks 5 w v l) (hl : l.length ≤ 100000)
    (hC : ∀ W, Below w.heap.size w W → ∀ x ∈ l, Calls Tryd.prog 26 #[ptV x, .pointer (some ⟨P, 0, none⟩)] W fun e W' => e = .returned (.int .i64 (f x : Nat)) ∧ Below W.heap.size W W') :
    Calls Tryd.prog 25 #[v, fv] w fun e W' => ∃ U : Nat → Value, e = .returned (.agg #[U 0, U 1, U 2, U 3]) ∧ (∀ i, i < 4 → SlF pks 5 W' (U i) (l.filter fun x => f x == i)) ∧ Below w.heap.size w W' := by
  obtain ⟨va, vc, rfl⟩ := hv.slice
  obtain ⟨i0, hi, hz0, hz1, hz2⟩ := info_parts Tryd.info56
  obtain ⟨N, hN⟩ : ∃ N, w.heap.size = N := ⟨_, rfl⟩
  obtain ⟨W0, hW0⟩ : ∃ W, (w.alloc (.cells #[.slice none 0 0, .slice none 0 0, .slice none 0 0, .slice none 0 0] 77)).alloc (.cells #[.slice none 0 0, .slice none 0 0, .slice none 0 0, .slice none 0 0] 77) = W := ⟨_, rfl⟩
  have hA0 : Ap pks 5 56 77 N w (fun i => ([] : List Pt).filter fun x => f x == i) (fun _ => .slice none 0 0) W0 := by
    rw [← hW0, ← hN]
    refine ⟨?_, ?_, fun i hi => World.ownsRow_nil _ _ _ _, fun i j _ _ _ q hq => (by cases hq), ((Below.refl _ w).alloc (Nat.le_refl _) _).alloc (by simp) _, by simp⟩
    · exact ((Below.refl (w.heap.size + 1) _).alloc (by simp) _).block w.heap.size (by omega) |>.trans (heap_alloc_new _ _)
    · have := heap_alloc_new (w.alloc (.cells #[.slice none 0 0, .slice none 0 0, .slice none 0 0, .slice none 0 0] 77)) (.cells #[.slice none 0 0, .slice none 0 0, .slice none 0 0, .slice none 0 0] 77)
      rw [World.size_alloc] at this
      exact this
  have HA0 : Hid (_) := hA0
  have HW0 : Hid ((w.alloc (.cells #[.slice none 0 0, .slice none 0 0, .slice none 0 0, .slice none 0 0] 77)).alloc (.cells #[.slice none 0 0, .slice none 0 0, .slice none 0 0, .slice none 0 0] 77) = W0) := hW0
  have HN : Hid (w.heap.size = N) := hN
  have HV : Hid (∀ W, Below N w W → SlF pks 5 W (.slice va l.length vc) l) := fun W hW => hv.on hW (by omega)
  have HC : Hid (∀ W, Below N w W → ∀ x ∈ l, Calls Tryd.prog 26 #[ptV x, .pointer (some ⟨P, 0, none⟩)] W fun e W' => e = .returned (.int .i64 (f x : Nat)) ∧ Below W.heap.size W W') := by rw [← hN]; exact hC
  have HL : Hid (l.length ≤ 100000 ∧ ∀ x, f x < 4) := ⟨hl, hf4⟩
  subst hfv
  clear hv hN hC hW0 hA0 hl hf4
  go_enter Tryd.func25, Tryd.ntmps25
  go_upto_region 2 with fail
  rw [HW0.out]
  try rw [HN.out]
  go_wp2_with fail
  go_loopg [11] l.length (fun gk j wr => ∃ (n : Nat) (U : Nat → Value), n + gk = l.length ∧ j = .int .i64 n ∧ Ap pks 5 56 77 N w (fun i => (l.take n).filter fun x => f x == i) U wr)
  case atStart => exact ⟨0, _, by omega, rfl, HA0.out⟩
  case round =>
    obtain ⟨n, U, hnn, rfl, hA⟩ := hrel
    by_cases hn1 : n = l.length
    · subst hn1
      rw [List.take_length] at hA
      have hres := hA.res
      have hbox := hA.box
      obtain ⟨ua0, uc0, hu0⟩ := owns_slice (hA.own 0 (by decide))
      obtain ⟨ua1, uc1, hu1⟩ := owns_slice (hA.own 1 (by decide))
      obtain ⟨ua2, uc2, hu2⟩ := owns_slice (hA.own 2 (by decide))
      obtain ⟨ua3, uc3, hu3⟩ := owns_slice (hA.own 3 (by decide))
      obtain ⟨n0, hn0⟩ : ∃ n, (l.filter fun x => f x == 0).length = n := ⟨_, rfl⟩
      obtain ⟨n1, hn1⟩ : ∃ n, (l.filter fun x => f x == 1).length = n := ⟨_, rfl⟩
      obtain ⟨n2, hn2⟩ : ∃ n, (l.filter fun x => f x == 2).length = n := ⟨_, rfl⟩
      obtain ⟨n3, hn3⟩ : ∃ n, (l.filter fun x => f x == 3).length = n := ⟨_, rfl⟩
      rw [hn0] at hu0
      rw [hn1] at hu1
      rw [hn2] at hu2
      rw [hn3] at hu3
      rw [hu0, hu1, hu2, hu3] at hbox
      have b0 := cellB hbox 0 _ rfl
      have b1 := cellB hbox 1 _ rfl
      have b2 := cellB hbox 2 _ rfl
      have b3 := cellB hbox 3 _ rfl
      have a0 := cellB hres 0 _ rfl
      have a1 := cellB hres 1 _ rfl
      have a2 := cellB hres 2 _ rfl
      have a3 := cellB hres 3 _ rfl
      have f0 := frozenB hres 0
      have f1 := frozenB hres 1
      have f2 := frozenB hres 2
      have f3 := frozenB hres 3
      have hS := set4h hres (.slice ua0 n0 uc0) (.slice ua1 n1 uc1) (.slice ua2 n2 uc2) (.slice ua3 n3 uc3)
      have HU : Hid (U 0 = .slice ua0 n0 uc0 ∧ U 1 = .slice ua1 n1 uc1 ∧ U 2 = .slice ua2 n2 uc2 ∧ U 3 = .slice ua3 n3 uc3) := ⟨hu0, hu1, hu2, hu3⟩
      have r0 := cellB hS 0 _ rfl
      have r1 := cellB hS 1 _ rfl
      have r2 := cellB hS 2 _ rfl
      have r3 := cellB hS 3 _ rfl
      have HR : Hid (_) := And.intro r0 (And.intro r1 (And.intro r2 r3))
      have HA : Hid (_) := hA
      clear hres hbox hS r0 r1 r2 r3 hA HA0 HW0 HV HC hu0 hu1 hu2 hu3 hn0 hn1 hn2 hn3
      go_wp2
      obtain ⟨r0, r1, r2, r3⟩ := HR.out
      refine bodyPost_ret (v := .agg #[.slice ua0 n0 uc0, .slice ua1 n1 uc1, .slice ua2 n2 uc2, .slice ua3 n3 uc3]) (by simp [results, Tryd.f25, go_sem, r0, r1, r2, r3]) rfl ⟨U, by rw [HU.out.1, HU.out.2.1, HU.out.2.2.1, HU.out.2.2.2], fun i hi => ?_, ?_⟩
      · refine SlF.of_owns (base := N + 2) (e := 56) (fun _ => rfl) (owns_keep (HA.out.own i hi) fun q e => ?_)
        have := (HA.out.own i hi).lt q e
        rw [set_far (by omega), set_far (by omega), set_far (by omega), set_far (by omega)]
      · rw [HN.out]
        exact (((HA.out.below.setCell (p := ⟨N, 0, none⟩) (Nat.le_refl _) _).setCell (p := ⟨N, 1, none⟩) (Nat.le_refl _) _).setCell (p := ⟨N, 2, none⟩) (Nat.le_refl _) _).setCell (p := ⟨N, 3, none⟩) (Nat.le_refl _) _
    · have hn2 : n < l.length := by omega
      obtain ⟨x, ho⟩ : ∃ x, l[n]? = some x := ⟨_, List.getElem?_eq_getElem hn2⟩
      have hfx := HL.out.2 x
      obtain ⟨p, hp⟩ : ∃ p, f x = p := ⟨_, rfl⟩
      have htk : (fun i => (l.take (n + 1)).filter fun x => f x == i) = updF (fun i => (l.take n).filter fun x => f x == i) p (((l.take n).filter fun x => f x == p) ++ [x]) := by
        funext i
        rw [take_snoc ho, List.filter_append]
        unfold updF
        by_cases e : i = p
        · subst e; rw [if_pos rfl]; simp [hp]
        · rw [if_neg e]
          have : (f x == i) = false := by rw [hp]; simpa using fun h => e h.symm
          simp [this]
      have hcx := fun W hW => HC.out W hW x (List.mem_of_getElem? ho)
      rw [hp] at hfx hcx
      have hAl : ((l.take n).filter fun x => f x == p).length ≤ n := Nat.le_trans (List.length_filter_le _ _) (by rw [List.length_take]; omega)
      obtain ⟨L, hL⟩ : ∃ L : Nat → List Pt, (fun i => (l.take n).filter fun x => f x == i) = L := ⟨_, rfl⟩
      have hLp : ((l.take n).filter fun x => f x == p) = L p := by rw [← hL]
      rw [hL, hLp] at htk
      rw [hLp] at hAl
      rw [hL] at hA
      obtain ⟨g, e', hg', -, y⟩ := (HV.out _ hA.below).at ho
      subst hg'
      obtain ⟨tm, pcl, pno, pT, pE⟩ := x
      have y0 : wr.cell? ⟨g, e' + n * 5, none⟩ = some (.int .i64 tm) := y 0 _ rfl
      have y1 : wr.cell? ⟨g, e' + n * 5 + 1, none⟩ = some (.int .i64 pcl) := y 1 _ rfl
      have y2 : wr.cell? ⟨g, e' + n * 5 + 2, none⟩ = some (.int .i64 pno) := y 2 _ rfl
      have y3 : wr.cell? ⟨g, e' + n * 5 + 3, none⟩ = some (.int .i64 pE) := y 3 _ rfl
      have y4 : wr.cell? ⟨g, e' + n * 5 + 4, none⟩ = some (.string (bs pT)) := y 4 _ rfl
      have hnb : n ≤ 100000 := by have := HL.out.1; omega
      have d0 : (0 : Int) ≤ (n : Int) := by omega
      have d1 : (n : Int) < (l.length : Int) := by omega
      have d2 : (0 : Int) ≤ (p : Int) := by omega
      have d3 : (p : Int) < 4 := by omega
      obtain ⟨D, hD⟩ : ∃ D, wr.heap.size = D := ⟨_, rfl⟩
      have hDN : N + 2 ≤ D := by have := hA.size; omega
      have rD := heap_alloc_new wr (.cells #[.int .i64 tm, .int .i64 pcl, .int .i64 pno, .int .i64 pE, .string (bs pT)] 56)
      have hbA := (Below.refl wr.heap.size wr).alloc (Nat.le_refl _) (.cells #[.int .i64 tm, .int .i64 pcl, .int .i64 pno, .int .i64 pE, .string (bs pT)] 56)
      obtain ⟨WA, hWA⟩ : ∃ W, wr.alloc (.cells #[.int .i64 tm, .int .i64 pcl, .int .i64 pno, .int .i64 pE, .string (bs pT)] 56) = W := ⟨_, rfl⟩
      rw [hWA] at rD hbA
      have hA1 := hA.on hbA
      rw [hD] at rD hbA
      have hzA : WA.heap.size = D + 1 := by rw [← hWA, World.size_alloc, hD]
      have HCX : Hid (Calls Tryd.prog 26 #[.agg #[.int .i64 tm, .int .i64 pcl, .int .i64 pno, .int .i64 pE, .string (bs pT)], .pointer (some ⟨P, 0, none⟩)] WA fun e W' => e = .returned (.int .i64 (p : Nat)) ∧ Ap pks 5 56 77 N w L U W' ∧ W'.heap[D]? = some (.cells #[.int .i64 tm, .int .i64 pcl, .int .i64 pno, .int .i64 pE, .string (bs pT)] 56) ∧ W'.cell? ⟨N + 1, p, none⟩ = some (U p)) := (hcx WA hA1.below).mono fun e W' hh => ⟨hh.1, hA1.on hh.2, (hh.2.block D (by omega)).trans rD, (hA1.on hh.2).cell hfx⟩
      have HWA : Hid (wr.alloc (.cells #[.int .i64 tm, .int .i64 pcl, .int .i64 pno, .int .i64 pE, .string (bs pT)] 56) = WA) := hWA
      have HD : Hid (wr.heap.size = D) := hD
      have HTk : Hid (_) := htk
      have HP : Hid (p < 4 ∧ (L p).length ≤ n ∧ N + 2 ≤ D ∧ ∀ q, (U p).ownBlock = some q → q < D) := ⟨hfx, hAl, hDN, fun q e => by have := ((hA.own p hfx).lt q e).2; omega⟩
      have x0 := cellB rD 0 _ rfl
      have x1 := cellB rD 1 _ rfl
      have x2 := cellB rD 2 _ rfl
      have x3 := cellB rD 3 _ rfl
      have x4 := cellB rD 4 _ rfl
      clear htk hL hLp hp hcx hAl hfx y hD hDN rD hbA hWA hzA hA1 hA ho
      go_upto_region 5 with fail
      rw [HWA.out]
      try rw [HD.out]
      clear y0 y1 y2 y3 y4 HWA HD
      go_upto_region 6 with (go_at_call 26; refine HCX.out.mono ?_; clear HCX x0 x1 x2 x3 x4; rintro e1 w1 ⟨rfl, hA2, hB1, hB2⟩)
      have HA2 : Hid (_) := hA2
      obtain ⟨xa, xc, hUp⟩ := owns_slice (hA2.own p HP.out.1)
      clear hA2
      refine region_Z 8 (fun W => W.heap[D]? = some (.cells #[.int .i64 tm, .int .i64 pcl, .int .i64 pno, .int .i64 pE, .string (bs pT)] 56) ∧ W.cell? ⟨N + 1, p, none⟩ = some (U p)) (by kernel_rfl) ?_
      have hS0 : w1.drew.heap[D]? = some (.cells #[.int .i64 tm, .int .i64 pcl, .int .i64 pno, .int .i64 pE, .string (bs pT)] 56) ∧ w1.drew.cell? ⟨N + 1, p, none⟩ = some (U p) := ⟨hB1, hB2⟩
      refine Z_take (i := 0) (v := ?_) rfl (by kernel_rfl) (by kernel_rfl) (by kernel_rfl) (by kernel_rfl) (fun _ _ _ h => h) (by rfl) hS0 ?_ ?_
      rotate_left
      · (intro w' hSw; obtain ⟨hS1, hS2⟩ := hSw; have p0 := cellB hS1 0 _ rfl; have p1 := cellB hS1 1 _ rfl; have p2 := cellB hS1 2 _ rfl; have p3 := cellB hS1 3 _ rfl; have p4 := cellB hS1 4 _ rfl; go_simp; (try with_reducible rfl))
      simp only [Act.put, List.setIfInBounds_toArray, List.getElem_toArray, List.getElem_cons_zero, List.set_cons_succ, List.set_cons_zero]
      refine Z_take (i := 1) (v := ?_) rfl (by kernel_rfl) (by kernel_rfl) (by kernel_rfl) (by kernel_rfl) (fun _ _ _ h => h) (by rfl) hS0 ?_ ?_
      rotate_left
      · (intro w' hSw; obtain ⟨hS1, hS2⟩ := hSw; have p0 := cellB hS1 0 _ rfl; have p1 := cellB hS1 1 _ rfl; have p2 := cellB hS1 2 _ rfl; have p3 := cellB hS1 3 _ rfl; have p4 := cellB hS1 4 _ rfl; go_simp; (try with_reducible rfl))
      simp only [Act.put, List.setIfInBounds_toArray, List.getElem_toArray, List.getElem_cons_succ, List.getElem_cons_zero, List.set_cons_succ, List.set_cons_zero]
      refine Z_take (i := 2) (v := ?_) rfl (by kernel_rfl) (by kernel_rfl) (by kernel_rfl) (by kernel_rfl) (fun _ _ _ h => h) (by rfl) hS0 ?_ ?_
      rotate_left
      · (intro w' hSw; obtain ⟨hS1, hS2⟩ := hSw; have p0 := cellB hS1 0 _ rfl; have p1 := cellB hS1 1 _ rfl; have p2 := cellB hS1 2 _ rfl; have p3 := cellB hS1 3 _ rfl; have p4 := cellB hS1 4 _ rfl; go_simp; (try with_reducible rfl))
      simp only [Act.put, List.setIfInBounds_toArray, List.getElem_toArray, List.getElem_cons_succ, List.getElem_cons_zero, List.set_cons_succ, List.set_cons_zero]
      refine Z_take (i := 3) (v := ?_) rfl (by kernel_rfl) (by kernel_rfl) (by kernel_rfl) (by kernel_rfl) (fun _ _ _ h => h) (by rfl) hS0 ?_ ?_
      rotate_left
      · (intro w' hSw; obtain ⟨hS1, hS2⟩ := hSw; have p0 := cellB hS1 0 _ rfl; have p1 := cellB hS1 1 _ rfl; have p2 := cellB hS1 2 _ rfl; have p3 := cellB hS1 3 _ rfl; have p4 := cellB hS1 4 _ rfl; go_simp; (try with_reducible rfl))
      simp only [Act.put, List.setIfInBounds_toArray, List.getElem_toArray, List.getElem_cons_succ, List.getElem_cons_zero, List.set_cons_succ, List.set_cons_zero]
      refine Z_take (i := 4) (v := ?_) rfl (by kernel_rfl) (by kernel_rfl) (by kernel_rfl) (by kernel_rfl) (fun _ _ _ h => h) (by rfl) hS0 ?_ ?_
      rotate_left
      · (intro w' hSw; obtain ⟨hS1, hS2⟩ := hSw; have p0 := cellB hS1 0 _ rfl; have p1 := cellB hS1 1 _ rfl; have p2 := cellB hS1 2 _ rfl; have p3 := cellB hS1 3 _ rfl; have p4 := cellB hS1 4 _ rfl; go_simp; (try with_reducible rfl))
      simp only [Act.put, List.setIfInBounds_toArray, List.getElem_toArray, List.getElem_cons_succ, List.getElem_cons_zero, List.set_cons_succ, List.set_cons_zero]
      refine Z_step (i := 5) (by kernel_rfl) rfl (fun K' hK => ?_)
      go_simp
      obtain ⟨w2, hw2⟩ : ∃ W, (w1.alloc (.cells #[.int .i64 tm, .int .i64 pcl, .int .i64 pno, .int .i64 pE, .string (bs pT)] 56)).drew = W := ⟨_, rfl⟩
      have hb2' : Below w1.heap.size w1 w2 := by rw [← hw2]; exact below_drew ((Below.refl w1.heap.size w1).alloc (Nat.le_refl _) _)
      have rN : w2.heap[w1.heap.size]? = some (.cells #[.int .i64 tm, .int .i64 pcl, .int .i64 pno, .int .i64 pE, .string (bs pT)] 56) := by rw [← hw2]; exact heap_alloc_new w1 _
      have hzw2 : w2.heap.size = w1.heap.size + 1 := by rw [← hw2]; exact World.size_alloc _ _
      rw [hw2]
      have hDw : D < w1.heap.size := (Array.getElem?_eq_some_iff.1 hB1).1
      have hS2 : w2.heap[D]? = some (.cells #[.int .i64 tm, .int .i64 pcl, .int .i64 pno, .int .i64 pE, .string (bs pT)] 56) ∧ w2.cell? ⟨N + 1, p, none⟩ = some (U p) := ⟨(hb2'.block D hDw).trans hB1, (HA2.out.on hb2').cell HP.out.1⟩
      refine hK _ _ (fun _ => hS2) ?_
      clear hK K'
      refine Z_step (i := 6) (by kernel_rfl) rfl (fun K' hK => ?_)
      rw [if_pos (by rfl)]
      have hown2 := (HA2.out.on hb2').own p HP.out.1
      rw [hUp] at hown2
      refine opwp_append _ _ 23 rfl (.slice xa (L p).length xc) (.slice (some ⟨w1.heap.size, 0, none⟩) 1 1) rfl rfl (fun v' w' => ∃ ga ca, v' = .slice (some ⟨ga, 0, none⟩) ((L p).length + 1) ca ∧ w'.ownsRow (N + 2) 56 5 v' ((L p).length + 1) ((L p).flatMap pks ++ [.int .i64 tm, .int .i64 pcl, .int .i64 pno, .int .i64 pE, .string (bs pT)]) ∧ w2.grownBy w' (U p).ownBlock ∧ ((U p).ownBlock = some ga ∨ ga = w2.heap.size)) ?_ ?_
      · obtain ⟨ga, ca, w', h1, h2, h3, h4, h5⟩ := run_append_lies (P := Tryd.prog) w2 23 23 (N + 2) 56 i0 (.agg #[.int .i64 0, .int .i64 0, .int .i64 0, .int .i64 0, .string ⟨#[]⟩]) 5 48 Tryd.underlying23 hi hz0 hz1 hz2 rfl (by decide) (.slice xa (L p).length xc) (L p).length _ hown2 ⟨w1.heap.size, 0, none⟩ 1 1 [.int .i64 tm, .int .i64 pcl, .int .i64 pno, .int .i64 pE, .string (bs pT)] rfl (World.news_of_block rN) (by simp [Value.oneCell']) (by decide) (by unfold maxLen; have := HP.out.2.1; have := HL.out.1; omega) (by have := HP.out.2.1; have := HL.out.1; omega) (by have := HA2.out.size; omega) _ rfl
        exact ⟨_, w', h1, ga, ca, rfl, h2, by rw [hUp]; exact h3, by rw [hUp]; exact h4⟩
      rintro v' w3 ⟨ga, ca, rfl, g1, g2, g3⟩
      have hstep := HA2.out.step HP.out.1 hb2' (x := ⟨tm, pcl, pno, (pT, pE)⟩) (by rw [List.flatMap_append]; exact g1) g2 g3
      have hbx3 : w3.heap[N + 1]? = some (.cells #[U 0, U 1, U 2, U 3] 77) := (g2.block (N + 1) (by have := HA2.out.size; omega) (fun e => by have := ((HA2.out.own p HP.out.1).lt (N + 1) e.symm).1; omega)).trans ((hb2'.block (N + 1) (by have := HA2.out.size; omega)).trans HA2.out.box)
      have hc3 : w3.cell? ⟨N + 1, p, none⟩ = some (U p) := box_at hbx3 HP.out.1
      have hf3 := frozenB hbx3 p
      have HST : Hid (_) := hstep
      have hDo : (U p).ownBlock ≠ some D := fun e => by have := HP.out.2.2.2 D e; omega
      have hS3 : w3.heap[D]? = some (.cells #[.int .i64 tm, .int .i64 pcl, .int .i64 pno, .int .i64 pE, .string (bs pT)] 56) ∧ w3.cell? ⟨N + 1, p, none⟩ = some (U p) := ⟨(g2.block D (by omega) (fun e => hDo e.symm)).trans hS2.1, hc3⟩
      refine hK _ _ (fun _ => hS3) ?_
      clear hK K'
      refine Z_step (i := 7) (by kernel_rfl) rfl (fun K' hK => ?_)
      go_simp
      refine hK _ _ (fun _ => hS3) ?_
      clear hK K'
      refine Z_step (i := 8) (by kernel_rfl) rfl (fun K' hK => ?_)
      go_simp
      refine hK _ _ (fun h => absurd rfl h) (Z_done (by kernel_rfl) ?_ _)
      clear hK K' hS0 hS2 hS3 hc3 hf3 hbx3 g1 g2 g3 hown2 rN hB1 hB2
      go_wp2_with fail
      go_roundg (l.length - (n + 1))
      case measure => omega
      case rel => exact ⟨n + 1, _, by omega, by go_num, by rw [HTk.out]; exact HST.out⟩
end Go.Proofs.YtihilkdokfdoeaaDoor
