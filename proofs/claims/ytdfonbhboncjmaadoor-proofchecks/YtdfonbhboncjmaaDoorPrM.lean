/- Rule 1: the first call that is none, walked. -/
import Derived.Test.YtdfonbhboncjmaaDoorPrY
import Derived.Deep.MidRow
namespace Go.Proofs.YtdfonbhboncjmaaDoor
open Go.RowKit Go.Maps
attribute [local go_sem ↓] Go.wp_at_zero Go.wp_at_succ

/-- The first place at which P holds, or -1. -/
def fstB (P : Nat → Bool) (n : Nat) : Int := match (List.range n).find? P with
  | some i => (i : Int)
  | none => -1
theorem fstB_at {P : Nat → Bool} {n i : Nat} (hi : i < n) (h : P i = true) (hb : ∀ j, j < i → P j = false) : fstB P n = i := by
  have : (List.range n).find? P = some i := by
    rw [List.find?_range_eq_some]
    exact ⟨h, by simpa using hi, fun j hj => by simp [hb j hj]⟩
  rw [fstB, this]
theorem fstB_none {P : Nat → Bool} {n : Nat} (h : ∀ j, j < n → P j = false) : fstB P n = -1 := by
  have : (List.range n).find? P = none := by
    rw [List.find?_eq_none]
    intro j hj
    rw [h j (List.mem_range.1 hj)]
    decide
  rw [fstB, this]
/-- A client's last call of the first n. -/
def lastC (calls : List Cl) (c : Int) : Nat → Cl
  | 0 => clZ
  | n + 1 => match calls[n]? with
    | some x => if x.cl = c then x else lastC calls c n
    | none => lastC calls c n
theorem lastC_succ {calls : List Cl} {c : Int} {n : Nat} {x : Cl} (h : calls[n]? = some x) : lastC calls c (n + 1) = if x.cl = c then x else lastC calls c n := by
  show (match calls[n]? with | some x => if x.cl = c then x else lastC calls c n | none => lastC calls c n) = _
  rw [h]
def P1 (calls : List Cl) (i : Nat) : Bool := match calls[i]? with
  | some c => !(okCall c) || !(behind c (lastC calls c.cl i))
  | none => false
theorem P1_at {calls : List Cl} {i : Nat} {c : Cl} (h : calls[i]? = some c) : P1 calls i = (!(okCall c) || !(behind c (lastC calls c.cl i))) := by
  rw [P1, h]
theorem below_sets {n : Nat} {w W : World} (h : Below n w W) {Q : Nat} (hQ : n ≤ Q) (o : Nat) : ∀ vs : List Value, Below n w (W.setCells Q o vs) := by
  intro vs
  exact h.trans ((only_setCells Q vs o W).below hQ)
theorem ccs_len (c : Cl) : (ccs c).length = 10 := rfl
theorem ccs_one (c : Cl) : (ccs c).toArray.all (·.oneCell') = true := all_oneCell_toArray fun v hv => by
  simp [ccs] at hv
  rcases hv with h | h | h | h | h | h | h | h | h | h <;> subst h <;> rfl
/-- The last calls of the eight clients, as they lie. -/
structure LS (w : World) (L : Nat) (F : Int → Cl) : Prop where
  cel : ∀ c : Nat, c < 8 → w.rangeAt L (c * 10) (ccs (F c))
  there : w.there L 0 80
  lt : L < w.heap.size
theorem LS.on {w w' : World} {L : Nat} {F : Int → Cl} {n : Nat} (h : LS w L F) (hb : Below n w w') (hn : L < n) : LS w' L F :=
  ⟨fun c hc j v hv => (hb.cell (p := ⟨L, c * 10 + j, none⟩) hn).trans (h.cel c hc j v hv), fun j hj => by
    obtain ⟨h1, h2⟩ := h.there j hj
    exact ⟨by rw [hb.cell (p := ⟨L, 0 + j, none⟩) hn]; exact h1, (hb.frozen (p := ⟨L, 0 + j, none⟩) hn).trans h2⟩, Nat.lt_of_lt_of_le h.lt hb.size⟩
theorem LS.set {w : World} {L : Nat} {F : Int → Cl} (h : LS w L F) {c : Nat} (hc : c < 8) (x : Cl) : LS (w.setCells L (c * 10) (ccs x)) L (fun d => if (c : Int) = d then x else F d) := by
  have hth : w.there L (c * 10) (ccs x).length := fun j hj => by
    rw [ccs_len] at hj
    have := h.there (c * 10 + j) (by omega)
    rw [Nat.zero_add] at this
    exact this
  refine ⟨fun d hd => ?_, World.there_setCells h.there L (c * 10) (ccs x), by have := ((only_setCells L (ccs x) (c * 10) w).below (n := 0) (Nat.zero_le _)).size; have := h.lt; omega⟩
  by_cases e : c = d
  · subst e
    simp only [if_true]
    exact World.rangeAt_setCells_same w L (c * 10) (ccs x) hth
  · rw [if_neg (by omega)]
    exact World.rangeAt_setCells_apart (h.cel d hd) L (c * 10) (ccs x) (.inr (by rw [ccs_len, ccs_len]; omega))
theorem LS.new {w : World} {L : Nat} (h : w.heap[L]? = some (.cells Tryd.zeroCells96 96)) : LS w L (fun _ => clZ) := by
  refine ⟨fun c hc j v hv => ?_, fun j hj => ⟨?_, frozenB h _⟩, (Array.getElem?_eq_some_iff.1 h).1⟩
  · have hj : j < 10 := (List.getElem?_eq_some_iff.1 hv).1
    refine cellB h (c * 10 + j) v ?_
    have H : ∀ c j, c < 8 → j < 10 → Tryd.zeroCells96[c * 10 + j]? = (ccs clZ)[j]? := fun c j hc hj => by
      rcases c with _ | _ | _ | _ | _ | _ | _ | _ | c
      all_goals first
        | (rcases j with _ | _ | _ | _ | _ | _ | _ | _ | _ | _ | j <;> first | rfl | omega)
        | omega
    rw [H c j hc hj]
    exact hv
  · rw [Nat.zero_add]
    have hj' : j < Tryd.zeroCells96.size := by rw [show Tryd.zeroCells96.size = 80 from rfl]; exact hj
    rw [cellB h j _ (Array.getElem?_eq_getElem hj')]
    rfl

theorem sets10 (w : World) (B o : Nat) (a0 a1 a2 a3 a4 a5 a6 a7 a8 a9 : Value) : w.setCells B o [a0, a1, a2, a3, a4, a5, a6, a7, a8, a9] = ((((((((((w.setCell ⟨B, o, none⟩ a0).setCell ⟨B, o + 1, none⟩ a1).setCell ⟨B, o + 2, none⟩ a2).setCell ⟨B, o + 3, none⟩ a3).setCell ⟨B, o + 4, none⟩ a4).setCell ⟨B, o + 5, none⟩ a5).setCell ⟨B, o + 6, none⟩ a6).setCell ⟨B, o + 7, none⟩ a7).setCell ⟨B, o + 8, none⟩ a8).setCell ⟨B, o + 9, none⟩ a9) := rfl
set_option maxRecDepth 20000 in
set_option maxHeartbeats 4000000 in
theorem brokenCall_any (calls : List Cl) (vc : Value) (pa : Option Addr) (pl pcap q : Nat) (w : World) (hc : SlF ccs 10 w vc calls) (hl : calls.length ≤ 100000) :
    Calls Tryd.prog 28 #[.agg #[vc, .slice pa pl pcap, .map (some q)]] w fun e W' => e = .returned (.int .i64 (fstB (P1 calls) calls.length)) ∧ Below w.heap.size w W' := by
  obtain ⟨va, vcap, rfl⟩ := hc.slice
  have HV : Hid (SlF ccs 10 w (.slice va calls.length vcap) calls) := hc
  clear hc
  obtain ⟨N, hN⟩ : ∃ N, w.heap.size = N := ⟨_, rfl⟩
  obtain ⟨W2, hW2⟩ : ∃ W, (w.alloc (.cells #[.slice va calls.length vcap, .slice pa pl pcap, .map (some q)] 61)).alloc (.cells Tryd.zeroCells96 96) = W := ⟨_, rfl⟩
  have hb1 : Below N w W2 := by rw [← hW2, ← hN]; exact ((Below.refl _ w).alloc (Nat.le_refl _) _).alloc (by simp) _
  have z0 : W2.heap[N]? = some (.cells #[.slice va calls.length vcap, .slice pa pl pcap, .map (some q)] 61) := by
    rw [← hW2, ← hN]
    exact ((Below.refl (w.heap.size + 1) _).alloc (by simp) _).block w.heap.size (by omega) |>.trans (heap_alloc_new _ _)
  have z1 : W2.heap[N + 1]? = some (.cells Tryd.zeroCells96 96) := by
    rw [← hW2, ← hN]
    have := heap_alloc_new (w.alloc (.cells #[.slice va calls.length vcap, .slice pa pl pcap, .map (some q)] 61)) (.cells Tryd.zeroCells96 96)
    rw [World.size_alloc] at this
    exact this
  have hLS : LS W2 (N + 1) (fun c => lastC calls c 0) := LS.new z1
  have c0 := cellB z0 0 _ rfl
  have HL : Hid (LS W2 (N + 1) (fun c => lastC calls c 0) ∧ Below N w W2) := ⟨hLS, hb1⟩
  have HW : Hid ((w.alloc (.cells #[.slice va calls.length vcap, .slice pa pl pcap, .map (some q)] 61)).alloc (.cells Tryd.zeroCells96 96) = W2) := hW2
  have HN : Hid (w.heap.size = N) := hN
  clear hb1 z0 z1 hLS hW2 hN
  go_enter Tryd.func28, Tryd.ntmps28
  go_upto_region 2 with fail
  rw [HW.out, HN.out]
  go_wp2_with fail
  go_loopg [9] calls.length (fun gk i wr => ∃ n : Nat, n + gk = calls.length ∧ i = .int .i64 n ∧ (∀ i, i < n → P1 calls i = false) ∧ LS wr (N + 1) (fun c => lastC calls c n) ∧ Below N w wr)
  case atStart => exact ⟨0, by omega, rfl, fun i hi => by omega, HL.out.1, HL.out.2⟩
  case round =>
    obtain ⟨n, hnn, rfl, hP, hS, hB⟩ := hrel
    by_cases hn1 : n = calls.length
    · subst hn1
      have HF : Hid (fstB (P1 calls) calls.length = -1 ∧ Below N w wr) := ⟨fstB_none hP, hB⟩
      clear hP hS hB HL HV c0 HW
      go_wp2
      go_ret
      rw [HF.out.1]
      exact ⟨rfl, by rw [HN.out]; exact HF.out.2⟩
    have hn2 : n < calls.length := by omega
    obtain ⟨c, ho⟩ : ∃ c, calls[n]? = some c := ⟨_, List.getElem?_eq_getElem hn2⟩
    have hP1 := P1_at ho
    have hic := fun W => isCall_any c W
    obtain ⟨g, e', hg', -, y⟩ := ((HV.out.on hB (by rw [HN.out]; exact Nat.le_refl _))).at ho
    subst hg'
    have d0 : (0 : Int) ≤ (n : Int) := by omega
    have d1 : (n : Int) < (calls.length : Int) := by omega
    obtain ⟨D, hD⟩ : ∃ D, wr.heap.size = D := ⟨_, rfl⟩
    have hLD : N + 1 < D := by rw [← hD]; exact hS.lt
    by_cases hok : okCall c = true
    rotate_left
    · have hok' : okCall c = false := by simpa using hok
      rw [hok'] at hic
      have hF : fstB (P1 calls) calls.length = n := fstB_at hn2 (by rw [hP1, hok']; rfl) hP
      obtain ⟨cl, no, ⟨kind, k, v, od⟩, fr, tt, T, E⟩ := c
      have y0 : wr.cell? ⟨g, e' + n * 10, none⟩ = some (.int .i64 cl) := y 0 _ rfl
      have y1 : wr.cell? ⟨g, e' + n * 10 + 1, none⟩ = some (.int .i64 no) := y 1 _ rfl
      have y2 : wr.cell? ⟨g, e' + n * 10 + 2, none⟩ = some (.int .i64 kind) := y 2 _ rfl
      have y3 : wr.cell? ⟨g, e' + n * 10 + 3, none⟩ = some (.string (bs k)) := y 3 _ rfl
      have y4 : wr.cell? ⟨g, e' + n * 10 + 4, none⟩ = some (.string (bs v)) := y 4 _ rfl
      have y5 : wr.cell? ⟨g, e' + n * 10 + 5, none⟩ = some (.string (bs od)) := y 5 _ rfl
      have y6 : wr.cell? ⟨g, e' + n * 10 + 6, none⟩ = some (.int .i64 fr) := y 6 _ rfl
      have y7 : wr.cell? ⟨g, e' + n * 10 + 7, none⟩ = some (.int .i64 tt) := y 7 _ rfl
      have y8 : wr.cell? ⟨g, e' + n * 10 + 8, none⟩ = some (.int .i64 E) := y 8 _ rfl
      have y9 : wr.cell? ⟨g, e' + n * 10 + 9, none⟩ = some (.string (bs T)) := y 9 _ rfl
      have HF : Hid (fstB (P1 calls) calls.length = n ∧ Below N w wr) := ⟨hF, hB⟩
      clear ho y hok hok' hP1 hP hS HL HV c0 HW
      go_upto_region 5 with fail
      have rD := heap_alloc_new wr (.cells #[.int .i64 cl, .int .i64 no, .int .i64 kind, .string (bs k), .string (bs v), .string (bs od), .int .i64 fr, .int .i64 tt, .int .i64 E, .string (bs T)] 53)
      have hbA := (Below.refl wr.heap.size wr).alloc (Nat.le_refl _) (.cells #[.int .i64 cl, .int .i64 no, .int .i64 kind, .string (bs k), .string (bs v), .string (bs od), .int .i64 fr, .int .i64 tt, .int .i64 E, .string (bs T)] 53)
      obtain ⟨WA, hWA⟩ : ∃ W, wr.alloc (.cells #[.int .i64 cl, .int .i64 no, .int .i64 kind, .string (bs k), .string (bs v), .string (bs od), .int .i64 fr, .int .i64 tt, .int .i64 E, .string (bs T)] 53) = W := ⟨_, rfl⟩
      have hzA : WA.heap.size = D + 1 := by rw [← hWA, ← hD]; simp
      rw [hWA] at rD hbA ⊢
      rw [hD] at rD hbA
      try rw [hD]
      have HIC : Hid (∀ W, Below (D + 1) WA W → Calls Tryd.prog 38 #[.agg #[.int .i64 cl, .int .i64 no, .int .i64 kind, .string (bs k), .string (bs v), .string (bs od), .int .i64 fr, .int .i64 tt, .int .i64 E, .string (bs T)]] W fun e W' => e = .returned (.bool false) ∧ Below N w W' ∧ W'.cell? ⟨D, 0, none⟩ = some (.int .i64 cl) ∧ W'.cell? ⟨D, 1, none⟩ = some (.int .i64 no) ∧ W'.cell? ⟨D, 2, none⟩ = some (.int .i64 kind) ∧ W'.cell? ⟨D, 3, none⟩ = some (.string (bs k)) ∧ W'.cell? ⟨D, 4, none⟩ = some (.string (bs v)) ∧ W'.cell? ⟨D, 5, none⟩ = some (.string (bs od)) ∧ W'.cell? ⟨D, 6, none⟩ = some (.int .i64 fr) ∧ W'.cell? ⟨D, 7, none⟩ = some (.int .i64 tt) ∧ W'.cell? ⟨D, 8, none⟩ = some (.int .i64 E) ∧ W'.cell? ⟨D, 9, none⟩ = some (.string (bs T))) := fun W hW => (hic W).mono fun e W' hh => by
        have hb' := hW.trans (hh.2.mono (by have := hW.size; omega))
        have g0 := (hb'.block D (by omega)).trans rD
        exact ⟨hh.1, HF.out.2.trans ((hbA.trans (hb'.mono (by omega))).mono (by omega)), cellB g0 0 _ rfl, cellB g0 1 _ rfl, cellB g0 2 _ rfl, cellB g0 3 _ rfl, cellB g0 4 _ rfl, cellB g0 5 _ rfl, cellB g0 6 _ rfl, cellB g0 7 _ rfl, cellB g0 8 _ rfl, cellB g0 9 _ rfl⟩
      have x0 := cellB rD 0 _ rfl
      have x1 := cellB rD 1 _ rfl
      have x2 := cellB rD 2 _ rfl
      have x3 := cellB rD 3 _ rfl
      have x4 := cellB rD 4 _ rfl
      have x5 := cellB rD 5 _ rfl
      have x6 := cellB rD 6 _ rfl
      have x7 := cellB rD 7 _ rfl
      have x8 := cellB rD 8 _ rfl
      have x9 := cellB rD 9 _ rfl
      have hS0 : WA.drew.cell? ⟨D, 0, none⟩ = some (.int .i64 cl) ∧ WA.drew.cell? ⟨D, 1, none⟩ = some (.int .i64 no) ∧ WA.drew.cell? ⟨D, 2, none⟩ = some (.int .i64 kind) ∧ WA.drew.cell? ⟨D, 3, none⟩ = some (.string (bs k)) ∧ WA.drew.cell? ⟨D, 4, none⟩ = some (.string (bs v)) ∧ WA.drew.cell? ⟨D, 5, none⟩ = some (.string (bs od)) ∧ WA.drew.cell? ⟨D, 6, none⟩ = some (.int .i64 fr) ∧ WA.drew.cell? ⟨D, 7, none⟩ = some (.int .i64 tt) ∧ WA.drew.cell? ⟨D, 8, none⟩ = some (.int .i64 E) ∧ WA.drew.cell? ⟨D, 9, none⟩ = some (.string (bs T)) := ⟨x0, x1, x2, x3, x4, x5, x6, x7, x8, x9⟩
      have HS0 : Hid (WA.drew.cell? ⟨D, 0, none⟩ = some (.int .i64 cl) ∧ WA.drew.cell? ⟨D, 1, none⟩ = some (.int .i64 no) ∧ WA.drew.cell? ⟨D, 2, none⟩ = some (.int .i64 kind) ∧ WA.drew.cell? ⟨D, 3, none⟩ = some (.string (bs k)) ∧ WA.drew.cell? ⟨D, 4, none⟩ = some (.string (bs v)) ∧ WA.drew.cell? ⟨D, 5, none⟩ = some (.string (bs od)) ∧ WA.drew.cell? ⟨D, 6, none⟩ = some (.int .i64 fr) ∧ WA.drew.cell? ⟨D, 7, none⟩ = some (.int .i64 tt) ∧ WA.drew.cell? ⟨D, 8, none⟩ = some (.int .i64 E) ∧ WA.drew.cell? ⟨D, 9, none⟩ = some (.string (bs T))) := hS0
      clear rD hic hD hWA hzA hbA y0 y1 y2 y3 y4 y5 y6 y7 y8 y9 hS0 x0 x1 x2 x3 x4 x5 x6 x7 x8 x9
      refine region_Z 99 (fun W => W.cell? ⟨D, 0, none⟩ = some (.int .i64 cl) ∧ W.cell? ⟨D, 1, none⟩ = some (.int .i64 no) ∧ W.cell? ⟨D, 2, none⟩ = some (.int .i64 kind) ∧ W.cell? ⟨D, 3, none⟩ = some (.string (bs k)) ∧ W.cell? ⟨D, 4, none⟩ = some (.string (bs v)) ∧ W.cell? ⟨D, 5, none⟩ = some (.string (bs od)) ∧ W.cell? ⟨D, 6, none⟩ = some (.int .i64 fr) ∧ W.cell? ⟨D, 7, none⟩ = some (.int .i64 tt) ∧ W.cell? ⟨D, 8, none⟩ = some (.int .i64 E) ∧ W.cell? ⟨D, 9, none⟩ = some (.string (bs T))) (by kernel_rfl) ?_
      have hS0 := HS0.out
      refine Y_take (i := 0) (v := ?_) rfl (by kernel_rfl) (by kernel_rfl) (by kernel_rfl) (by kernel_rfl) (fun _ _ _ h => h) (by rfl) hS0 ?_ ?_
      rotate_left
      · (intro w' hSw; obtain ⟨p0, p1, p2, p3, p4, p5, p6, p7, p8, p9⟩ := hSw; go_simp; (try with_reducible rfl))
      simp only [Act.put, List.setIfInBounds_toArray, List.getElem_toArray, List.getElem_cons_zero, List.set_cons_succ, List.set_cons_zero]
      refine Z_step (i := 1) (by kernel_rfl) rfl (fun K' hK => ?_)
      go_simp
      refine (HIC.out _ (below_drew (Below.refl _ _))).mono ?_
      rintro e w1 ⟨rfl, hB1, hS1⟩
      refine hK _ _ (fun _ => hS1) ?_
      clear hK K'
      refine Y_take (i := 2) (v := ?_) rfl (by kernel_rfl) (by kernel_rfl) (by kernel_rfl) (by kernel_rfl) (fun _ _ _ h => h) (by rfl) hS1 ?_ ?_
      rotate_left
      · (intro w' hSw; obtain ⟨p0, p1, p2, p3, p4, p5, p6, p7, p8, p9⟩ := hSw; go_simp; (try with_reducible rfl))
      simp only [Act.put, List.setIfInBounds_toArray, List.getElem_toArray, List.getElem_cons_succ, List.getElem_cons_zero, List.set_cons_succ, List.set_cons_zero]
      refine Y_take (i := 3) (v := ?_) rfl (by kernel_rfl) (by kernel_rfl) (by kernel_rfl) (by kernel_rfl) (fun _ _ _ h => h) (by rfl) hS1 ?_ ?_
      rotate_left
      · (intro w' hSw; obtain ⟨p0, p1, p2, p3, p4, p5, p6, p7, p8, p9⟩ := hSw; go_simp; (try with_reducible rfl))
      simp only [Act.put, List.setIfInBounds_toArray, List.getElem_toArray, List.getElem_cons_succ, List.getElem_cons_zero, List.set_cons_succ, List.set_cons_zero]
      refine Y_skip (i := 4) rfl (by kernel_rfl) (by kernel_rfl) (by kernel_rfl) (by kernel_rfl) (fun _ _ _ h => h) (by rfl) hS1 ?_
      simp only [Act.put, List.setIfInBounds_toArray, List.getElem_toArray, List.getElem_cons_succ, List.getElem_cons_zero, List.set_cons_succ, List.set_cons_zero]
      refine Y_skip (i := 5) rfl (by kernel_rfl) (by kernel_rfl) (by kernel_rfl) (by kernel_rfl) (fun _ _ _ h => h) (by rfl) hS1 ?_
      simp only [Act.put, List.setIfInBounds_toArray, List.getElem_toArray, List.getElem_cons_succ, List.getElem_cons_zero, List.set_cons_succ, List.set_cons_zero]
      refine Y_skip (i := 6) rfl (by kernel_rfl) (by kernel_rfl) (by kernel_rfl) (by kernel_rfl) (fun _ _ _ h => h) (by rfl) hS1 ?_
      simp only [Act.put, List.setIfInBounds_toArray, List.getElem_toArray, List.getElem_cons_succ, List.getElem_cons_zero, List.set_cons_succ, List.set_cons_zero]
      refine Y_skip (i := 7) rfl (by kernel_rfl) (by kernel_rfl) (by kernel_rfl) (by kernel_rfl) (fun _ _ _ h => h) (by rfl) hS1 ?_
      simp only [Act.put, List.setIfInBounds_toArray, List.getElem_toArray, List.getElem_cons_succ, List.getElem_cons_zero, List.set_cons_succ, List.set_cons_zero]
      refine Y_skip (i := 8) rfl (by kernel_rfl) (by kernel_rfl) (by kernel_rfl) (by kernel_rfl) (fun _ _ _ h => h) (by rfl) hS1 ?_
      simp only [Act.put, List.setIfInBounds_toArray, List.getElem_toArray, List.getElem_cons_succ, List.getElem_cons_zero, List.set_cons_succ, List.set_cons_zero]
      refine Y_skip (i := 9) rfl (by kernel_rfl) (by kernel_rfl) (by kernel_rfl) (by kernel_rfl) (fun _ _ _ h => h) (by rfl) hS1 ?_
      simp only [Act.put, List.setIfInBounds_toArray, List.getElem_toArray, List.getElem_cons_succ, List.getElem_cons_zero, List.set_cons_succ, List.set_cons_zero]
      refine Y_skip (i := 10) rfl (by kernel_rfl) (by kernel_rfl) (by kernel_rfl) (by kernel_rfl) (fun _ _ _ h => h) (by rfl) hS1 ?_
      simp only [Act.put, List.setIfInBounds_toArray, List.getElem_toArray, List.getElem_cons_succ, List.getElem_cons_zero, List.set_cons_succ, List.set_cons_zero]
      refine Z_step (i := 11) (by kernel_rfl) rfl (fun K' hK => ?_)
      go_simp
      refine hK _ _ (fun _ => hS1) (Z_done (by kernel_rfl) ?_ _)
      clear hK K'
      all_goals
        go_wp2
        go_ret
        rw [HF.out.1]
        exact ⟨rfl, by rw [HN.out]; exact hB1⟩
    obtain ⟨j, hj, hcl⟩ : ∃ j : Nat, j < 8 ∧ c.cl = j := by
      have h2 := hok
      simp only [okCall, Bool.and_eq_true, decide_eq_true_eq] at h2
      exact ⟨c.cl.toNat, by omega, by omega⟩
    rw [hok] at hic
    have hLj : wr.rangeAt (N + 1) (j * 10) (ccs (lastC calls (j : Int) n)) := hS.cel j hj
    obtain ⟨b, hbE⟩ : ∃ b, lastC calls c.cl n = b := ⟨_, rfl⟩
    have hbE' : lastC calls (j : Int) n = b := by rw [← hbE, hcl]
    rw [hbE'] at hLj
    have hbh := fun W => behind_any c b W
    have hPn : P1 calls n = !(behind c b) := by rw [hP1, hok, hbE]; rfl
    have hset := fun W (h : LS W (N + 1) (fun d => lastC calls d n)) => h.set hj c
    have hsuc : (fun d : Int => if (j : Int) = d then c else lastC calls d n) = fun d => lastC calls d (n + 1) := by
      funext d
      rw [lastC_succ ho, hcl]
    rw [hsuc] at hset
    have hone := ccs_one c
    have hl10 : (ccs c).toArray.size = 10 := rfl
    obtain ⟨bcl, bno, ⟨bk0, bk1, bk2, bk3⟩, bfr, btt, bT, bE⟩ := b
    obtain ⟨cl, no, ⟨kind, k, v, od⟩, fr, tt, T, E⟩ := c
    obtain rfl : cl = (j : Int) := hcl
    have y0 : wr.cell? ⟨g, e' + n * 10, none⟩ = some (.int .i64 (j : Int)) := y 0 _ rfl
    have y1 : wr.cell? ⟨g, e' + n * 10 + 1, none⟩ = some (.int .i64 no) := y 1 _ rfl
    have y2 : wr.cell? ⟨g, e' + n * 10 + 2, none⟩ = some (.int .i64 kind) := y 2 _ rfl
    have y3 : wr.cell? ⟨g, e' + n * 10 + 3, none⟩ = some (.string (bs k)) := y 3 _ rfl
    have y4 : wr.cell? ⟨g, e' + n * 10 + 4, none⟩ = some (.string (bs v)) := y 4 _ rfl
    have y5 : wr.cell? ⟨g, e' + n * 10 + 5, none⟩ = some (.string (bs od)) := y 5 _ rfl
    have y6 : wr.cell? ⟨g, e' + n * 10 + 6, none⟩ = some (.int .i64 fr) := y 6 _ rfl
    have y7 : wr.cell? ⟨g, e' + n * 10 + 7, none⟩ = some (.int .i64 tt) := y 7 _ rfl
    have y8 : wr.cell? ⟨g, e' + n * 10 + 8, none⟩ = some (.int .i64 E) := y 8 _ rfl
    have y9 : wr.cell? ⟨g, e' + n * 10 + 9, none⟩ = some (.string (bs T)) := y 9 _ rfl
    have j0 : (0 : Int) ≤ (j : Int) := by omega
    have j1 : (j : Int) < 8 := by omega
    obtain ⟨BH, hBH⟩ : ∃ x, behind ⟨(j : Int), no, ⟨kind, k, v, od⟩, fr, tt, (T, E)⟩ ⟨bcl, bno, ⟨bk0, bk1, bk2, bk3⟩, bfr, btt, (bT, bE)⟩ = x := ⟨_, rfl⟩
    rw [hBH] at hbh hPn
    have HS : Hid (LS wr (N + 1) (fun c => lastC calls c n) ∧ Below N w wr) := ⟨hS, hB⟩
    have HSET : Hid (∀ W, LS W (N + 1) (fun d => lastC calls d n) → LS (W.setCells (N + 1) (j * 10) [.int .i64 (j : Int), .int .i64 no, .int .i64 kind, .string (bs k), .string (bs v), .string (bs od), .int .i64 fr, .int .i64 tt, .int .i64 E, .string (bs T)]) (N + 1) (fun d => lastC calls d (n + 1))) := hset
    have HONE : Hid ((#[.int .i64 (j : Int), .int .i64 no, .int .i64 kind, .string (bs k), .string (bs v), .string (bs od), .int .i64 fr, .int .i64 tt, .int .i64 E, .string (bs T)] : Array Value).all (·.oneCell') = true) := hone
    have HP : Hid (∀ i, i < n → P1 calls i = false) := hP
    have HPN : Hid (P1 calls n = !BH) := hPn
    clear ho y hok hP1 hP hS HL HV c0 HW hbE hbE' hBH hset hsuc hone hPn hl10
    go_upto_region 5 with fail
    have rD := heap_alloc_new wr (.cells #[.int .i64 (j : Int), .int .i64 no, .int .i64 kind, .string (bs k), .string (bs v), .string (bs od), .int .i64 fr, .int .i64 tt, .int .i64 E, .string (bs T)] 53)
    have hbA := (Below.refl wr.heap.size wr).alloc (Nat.le_refl _) (.cells #[.int .i64 (j : Int), .int .i64 no, .int .i64 kind, .string (bs k), .string (bs v), .string (bs od), .int .i64 fr, .int .i64 tt, .int .i64 E, .string (bs T)] 53)
    obtain ⟨WA, hWA⟩ : ∃ W, wr.alloc (.cells #[.int .i64 (j : Int), .int .i64 no, .int .i64 kind, .string (bs k), .string (bs v), .string (bs od), .int .i64 fr, .int .i64 tt, .int .i64 E, .string (bs T)] 53) = W := ⟨_, rfl⟩
    have hzA : WA.heap.size = D + 1 := by rw [← hWA, ← hD]; simp
    rw [hWA] at rD hbA ⊢
    rw [hD] at rD hbA
    try rw [hD]
    have hLA : WA.rangeAt (N + 1) (j * 10) (ccs ⟨bcl, bno, ⟨bk0, bk1, bk2, bk3⟩, bfr, btt, (bT, bE)⟩) := fun i x hx => (hbA.cell (p := ⟨N + 1, j * 10 + i, none⟩) hLD).trans (hLj i x hx)
    have HCS : Hid (∀ W, Below (D + 1) WA W → W.cell? ⟨D, 0, none⟩ = some (.int .i64 (j : Int)) ∧ W.cell? ⟨D, 1, none⟩ = some (.int .i64 no) ∧ W.cell? ⟨D, 2, none⟩ = some (.int .i64 kind) ∧ W.cell? ⟨D, 3, none⟩ = some (.string (bs k)) ∧ W.cell? ⟨D, 4, none⟩ = some (.string (bs v)) ∧ W.cell? ⟨D, 5, none⟩ = some (.string (bs od)) ∧ W.cell? ⟨D, 6, none⟩ = some (.int .i64 fr) ∧ W.cell? ⟨D, 7, none⟩ = some (.int .i64 tt) ∧ W.cell? ⟨D, 8, none⟩ = some (.int .i64 E) ∧ W.cell? ⟨D, 9, none⟩ = some (.string (bs T)) ∧ W.cell? ⟨N + 1, j * 10, none⟩ = some (.int .i64 bcl) ∧ W.cell? ⟨N + 1, j * 10 + 1, none⟩ = some (.int .i64 bno) ∧ W.cell? ⟨N + 1, j * 10 + 2, none⟩ = some (.int .i64 bk0) ∧ W.cell? ⟨N + 1, j * 10 + 3, none⟩ = some (.string (bs bk1)) ∧ W.cell? ⟨N + 1, j * 10 + 4, none⟩ = some (.string (bs bk2)) ∧ W.cell? ⟨N + 1, j * 10 + 5, none⟩ = some (.string (bs bk3)) ∧ W.cell? ⟨N + 1, j * 10 + 6, none⟩ = some (.int .i64 bfr) ∧ W.cell? ⟨N + 1, j * 10 + 7, none⟩ = some (.int .i64 btt) ∧ W.cell? ⟨N + 1, j * 10 + 8, none⟩ = some (.int .i64 bE) ∧ W.cell? ⟨N + 1, j * 10 + 9, none⟩ = some (.string (bs bT))) := fun W hW => by
      have g0 := (hW.block D (by omega)).trans rD
      have g1 : ∀ i x, (ccs ⟨bcl, bno, ⟨bk0, bk1, bk2, bk3⟩, bfr, btt, (bT, bE)⟩)[i]? = some x → W.cell? ⟨N + 1, j * 10 + i, none⟩ = some x := fun i x hx => (hW.cell (p := ⟨N + 1, j * 10 + i, none⟩) (by show N + 1 < D + 1; omega)).trans (hLA i x hx)
      exact ⟨cellB g0 0 _ rfl, cellB g0 1 _ rfl, cellB g0 2 _ rfl, cellB g0 3 _ rfl, cellB g0 4 _ rfl, cellB g0 5 _ rfl, cellB g0 6 _ rfl, cellB g0 7 _ rfl, cellB g0 8 _ rfl, cellB g0 9 _ rfl, g1 0 _ rfl, g1 1 _ rfl, g1 2 _ rfl, g1 3 _ rfl, g1 4 _ rfl, g1 5 _ rfl, g1 6 _ rfl, g1 7 _ rfl, g1 8 _ rfl, g1 9 _ rfl⟩
    have HIC : Hid (∀ W, Below (D + 1) WA W → Calls Tryd.prog 38 #[.agg #[.int .i64 (j : Int), .int .i64 no, .int .i64 kind, .string (bs k), .string (bs v), .string (bs od), .int .i64 fr, .int .i64 tt, .int .i64 E, .string (bs T)]] W fun e W' => e = .returned (.bool true) ∧ Below (D + 1) WA W' ∧ W'.cell? ⟨D, 0, none⟩ = some (.int .i64 (j : Int)) ∧ W'.cell? ⟨D, 1, none⟩ = some (.int .i64 no) ∧ W'.cell? ⟨D, 2, none⟩ = some (.int .i64 kind) ∧ W'.cell? ⟨D, 3, none⟩ = some (.string (bs k)) ∧ W'.cell? ⟨D, 4, none⟩ = some (.string (bs v)) ∧ W'.cell? ⟨D, 5, none⟩ = some (.string (bs od)) ∧ W'.cell? ⟨D, 6, none⟩ = some (.int .i64 fr) ∧ W'.cell? ⟨D, 7, none⟩ = some (.int .i64 tt) ∧ W'.cell? ⟨D, 8, none⟩ = some (.int .i64 E) ∧ W'.cell? ⟨D, 9, none⟩ = some (.string (bs T)) ∧ W'.cell? ⟨N + 1, j * 10, none⟩ = some (.int .i64 bcl) ∧ W'.cell? ⟨N + 1, j * 10 + 1, none⟩ = some (.int .i64 bno) ∧ W'.cell? ⟨N + 1, j * 10 + 2, none⟩ = some (.int .i64 bk0) ∧ W'.cell? ⟨N + 1, j * 10 + 3, none⟩ = some (.string (bs bk1)) ∧ W'.cell? ⟨N + 1, j * 10 + 4, none⟩ = some (.string (bs bk2)) ∧ W'.cell? ⟨N + 1, j * 10 + 5, none⟩ = some (.string (bs bk3)) ∧ W'.cell? ⟨N + 1, j * 10 + 6, none⟩ = some (.int .i64 bfr) ∧ W'.cell? ⟨N + 1, j * 10 + 7, none⟩ = some (.int .i64 btt) ∧ W'.cell? ⟨N + 1, j * 10 + 8, none⟩ = some (.int .i64 bE) ∧ W'.cell? ⟨N + 1, j * 10 + 9, none⟩ = some (.string (bs bT))) := fun W hW => (hic W).mono fun e W' hh => by
      have hb' := hW.trans (hh.2.mono (by have := hW.size; omega))
      exact ⟨hh.1, hb', HCS.out W' hb'⟩
    have HBH : Hid (∀ W, Below (D + 1) WA W → Calls Tryd.prog 39 #[.agg #[.int .i64 (j : Int), .int .i64 no, .int .i64 kind, .string (bs k), .string (bs v), .string (bs od), .int .i64 fr, .int .i64 tt, .int .i64 E, .string (bs T)], .agg #[.int .i64 bcl, .int .i64 bno, .int .i64 bk0, .string (bs bk1), .string (bs bk2), .string (bs bk3), .int .i64 bfr, .int .i64 btt, .int .i64 bE, .string (bs bT)]] W fun e W' => e = .returned (.bool BH) ∧ Below (D + 1) WA W' ∧ W'.cell? ⟨D, 0, none⟩ = some (.int .i64 (j : Int)) ∧ W'.cell? ⟨D, 1, none⟩ = some (.int .i64 no) ∧ W'.cell? ⟨D, 2, none⟩ = some (.int .i64 kind) ∧ W'.cell? ⟨D, 3, none⟩ = some (.string (bs k)) ∧ W'.cell? ⟨D, 4, none⟩ = some (.string (bs v)) ∧ W'.cell? ⟨D, 5, none⟩ = some (.string (bs od)) ∧ W'.cell? ⟨D, 6, none⟩ = some (.int .i64 fr) ∧ W'.cell? ⟨D, 7, none⟩ = some (.int .i64 tt) ∧ W'.cell? ⟨D, 8, none⟩ = some (.int .i64 E) ∧ W'.cell? ⟨D, 9, none⟩ = some (.string (bs T)) ∧ W'.cell? ⟨N + 1, j * 10, none⟩ = some (.int .i64 bcl) ∧ W'.cell? ⟨N + 1, j * 10 + 1, none⟩ = some (.int .i64 bno) ∧ W'.cell? ⟨N + 1, j * 10 + 2, none⟩ = some (.int .i64 bk0) ∧ W'.cell? ⟨N + 1, j * 10 + 3, none⟩ = some (.string (bs bk1)) ∧ W'.cell? ⟨N + 1, j * 10 + 4, none⟩ = some (.string (bs bk2)) ∧ W'.cell? ⟨N + 1, j * 10 + 5, none⟩ = some (.string (bs bk3)) ∧ W'.cell? ⟨N + 1, j * 10 + 6, none⟩ = some (.int .i64 bfr) ∧ W'.cell? ⟨N + 1, j * 10 + 7, none⟩ = some (.int .i64 btt) ∧ W'.cell? ⟨N + 1, j * 10 + 8, none⟩ = some (.int .i64 bE) ∧ W'.cell? ⟨N + 1, j * 10 + 9, none⟩ = some (.string (bs bT))) := fun W hW => (hbh W).mono fun e W' hh => by
      have hb' := hW.trans (hh.2.mono (by have := hW.size; omega))
      exact ⟨hh.1, hb', HCS.out W' hb'⟩
    have HLS : Hid (∀ W, Below (D + 1) WA W → LS W (N + 1) (fun c => lastC calls c n) ∧ Below N w W) := fun W hW => ⟨(HS.out.1.on hbA hLD).on hW (by omega), HS.out.2.trans ((hbA.trans (hW.mono (by omega))).mono (by omega))⟩
    obtain ⟨x0, x1, x2, x3, x4, x5, x6, x7, x8, x9, x10, x11, x12, x13, x14, x15, x16, x17, x18, x19⟩ := HCS.out WA (Below.refl _ _)
    clear rD hic hbh hD hWA hzA hbA y0 y1 y2 y3 y4 y5 y6 y7 y8 y9 hLA hLj HCS HS
    go_region_held3 (fun W => W.cell? ⟨D, 0, none⟩ = some (.int .i64 (j : Int)) ∧ W.cell? ⟨D, 1, none⟩ = some (.int .i64 no) ∧ W.cell? ⟨D, 2, none⟩ = some (.int .i64 kind) ∧ W.cell? ⟨D, 3, none⟩ = some (.string (bs k)) ∧ W.cell? ⟨D, 4, none⟩ = some (.string (bs v)) ∧ W.cell? ⟨D, 5, none⟩ = some (.string (bs od)) ∧ W.cell? ⟨D, 6, none⟩ = some (.int .i64 fr) ∧ W.cell? ⟨D, 7, none⟩ = some (.int .i64 tt) ∧ W.cell? ⟨D, 8, none⟩ = some (.int .i64 E) ∧ W.cell? ⟨D, 9, none⟩ = some (.string (bs T)) ∧ W.cell? ⟨N + 1, j * 10, none⟩ = some (.int .i64 bcl) ∧ W.cell? ⟨N + 1, j * 10 + 1, none⟩ = some (.int .i64 bno) ∧ W.cell? ⟨N + 1, j * 10 + 2, none⟩ = some (.int .i64 bk0) ∧ W.cell? ⟨N + 1, j * 10 + 3, none⟩ = some (.string (bs bk1)) ∧ W.cell? ⟨N + 1, j * 10 + 4, none⟩ = some (.string (bs bk2)) ∧ W.cell? ⟨N + 1, j * 10 + 5, none⟩ = some (.string (bs bk3)) ∧ W.cell? ⟨N + 1, j * 10 + 6, none⟩ = some (.int .i64 bfr) ∧ W.cell? ⟨N + 1, j * 10 + 7, none⟩ = some (.int .i64 btt) ∧ W.cell? ⟨N + 1, j * 10 + 8, none⟩ = some (.int .i64 bE) ∧ W.cell? ⟨N + 1, j * 10 + 9, none⟩ = some (.string (bs bT))) (go_keep)
      (first
        | (go_at_call 38; refine (HIC.out _ (by first | exact Below.refl _ _ | exact below_drew (Below.refl _ _) | exact below_drewN (Below.refl _ _) _)).mono ?_; rintro e w1 ⟨rfl, hB1, e0, e1, e2, e3, e4, e5, e6, e7, e8, e9, e10, e11, e12, e13, e14, e15, e16, e17, e18, e19⟩)
        | (go_at_call 39; refine (HBH.out _ (by first | exact hB1 | exact below_drew hB1 | exact below_drewN hB1 _)).mono ?_; rintro e w2 ⟨rfl, hB2, f0, f1, f2, f3, f4, f5, f6, f7, f8, f9, f10, f11, f12, f13, f14, f15, f16, f17, f18, f19⟩))
    cases BH with
    | false =>
      have HF : Hid (fstB (P1 calls) calls.length = n ∧ Below N w w2) := ⟨fstB_at hn2 (by rw [HPN.out]; rfl) HP.out, (HLS.out w2 hB2).2⟩
      clear x0 x1 x2 x3 x4 x5 x6 x7 x8 x9 x10 x11 x12 x13 x14 x15 x16 x17 x18 x19 e0 e1 e2 e3 e4 e5 e6 e7 e8 e9 e10 e11 e12 e13 e14 e15 e16 e17 e18 e19 HIC HBH HLS HSET HONE HP HPN hB1 hB2
      go_wp2
      go_ret
      rw [HF.out.1]
      exact ⟨rfl, by rw [HN.out]; exact HF.out.2⟩
    | true =>
      have hLS2 := (HLS.out w2 hB2).1
      have fz : ∀ i, i < 10 → w2.frozen? ⟨N + 1, j * 10 + i, none⟩ = false := fun i hi => by
        have := (hLS2.there (j * 10 + i) (by omega)).2
        rw [Nat.zero_add] at this
        exact this
      have z0 : w2.frozen? ⟨N + 1, j * 10, none⟩ = false := fz 0 (by omega)
      have z1 : w2.frozen? ⟨N + 1, j * 10 + 1, none⟩ = false := fz 1 (by omega)
      have z2 : w2.frozen? ⟨N + 1, j * 10 + 2, none⟩ = false := fz 2 (by omega)
      have z3 : w2.frozen? ⟨N + 1, j * 10 + 3, none⟩ = false := fz 3 (by omega)
      have z4 : w2.frozen? ⟨N + 1, j * 10 + 4, none⟩ = false := fz 4 (by omega)
      have z5 : w2.frozen? ⟨N + 1, j * 10 + 5, none⟩ = false := fz 5 (by omega)
      have z6 : w2.frozen? ⟨N + 1, j * 10 + 6, none⟩ = false := fz 6 (by omega)
      have z7 : w2.frozen? ⟨N + 1, j * 10 + 7, none⟩ = false := fz 7 (by omega)
      have z8 : w2.frozen? ⟨N + 1, j * 10 + 8, none⟩ = false := fz 8 (by omega)
      have z9 : w2.frozen? ⟨N + 1, j * 10 + 9, none⟩ = false := fz 9 (by omega)
      have hNX : LS (w2.setCells (N + 1) (j * 10) [.int .i64 (j : Int), .int .i64 no, .int .i64 kind, .string (bs k), .string (bs v), .string (bs od), .int .i64 fr, .int .i64 tt, .int .i64 E, .string (bs T)]) (N + 1) (fun d => lastC calls d (n + 1)) ∧ Below N w (w2.setCells (N + 1) (j * 10) [.int .i64 (j : Int), .int .i64 no, .int .i64 kind, .string (bs k), .string (bs v), .string (bs od), .int .i64 fr, .int .i64 tt, .int .i64 E, .string (bs T)]) ∧ ∀ i, i < n + 1 → P1 calls i = false := ⟨HSET.out w2 hLS2, below_sets (HLS.out w2 hB2).2 (by omega) _ _, fun i hi => by
        by_cases e : i = n
        · subst e; rw [HPN.out]; rfl
        · exact HP.out i (by omega)⟩
      rw [sets10] at hNX
      have HNX : Hid (_) := hNX
      clear x0 x1 x2 x3 x4 x5 x6 x7 x8 x9 x10 x11 x12 x13 x14 x15 x16 x17 x18 x19 e0 e1 e2 e3 e4 e5 e6 e7 e8 e9 e10 e11 e12 e13 e14 e15 e16 e17 e18 e19 HIC HBH HLS HSET hB1 hB2 hLS2 HP HPN fz hNX
      go_wp2
      go_roundg (calls.length - (n + 1))
      case measure => omega
      case rel => exact ⟨n + 1, by omega, by go_num, HNX.out.2.2, HNX.out.1, HNX.out.2.1⟩
end Go.Proofs.YtdfonbhboncjmaaDoor
