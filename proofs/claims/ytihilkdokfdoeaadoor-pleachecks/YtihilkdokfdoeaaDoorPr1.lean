/- Rule 1: the first call that is none, walked. -/
import Derived.Test.YtihilkdokfdoeaaDoorPrY
import Derived.Deep.MidRow
namespace Go.Proofs.YtihilkdokfdoeaaDoor
section
open Go.RowKit Go.Maps
attribute [local go_sem ↓] Go.wp_at_zero Go.wp_at_succ

/-- The first place at which P holds, or -1. -/
def fstB (P : Nat → Bool) (n : Nat) : Int := match (List.range n).find? P with
  | some i => (i : Int)
  | none => -1
theorem fstB_at {P : Nat → Bool} {n i : Nat} (hi : i < n) (h : P i = true) (hb : ∀ j, j < i → P j = false) : fstB P n = i := by
  have : (List.range n).find? P = some i := by
    rw [List.find?_range_eq_some]
    exact ⟨h, by simpa using hi, fun j hj => by simp [hb j hj]⟩
  rw [fstB, this]
theorem fstB_none {P : Nat → Bool} {n : Nat} (h : ∀ j, j < n → P j = false) : fstB P n = -1 := by
  have : (List.range n).find? P = none := by
    rw [List.find?_eq_none]
    intro j hj
    rw [h j (List.mem_range.1 hj)]
    decide
  rw [fstB, this]
/-- A client's last call of the first n. -/
def lastC (calls : List Cl) (c : Int) : Nat → Cl
  | 0 => clZ
  | n + 1 => match calls[n]? with
    | some x => if x.cl = c then x else lastC calls c n
    | none => lastC calls c n
theorem lastC_succ {calls : List Cl} {c : Int} {n : Nat} {x : Cl} (h : calls[n]? = some x) : lastC calls c (n + 1) = if x.cl = c then x else lastC calls c n := by
  show (match calls[n]? with | some x => if x.cl = c then x else lastC calls c n | none => lastC calls c n) = _
  rw [h]
def P1 (calls : List Cl) (i : Nat) : Bool := match calls[i]? with
  | some c => !(okCall c) || !(behind c (lastC calls c.cl i))
  | none => false
theorem P1_at {calls : List Cl} {i : Nat} {c : Cl} (h : calls[i]? = some c) : P1 calls i = (!(okCall c) || !(behind c (lastC calls c.cl i))) := by
  rw [P1, h]
theorem below_sets {n : Nat} {w W : World} (h : Below n w W) {Q : Nat} (hQ : n ≤ Q) (o : Nat) : ∀ vs : List Value, Below n w (W.setCells Q o vs) := by
  intro vs
  exact h.trans ((only_setCells Q vs o W).below hQ)
theorem ccs_len (c : Cl) : (ccs c).length = 10 := rfl
theorem ccs_one (c : Cl) : (ccs c).toArray.all (·.oneCell') = true := all_oneCell_toArray fun v hv => by
  simp [ccs] at hv
  rcases hv with h | h | h | h | h | h | h | h | h | h <;> subst h <;> rfl
/-- The last calls of the eight clients, as they lie. -/
structure LS (w : World) (L : Nat) (F : Int → Cl) : Prop where
  cel : ∀ c : Nat, c < 8 → w.rangeAt L (c * 10) (ccs (F c))
  there : w.there L 0 80
  lt : L < w.heap.size
theorem LS.on {w w' : World} {L : Nat} {F : Int → Cl} {n : Nat} (h : LS w L F) (hb : Below n w w') (hn : L < n) : LS w' L F :=
  ⟨fun c hc j v hv => (hb.cell (p := ⟨L, c * 10 + j, none⟩) hn).trans (h.cel c hc j v hv), fun j hj => by
    obtain ⟨h1, h2⟩ := h.there j hj
    exact ⟨by rw [hb.cell (p := ⟨L, 0 + j, none⟩) hn]; exact h1, (hb.frozen (p := ⟨L, 0 + j, none⟩) hn).trans h2⟩, Nat.lt_of_lt_of_le h.lt hb.size⟩
theorem LS.set {w : World} {L : Nat} {F : Int → Cl} (h : LS w L F) {c : Nat} (hc : c < 8) (x : Cl) : LS (w.setCells L (c * 10) (ccs x)) L (fun d => if (c : Int) = d then x else F d) := by
  have hth : w.there L (c * 10) (ccs x).length := fun j hj => by
    rw [ccs_len] at hj
    have := h.there (c * 10 + j) (by omega)
    rw [Nat.zero_add] at this
    exact this
  refine ⟨fun d hd => ?_, World.there_setCells h.there L (c * 10) (ccs x), by have := ((only_setCells L (ccs x) (c * 10) w).below (n := 0) (Nat.zero_le _)).size; have := h.lt; omega⟩
  by_cases e : c = d
  · subst e
    simp only [if_true]
    exact World.rangeAt_setCells_same w L (c * 10) (ccs x) hth
  · rw [if_neg (by omega)]
    exact World.rangeAt_setCells_apart (h.cel d hd) L (c * 10) (ccs x) (.inr (by rw [ccs_len, ccs_len]; omega))
theorem LS.new {w : World} {L : Nat} (h : w.heap[L]? = some (.cells Tryd.zeroCells122 122)) : LS w L (fun _ => clZ) := by
  refine ⟨fun c hc j v hv => ?_, fun j hj => ⟨?_, frozenB h _⟩, (Array.getElem?_eq_some_iff.1 h).1⟩
  · have hj : j < 10 := (List.getElem?_eq_some_iff.1 hv).1
    refine cellB h (c * 10 + j) v ?_
    have H : ∀ c j, c < 8 → j < 10 → Tryd.zeroCells122[c * 10 + j]? = (ccs clZ)[j]? := fun c j hc hj => by
      rcases c with _ | _ | _ | _ | _ | _ | _ | _ | c
      all_goals first
        | (rcases j with _ | _ | _ | _ | _ | _ | _ | _ | _ | _ | j <;> first | rfl | omega)
        | omega
    rw [H c j hc hj]
    exact hv
  · rw [Nat.zero_add]
    have hj' : j < Tryd.zeroCells122.size := by rw [show Tryd.zeroCells122.size = 80 from rfl]; exact hj
    rw [cellB h j _ (Array.getElem?_eq_getElem hj')]
    rfl

theorem sets10 (w : World) (B o : Nat) (a0 a1 a2 a3 a4 a5 a6 a7 a8 a9 : Value) : w.setCells B o [a0, a1, a2, a3, a4, a5, a6, a7, a8, a9] = ((((((((((w.setCell ⟨B, o, none⟩ a0).setCell ⟨B, o + 1, none⟩ a1).setCell ⟨B, o + 2, none⟩ a2).setCell ⟨B, o + 3, none⟩ a3).setCell ⟨B, o + 4, none⟩ a4).setCell ⟨B, o + 5, none⟩ a5).setCell ⟨B, o + 6, none⟩ a6).setCell ⟨B, o + 7, none⟩ a7).setCell ⟨B, o + 8, none⟩ a8).setCell ⟨B, o + 9, none⟩ a9) := rfl
set_option maxRecDepth 20000 in
set_option maxHeartbeats 4000000 in
theorem brokenCall_any (calls : List Cl) (vc : Value) (pa : Option Addr) (pl pcap q : Nat) (w : World) (hc : SlF ccs 10 w vc calls) (hl : calls.length ≤ 100000) :
    Calls Tryd.prog 44 #[.agg #[vc, .slice pa pl pcap, .map (some q)]] w fun e W' => e = .returned (.int .i64 (fstB (P1 calls) calls.length)) ∧ Below w.heap.size w W' := by
  obtain ⟨va, vcap, rfl⟩ := hc.slice
  have HV : Hid (SlF ccs 10 w (.slice va calls.length vcap) calls) := hc
  clear hc
  obtain ⟨N, hN⟩ : ∃ N, w.heap.size = N := ⟨_, rfl⟩
  obtain ⟨W2, hW2⟩ : ∃ W, (w.alloc (.cells #[.slice va calls.length vcap, .slice pa pl pcap, .map (some q)] 101)).alloc (.cells Tryd.zeroCells122 122) = W := ⟨_, rfl⟩
  have hb1 : Below N w W2 := by rw [← hW2, ← hN]; exact ((Below.refl _ w).alloc (Nat.le_refl _) _).alloc (by simp) _
  have z0 : W2.heap[N]? = some (.cells #[.slice va calls.length vcap, .slice pa pl pcap, .map (some q)] 101) := by
    rw [← hW2, ← hN]
    exact ((Below.refl (w.heap.size + 1) _).alloc (by simp) _).block w.heap.size (by omega) |>.trans (heap_alloc_new _ _)
  have z1 : W2.heap[N + 1]? = some (.cells Tryd.zeroCells122 122) := by
    rw [← hW2, ← hN]
    have := heap_alloc_new (w.alloc (.cells #[.slice va calls.length vcap, .slice pa pl pcap, .map (some q)] 101)) (.cells Tryd.zeroCells122 122)
    rw [World.size_alloc] at this
    exact this
  have hLS : LS W2 (N + 1) (fun c => lastC calls c 0) := LS.new z1
  have c0 := cellB z0 0 _ rfl
  have HL : Hid (LS W2 (N + 1) (fun c => lastC calls c 0) ∧ Below N w W2) := ⟨hLS, hb1⟩
  have HW : Hid ((w.alloc (.cells #[.slice va calls.length vcap, .slice pa pl pcap, .map (some q)] 101)).alloc (.cells Tryd.zeroCells122 122) = W2) := hW2
  have HN : Hid (w.heap.size = N) := hN
  clear hb1 z0 z1 hLS hW2 hN
  go_enter Tryd.func44, Tryd.ntmps44
  go_upto_region 2 with fail
  rw [HW.out, HN.out]
  go_wp2_with fail
  go_loopg [9] calls.length (fun gk i wr => ∃ n : Nat, n + gk = calls.length ∧ i = .int .i64 n ∧ (∀ i, i < n → P1 calls i = false) ∧ LS wr (N + 1) (fun c => lastC calls c n) ∧ Below N w wr)
  case atStart => exact ⟨0, by omega, rfl, fun i hi => by omega, HL.out.1, HL.out.2⟩
  case round =>
    obtain ⟨n, hnn, rfl, hP, hS, hB⟩ := hrel
    by_cases hn1 : n = calls.length
    · subst hn1
      have HF : Hid (fstB (P1 calls) calls.length = -1 ∧ Below N w wr) := ⟨fstB_none hP, hB⟩
      clear hP hS hB HL HV c0 HW
      go_wp2
      go_ret
      rw [HF.out.1]
      exact ⟨rfl, by rw [HN.out]; exact HF.out.2⟩
    have hn2 : n < calls.length := by omega
    obtain ⟨c, ho⟩ : ∃ c, calls[n]? = some c := ⟨_, List.getElem?_eq_getElem hn2⟩
    have hP1 := P1_at ho
    have hic := fun W => isCall_any c W
    obtain ⟨g, e', hg', -, y⟩ := ((HV.out.on hB (by rw [HN.out]; exact Nat.le_refl _))).at ho
    subst hg'
    have d0 : (0 : Int) ≤ (n : Int) := by omega
    have d1 : (n : Int) < (calls.length : Int) := by omega
    obtain ⟨D, hD⟩ : ∃ D, wr.heap.size = D := ⟨_, rfl⟩
    have hLD : N + 1 < D := by rw [← hD]; exact hS.lt
    by_cases hok : okCall c = true
    rotate_left
    · have hok' : okCall c = false := by simpa using hok
      rw [hok'] at hic
      have hF : fstB (P1 calls) calls.length = n := fstB_at hn2 (by rw [hP1, hok']; rfl) hP
      obtain ⟨cl, no, ⟨kind, k, v, od⟩, fr, tt, T, E⟩ := c
      have y0 : wr.cell? ⟨g, e' + n * 10, none⟩ = some (.int .i64 cl) := y 0 _ rfl
      have y1 : wr.cell? ⟨g, e' + n * 10 + 1, none⟩ = some (.int .i64 no) := y 1 _ rfl
      have y2 : wr.cell? ⟨g, e' + n * 10 + 2, none⟩ = some (.int .i64 kind) := y 2 _ rfl
      have y3 : wr.cell? ⟨g, e' + n * 10 + 3, none⟩ = some (.string (bs k)) := y 3 _ rfl
      have y4 : wr.cell? ⟨g, e' + n * 10 + 4, none⟩ = some (.string (bs v)) := y 4 _ rfl
      have y5 : wr.cell? ⟨g, e' + n * 10 + 5, none⟩ = some (.string (bs od)) := y 5 _ rfl
      have y6 : wr.cell? ⟨g, e' + n * 10 + 6, none⟩ = some (.int .i64 fr) := y 6 _ rfl
      have y7 : wr.cell? ⟨g, e' + n * 10 + 7, none⟩ = some (.int .i64 tt) := y 7 _ rfl
      have y8 : wr.cell? ⟨g, e' + n * 10 + 8, none⟩ = some (.int .i64 E) := y 8 _ rfl
      have y9 : wr.cell? ⟨g, e' + n * 10 + 9, none⟩ = some (.string (bs T)) := y 9 _ rfl
      have HF : Hid (fstB (P1 calls) calls.length = n ∧ Below N w wr) := ⟨hF, hB⟩
      clear ho y hok hok' hP1 hP hS HL HV c0 HW
      go_upto_region 5 with fail
      have rD := heap_alloc_new wr (.cells #[.int .i64 cl, .int .i64 no, .int .i64 kind, .string (bs k), .string (bs v), .string (bs od), .int .i64 fr, .int .i64 tt, .int .i64 E, .string (bs T)] 51)
      have hbA := (Below.refl wr.heap.size wr).alloc (Nat.le_refl _) (.cells #[.int .i64 cl, .int .i64 no, .int .i64 kind, .string (bs k), .string (bs v), .string (bs od), .int .i64 fr, .int .i64 tt, .int .i64 E, .string (bs T)] 51)
      obtain ⟨WA, hWA⟩ : ∃ W, wr.alloc (.cells #[.int .i64 cl, .int .i64 no, .int .i64 kind, .string (bs k), .string (bs v), .string (bs od), .int .i64 fr, .int .i64 tt, .int .i64 E, .string (bs T)] 51) = W := ⟨_, rfl⟩
      have hzA : WA.heap.size = D + 1 := by rw [← hWA, ← hD]; simp
      rw [hWA] at rD hbA ⊢
      rw [hD] at rD hbA
      try rw [hD]
      have HIC : Hid (∀ W, Below (D + 1) WA W → Calls Tryd.prog 52 #[.agg #[.int .i64 cl, .int .i64 no, .int .i64 kind, .string (bs k), .string (bs v), .string (bs od), .int .i64 fr, .int .i64 tt, .int .i64 E, .string (bs T)]] W fun e W' => e = .returned (.bool false) ∧ Below N w W' ∧ W'.cell? ⟨D, 0, none⟩ = some (.int .i64 cl) ∧ W'.cell? ⟨D, 1, none⟩ = some (.int .i64 no) ∧ W'.cell? ⟨D, 2, none⟩ = some (.int .i64 kind) ∧ W'.cell? ⟨D, 3, none⟩ = some (.string (bs k)) ∧ W'.cell? ⟨D, 4, none⟩ = some (.string (bs v)) ∧ W'.cell? ⟨D, 5, none⟩ = some (.string (bs od)) ∧ W'.cell? ⟨D, 6, none⟩ = some (.int .i64 fr) ∧ W'.cell? ⟨D, 7, none⟩ = some (.int .i64 tt) ∧ W'.cell? ⟨D, 8, none⟩ = some (.int .i64 E) ∧ W'.cell? ⟨D, 9, none⟩ = some (.string (bs T))) := fun W hW => (hic W).mono fun e W' hh => by
        have hb' := hW.trans (hh.2.mono (by have := hW.size; omega))
        have g0 := (hb'.block D (by omega)).trans rD
        exact ⟨hh.1, HF.out.2.trans ((hbA.trans (hb'.mono (by omega))).mono (by omega)), cellB g0 0 _ rfl, cellB g0 1 _ rfl, cellB g0 2 _ rfl, cellB g0 3 _ rfl, cellB g0 4 _ rfl, cellB g0 5 _ rfl, cellB g0 6 _ rfl, cellB g0 7 _ rfl, cellB g0 8 _ rfl, cellB g0 9 _ rfl⟩
      have x0 := cellB rD 0 _ rfl
      have x1 := cellB rD 1 _ rfl
      have x2 := cellB rD 2 _ rfl
      have x3 := cellB rD 3 _ rfl
      have x4 := cellB rD 4 _ rfl
      have x5 := cellB rD 5 _ rfl
      have x6 := cellB rD 6 _ rfl
      have x7 := cellB rD 7 _ rfl
      have x8 := cellB rD 8 _ rfl
      have x9 := cellB rD 9 _ rfl
      have hS0 : WA.drew.cell? ⟨D, 0, none⟩ = some (.int .i64 cl) ∧ WA.drew.cell? ⟨D, 1, none⟩ = some (.int .i64 no) ∧ WA.drew.cell? ⟨D, 2, none⟩ = some (.int .i64 kind) ∧ WA.drew.cell? ⟨D, 3, none⟩ = some (.string (bs k)) ∧ WA.drew.cell? ⟨D, 4, none⟩ = some (.string (bs v)) ∧ WA.drew.cell? ⟨D, 5, none⟩ = some (.string (bs od)) ∧ WA.drew.cell? ⟨D, 6, none⟩ = some (.int .i64 fr) ∧ WA.drew.cell? ⟨D, 7, none⟩ = some (.int .i64 tt) ∧ WA.drew.cell? ⟨D, 8, none⟩ = some (.int .i64 E) ∧ WA.drew.cell? ⟨D, 9, none⟩ = some (.string (bs T)) := ⟨x0, x1, x2, x3, x4, x5, x6, x7, x8, x9⟩
      have HS0 : Hid (WA.drew.cell? ⟨D, 0, none⟩ = some (.int .i64 cl) ∧ WA.drew.cell? ⟨D, 1, none⟩ = some (.int .i64 no) ∧ WA.drew.cell? ⟨D, 2, none⟩ = some (.int .i64 kind) ∧ WA.drew.cell? ⟨D, 3, none⟩ = some (.string (bs k)) ∧ WA.drew.cell? ⟨D, 4, none⟩ = some (.string (bs v)) ∧ WA.drew.cell? ⟨D, 5, none⟩ = some (.string (bs od)) ∧ WA.drew.cell? ⟨D, 6, none⟩ = some (.int .i64 fr) ∧ WA.drew.cell? ⟨D, 7, none⟩ = some (.int .i64 tt) ∧ WA.drew.cell? ⟨D, 8, none⟩ = some (.int .i64 E) ∧ WA.drew.cell? ⟨D, 9, none⟩ = some (.string (bs T))) := hS0
      clear rD hic hD hWA hzA hbA y0 y1 y2 y3 y4 y5 y6 y7 y8 y9 hS0 x0 x1 x2 x3 x4 x5 x6 x7 x8 x9
      refine region_Z 99 (fun W => W.cell? ⟨D, 0, none⟩ = some (.int .i64 cl) ∧ W.cell? ⟨D, 1, none⟩ = some (.int .i64 no) ∧ W.cell? ⟨D, 2, none⟩ = some (.int .i64 kind) ∧ W.cell? ⟨D, 3, none⟩ = some (.string (bs k)) ∧ W.cell? ⟨D, 4, none⟩ = some (.string (bs v)) ∧ W.cell? ⟨D, 5, none⟩ = some (.string (bs od)) ∧ W.cell? ⟨D, 6, none⟩ = some (.int .i64 fr) ∧ W.cell? ⟨D, 7, none⟩ = some (.int .i64 tt) ∧ W.cell? ⟨D, 8, none⟩ = some (.int .i64 E) ∧ W.cell? ⟨D, 9, none⟩ = some (.string (bs T))) (by kernel_rfl) ?_
      have hS0 := HS0.out
      refine Y_take (i := 0) (v := ?_) rfl (by kernel_rfl) (by kernel_rfl) (by kernel_rfl) (by kernel_rfl) (fun _ _ _ h => h) (by rfl) hS0 ?_ ?_
      rotate_left
      · (intro w' hSw; obtain ⟨p0, p1, p2, p3, p4, p5, p6, p7, p8, p9⟩ := hSw; go_simp; (try with_reducible rfl))
      simp only [Act.put, List.setIfInBounds_toArray, List.getElem_toArray, List.getElem_cons_zero, List.set_cons_succ, List.set_cons_zero]
      refine Z_step (i := 1) (by kernel_rfl) rfl (fun K' hK => ?_)
      go_simp
      refine (HIC.out _ (below_drew (Below.refl _ _))).mono ?_
      rintro e w1 ⟨rfl, hB1, hS1⟩
      refine hK _ _ (fun _ => hS1) ?_
      clear hK K'
      refine Y_take (i := 2) (v := ?_) rfl (by kernel_rfl) (by kernel_rfl) (by kernel_rfl) (by kernel_rfl) (fun _ _ _ h => h) (by rfl) hS1 ?_ ?_
      rotate_left
      · (intro w' hSw; obtain ⟨p0, p1, p2, p3, p4, p5, p6, p7, p8, p9⟩ := hSw; go_simp; (try with_reducible rfl))
      simp only [Act.put, List.setIfInBounds_toArray, List.getElem_toArray, List.getElem_cons_succ, List.getElem_cons_zero, List.set_cons_succ, List.set_cons_zero]
      refine Y_take (i := 3) (v := ?_) rfl (by kernel_rfl) (by kernel_rfl) (by kernel_rfl) (by kernel_rfl) (fun _ _ _ h => h) (by rfl) hS1 ?_ ?_
      rotate_left
      · (intro w' hSw; obtain ⟨p0, p1, p2, p3, p4, p5, p6, p7, p8, p9⟩ := hSw; go_simp; (try with_reducible rfl))
      simp only [Act.put, List.setIfInBounds_toArray, List.getElem_toArray, List.getElem_cons_succ, List.getElem_cons_zero, List.set_cons_succ, List.set_cons_zero]
      refine Y_skip (i := 4) rfl (by kernel_rfl) (by kernel_rfl) (by kernel_rfl) (by kernel_rfl) (fun _ _ _ h => h) (by rfl) hS1 ?_
      simp only [Act.put, List.setIfInBounds_toArray, List.getElem_toArray, List.getElem_cons_succ, List.getElem_cons_zero, List.set_cons_succ, List.set_cons_zero]
      refine Y_skip (i := 5) rfl (by kernel_rfl) (by kernel_rfl) (by kernel_rfl) (by kernel_rfl) (fun _ _ _ h => h) (by rfl) hS1 ?_
      simp only [Act.put, List.setIfInBounds_toArray, List.getElem_toArray, List.getElem_cons_succ, List.getElem_cons_zero, List.set_cons_succ, List.set_cons_zero]
      refine Y_skip (i := 6) rfl (by kernel_rfl) (by kernel_rfl) (by kernel_rfl) (by kernel_rfl) (fun _ _ _ h => h) (by rfl) hS1 ?_
      simp only [Act.put, List.setIfInBounds_toArray, List.getElem_toArray, List.getElem_cons_succ, List.getElem_cons_zero, List.set_cons_succ, List.set_cons_zero]
      refine Y_skip (i := 7) rfl (by kernel_rfl) (by kernel_rfl) (by kernel_rfl) (by kernel_rfl) (fun _ _ _ h => h) (by rfl) hS1 ?_
      simp only [Act.put, List.setIfInBounds_toArray, List.getElem_toArray, List.getElem_cons_succ, List.getElem_cons_zero, List.set_cons_succ, List.set_cons_zero]
      refine Y_skip (i := 8) rfl (by kernel_rfl) (by kernel_rfl) (by kernel_rfl) (by kernel_rfl) (fun _ _ _ h => h) (by rfl) hS1 ?_
      simp only [Act.put, List.setIfInBounds_toArray, List.getElem_toArray, List.getElem_cons_succ, List.getElem_cons_zero, List.set_cons_succ, List.set_cons_zero]
      refine Y_skip (i := 9) rfl (by kernel_rfl) (by kernel_rfl) (by kernel_rfl) (by kernel_rfl) (fun _ _ _ h => h) (by rfl) hS1 ?_
      simp only [Act.put, List.setIfInBounds_toArray, List.getElem_toArray, List.getElem_cons_succ, List.getElem_cons_zero, List.set_cons_succ, List.set_cons_zero]
      refine Y_skip (i := 10) rfl (by kernel_rfl) (by kernel_rfl) (by kernel_rfl) (by kernel_rfl) (fun _ _ _ h => h) (by rfl) hS1 ?_
      simp only [Act.put, List.setIfInBounds_toArray, List.getElem_toArray, List.getElem_cons_succ, List.getElem_cons_zero, List.set_cons_succ, List.set_cons_zero]
      refine Z_step (i := 11) (by kernel_rfl) rfl (fun K' hK => ?_)
      go_simp
      refine hK _ _ (fun _ => hS1) (Z_done (by kernel_rfl) ?_ _)
      clear hK K'
      all_goals
        go_wp2
        go_ret
        rw [HF.out.1]
        exact ⟨rfl, by rw [HN.out]; exact hB1⟩
    obtain ⟨j, hj, hcl⟩ : ∃ j : Nat, j < 8 ∧ c.cl = j := by
      have h2 := hok
      simp only [okCall, Bool.and_eq_true, decide_eq_true_eq] at h2
      exact ⟨c.cl.toNat, by omega, by omega⟩
    rw [hok] at hic
    have hLj : wr.rangeAt (N + 1) (j * 10) (ccs (lastC calls (j : Int) n)) := hS.cel j hj
    obtain ⟨b, hbE⟩ : ∃ b, lastC calls c.cl n = b := ⟨_, rfl⟩
    have hbE' : lastC calls (j : Int) n = b := by rw [← hbE, hcl]
    rw [hbE'] at hLj
    have hbh := fun W => behind_any c b W
    have hPn : P1 calls n = !(behind c b) := by rw [hP1, hok, hbE]; rfl
    have hset := fun W (h : LS W (N + 1) (fun d => lastC calls d n)) => h.set hj c
    have hsuc : (fun d : Int => if (j : Int) = d then c else lastC calls d n) = fun d => lastC calls d (n + 1) := by
      funext d
      rw [lastC_succ ho, hcl]
    rw [hsuc] at hset
    have hone := ccs_one c
    have hl10 : (ccs c).toArray.size = 10 := rfl
    obtain ⟨bcl, bno, ⟨bk0, bk1, bk2, bk3⟩, bfr, btt, bT, bE⟩ := b
    obtain ⟨cl, no, ⟨kind, k, v, od⟩, fr, tt, T, E⟩ := c
    obtain rfl : cl = (j : Int) := hcl
    have y0 : wr.cell? ⟨g, e' + n * 10, none⟩ = some (.int .i64 (j : Int)) := y 0 _ rfl
    have y1 : wr.cell? ⟨g, e' + n * 10 + 1, none⟩ = some (.int .i64 no) := y 1 _ rfl
    have y2 : wr.cell? ⟨g, e' + n * 10 + 2, none⟩ = some (.int .i64 kind) := y 2 _ rfl
    have y3 : wr.cell? ⟨g, e' + n * 10 + 3, none⟩ = some (.string (bs k)) := y 3 _ rfl
    have y4 : wr.cell? ⟨g, e' + n * 10 + 4, none⟩ = some (.string (bs v)) := y 4 _ rfl
    have y5 : wr.cell? ⟨g, e' + n * 10 + 5, none⟩ = some (.string (bs od)) := y 5 _ rfl
    have y6 : wr.cell? ⟨g, e' + n * 10 + 6, none⟩ = some (.int .i64 fr) := y 6 _ rfl
    have y7 : wr.cell? ⟨g, e' + n * 10 + 7, none⟩ = some (.int .i64 tt) := y 7 _ rfl
    have y8 : wr.cell? ⟨g, e' + n * 10 + 8, none⟩ = some (.int .i64 E) := y 8 _ rfl
    have y9 : wr.cell? ⟨g, e' + n * 10 + 9, none⟩ = some (.string (bs T)) := y 9 _ rfl
    have j0 : (0 : Int) ≤ (j : Int) := by omega
    have j1 : (j : Int) < 8 := by omega
    obtain ⟨BH, hBH⟩ : ∃ x, behind ⟨(j : Int), no, ⟨kind, k, v, od⟩, fr, tt, (T, E)⟩ ⟨bcl, bno, ⟨bk0, bk1, bk2, bk3⟩, bfr, btt, (bT, bE)⟩ = x := ⟨_, rfl⟩
    rw [hBH] at hbh hPn
    have HS : Hid (LS wr (N + 1) (fun c => lastC calls c n) ∧ Below N w wr) := ⟨hS, hB⟩
    have HSET : Hid (∀ W, LS W (N + 1) (fun d => lastC calls d n) → LS (W.setCells (N + 1) (j * 10) [.int .i64 (j : Int), .int .i64 no, .int .i64 kind, .string (bs k), .string (bs v), .string (bs od), .int .i64 fr, .int .i64 tt, .int .i64 E, .string (bs T)]) (N + 1) (fun d => lastC calls d (n + 1))) := hset
    have HONE : Hid ((#[.int .i64 (j : Int), .int .i64 no, .int .i64 kind, .string (bs k), .string (bs v), .string (bs od), .int .i64 fr, .int .i64 tt, .int .i64 E, .string (bs T)] : Array Value).all (·.oneCell') = true) := hone
    have HP : Hid (∀ i, i < n → P1 calls i = false) := hP
    have HPN : Hid (P1 calls n = !BH) := hPn
    clear ho y hok hP1 hP hS HL HV c0 HW hbE hbE' hBH hset hsuc hone hPn hl10
    go_upto_region 5 with fail
    have rD := heap_alloc_new wr (.cells #[.int .i64 (j : Int), .int .i64 no, .int .i64 kind, .string (bs k), .string (bs v), .string (bs od), .int .i64 fr, .int .i64 tt, .int .i64 E, .string (bs T)] 51)
    have hbA := (Below.refl wr.heap.size wr).alloc (Nat.le_refl _) (.cells #[.int .i64 (j : Int), .int .i64 no, .int .i64 kind, .string (bs k), .string (bs v), .string (bs od), .int .i64 fr, .int .i64 tt, .int .i64 E, .string (bs T)] 51)
    obtain ⟨WA, hWA⟩ : ∃ W, wr.alloc (.cells #[.int .i64 (j : Int), .int .i64 no, .int .i64 kind, .string (bs k), .string (bs v), .string (bs od), .int .i64 fr, .int .i64 tt, .int .i64 E, .string (bs T)] 51) = W := ⟨_, rfl⟩
    have hzA : WA.heap.size = D + 1 := by rw [← hWA, ← hD]; simp
    rw [hWA] at rD hbA ⊢
    rw [hD] at rD hbA
    try rw [hD]
    have hLA : WA.rangeAt (N + 1) (j * 10) (ccs ⟨bcl, bno, ⟨bk0, bk1, bk2, bk3⟩, bfr, btt, (bT, bE)⟩) := fun i x hx => (hbA.cell (p := ⟨N + 1, j * 10 + i, none⟩) hLD).trans (hLj i x hx)
    have HCS : Hid (∀ W, Below (D + 1) WA W → W.cell? ⟨D, 0, none⟩ = some (.int .i64 (j : Int)) ∧ W.cell? ⟨D, 1, none⟩ = some (.int .i64 no) ∧ W.cell? ⟨D, 2, none⟩ = some (.int .i64 kind) ∧ W.cell? ⟨D, 3, none⟩ = some (.string (bs k)) ∧ W.cell? ⟨D, 4, none⟩ = some (.string (bs v)) ∧ W.cell? ⟨D, 5, none⟩ = some (.string (bs od)) ∧ W.cell? ⟨D, 6, none⟩ = some (.int .i64 fr) ∧ W.cell? ⟨D, 7, none⟩ = some (.int .i64 tt) ∧ W.cell? ⟨D, 8, none⟩ = some (.int .i64 E) ∧ W.cell? ⟨D, 9, none⟩ = some (.string (bs T)) ∧ W.cell? ⟨N + 1, j * 10, none⟩ = some (.int .i64 bcl) ∧ W.cell? ⟨N + 1, j * 10 + 1, none⟩ = some (.int .i64 bno) ∧ W.cell? ⟨N + 1, j * 10 + 2, none⟩ = some (.int .i64 bk0) ∧ W.cell? ⟨N + 1, j * 10 + 3, none⟩ = some (.string (bs bk1)) ∧ W.cell? ⟨N + 1, j * 10 + 4, none⟩ = some (.string (bs bk2)) ∧ W.cell? ⟨N + 1, j * 10 + 5, none⟩ = some (.string (bs bk3)) ∧ W.cell? ⟨N + 1, j * 10 + 6, none⟩ = some (.int .i64 bfr) ∧ W.cell? ⟨N + 1, j * 10 + 7, none⟩ = some (.int .i64 btt) ∧ W.cell? ⟨N + 1, j * 10 + 8, none⟩ = some (.int .i64 bE) ∧ W.cell? ⟨N + 1, j * 10 + 9, none⟩ = some (.string (bs bT))) := fun W hW => by
      have g0 := (hW.block D (by omega)).trans rD
      have g1 : ∀ i x, (ccs ⟨bcl, bno, ⟨bk0, bk1, bk2, bk3⟩, bfr, btt, (bT, bE)⟩)[i]? = some x → W.cell? ⟨N + 1, j * 10 + i, none⟩ = some x := fun i x hx => (hW.cell (p := ⟨N + 1, j * 10 + i, none⟩) (by show N + 1 < D + 1; omega)).trans (hLA i x hx)
      exact ⟨cellB g0 0 _ rfl, cellB g0 1 _ rfl, cellB g0 2 _ rfl, cellB g0 3 _ rfl, cellB g0 4 _ rfl, cellB g0 5 _ rfl, cellB g0 6 _ rfl, cellB g0 7 _ rfl, cellB g0 8 _ rfl, cellB g0 9 _ rfl, g1 0 _ rfl, g1 1 _ rfl, g1 2 _ rfl, g1 3 _ rfl, g1 4 _ rfl, g1 5 _ rfl, g1 6 _ rfl, g1 7 _ rfl, g1 8 _ rfl, g1 9 _ rfl⟩
    have HIC : Hid (∀ W, Below (D + 1) WA W → Calls Tryd.prog 52 #[.agg #[.int .i64 (j : Int), .int .i64 no, .int .i64 kind, .string (bs k), .string (bs v), .string (bs od), .int .i64 fr, .int .i64 tt, .int .i64 E, .string (bs T)]] W fun e W' => e = .returned (.bool true) ∧ Below (D + 1) WA W' ∧ W'.cell? ⟨D, 0, none⟩ = some (.int .i64 (j : Int)) ∧ W'.cell? ⟨D, 1, none⟩ = some (.int .i64 no) ∧ W'.cell? ⟨D, 2, none⟩ = some (.int .i64 kind) ∧ W'.cell? ⟨D, 3, none⟩ = some (.string (bs k)) ∧ W'.cell? ⟨D, 4, none⟩ = some (.string (bs v)) ∧ W'.cell? ⟨D, 5, none⟩ = some (.string (bs od)) ∧ W'.cell? ⟨D, 6, none⟩ = some (.int .i64 fr) ∧ W'.cell? ⟨D, 7, none⟩ = some (.int .i64 tt) ∧ W'.cell? ⟨D, 8, none⟩ = some (.int .i64 E) ∧ W'.cell? ⟨D, 9, none⟩ = some (.string (bs T)) ∧ W'.cell? ⟨N + 1, j * 10, none⟩ = some (.int .i64 bcl) ∧ W'.cell? ⟨N + 1, j * 10 + 1, none⟩ = some (.int .i64 bno) ∧ W'.cell? ⟨N + 1, j * 10 + 2, none⟩ = some (.int .i64 bk0) ∧ W'.cell? ⟨N + 1, j * 10 + 3, none⟩ = some (.string (bs bk1)) ∧ W'.cell? ⟨N + 1, j * 10 + 4, none⟩ = some (.string (bs bk2)) ∧ W'.cell? ⟨N + 1, j * 10 + 5, none⟩ = some (.string (bs bk3)) ∧ W'.cell? ⟨N + 1, j * 10 + 6, none⟩ = some (.int .i64 bfr) ∧ W'.cell? ⟨N + 1, j * 10 + 7, none⟩ = some (.int .i64 btt) ∧ W'.cell? ⟨N + 1, j * 10 + 8, none⟩ = some (.int .i64 bE) ∧ W'.cell? ⟨N + 1, j * 10 + 9, none⟩ = some (.string (bs bT))) := fun W hW => (hic W).mono fun e W' hh => by
      have hb' := hW.trans (hh.2.mono (by have := hW.size; omega))
      exact ⟨hh.1, hb', HCS.out W' hb'⟩
    have HBH : Hid (∀ W, Below (D + 1) WA W → Calls Tryd.prog 53 #[.agg #[.int .i64 (j : Int), .int .i64 no, .int .i64 kind, .string (bs k), .string (bs v), .string (bs od), .int .i64 fr, .int .i64 tt, .int .i64 E, .string (bs T)], .agg #[.int .i64 bcl, .int .i64 bno, .int .i64 bk0, .string (bs bk1), .string (bs bk2), .string (bs bk3), .int .i64 bfr, .int .i64 btt, .int .i64 bE, .string (bs bT)]] W fun e W' => e = .returned (.bool BH) ∧ Below (D + 1) WA W' ∧ W'.cell? ⟨D, 0, none⟩ = some (.int .i64 (j : Int)) ∧ W'.cell? ⟨D, 1, none⟩ = some (.int .i64 no) ∧ W'.cell? ⟨D, 2, none⟩ = some (.int .i64 kind) ∧ W'.cell? ⟨D, 3, none⟩ = some (.string (bs k)) ∧ W'.cell? ⟨D, 4, none⟩ = some (.string (bs v)) ∧ W'.cell? ⟨D, 5, none⟩ = some (.string (bs od)) ∧ W'.cell? ⟨D, 6, none⟩ = some (.int .i64 fr) ∧ W'.cell? ⟨D, 7, none⟩ = some (.int .i64 tt) ∧ W'.cell? ⟨D, 8, none⟩ = some (.int .i64 E) ∧ W'.cell? ⟨D, 9, none⟩ = some (.string (bs T)) ∧ W'.cell? ⟨N + 1, j * 10, none⟩ = some (.int .i64 bcl) ∧ W'.cell? ⟨N + 1, j * 10 + 1, none⟩ = some (.int .i64 bno) ∧ W'.cell? ⟨N + 1, j * 10 + 2, none⟩ = some (.int .i64 bk0) ∧ W'.cell? ⟨N + 1, j * 10 + 3, none⟩ = some (.string (bs bk1)) ∧ W'.cell? ⟨N + 1, j * 10 + 4, none⟩ = some (.string (bs bk2)) ∧ W'.cell? ⟨N + 1, j * 10 + 5, none⟩ = some (.string (bs bk3)) ∧ W'.cell? ⟨N + 1, j * 10 + 6, none⟩ = some (.int .i64 bfr) ∧ W'.cell? ⟨N + 1, j * 10 + 7, none⟩ = some (.int .i64 btt) ∧ W'.cell? ⟨N + 1, j * 10 + 8, none⟩ = some (.int .i64 bE) ∧ W'.cell? ⟨N + 1, j * 10 + 9, none⟩ = some (.string (bs bT))) := fun W hW => (hbh W).mono fun e W' hh => by
      have hb' := hW.trans (hh.2.mono (by have := hW.size; omega))
      exact ⟨hh.1, hb', HCS.out W' hb'⟩
    have HLS : Hid (∀ W, Below (D + 1) WA W → LS W (N + 1) (fun c => lastC calls c n) ∧ Below N w W) := fun W hW => ⟨(HS.out.1.on hbA hLD).on hW (by omega), HS.out.2.trans ((hbA.trans (hW.mono (by omega))).mono (by omega))⟩
    obtain ⟨x0, x1, x2, x3, x4, x5, x6, x7, x8, x9, x10, x11, x12, x13, x14, x15, x16, x17, x18, x19⟩ := HCS.out WA (Below.refl _ _)
    clear rD hic hbh hD hWA hzA hbA y0 y1 y2 y3 y4 y5 y6 y7 y8 y9 hLA hLj HCS HS
    go_region_held3 (fun W => W.cell? ⟨D, 0, none⟩ = some (.int .i64 (j : Int)) ∧ W.cell? ⟨D, 1, none⟩ = some (.int .i64 no) ∧ W.cell? ⟨D, 2, none⟩ = some (.int .i64 kind) ∧ W.cell? ⟨D, 3, none⟩ = some (.string (bs k)) ∧ W.cell? ⟨D, 4, none⟩ = some (.string (bs v)) ∧ W.cell? ⟨D, 5, none⟩ = some (.string (bs od)) ∧ W.cell? ⟨D, 6, none⟩ = some (.int .i64 fr) ∧ W.cell? ⟨D, 7, none⟩ = some (.int .i64 tt) ∧ W.cell? ⟨D, 8, none⟩ = some (.int .i64 E) ∧ W.cell? ⟨D, 9, none⟩ = some (.string (bs T)) ∧ W.cell? ⟨N + 1, j * 10, none⟩ = some (.int .i64 bcl) ∧ W.cell? ⟨N + 1, j * 10 + 1, none⟩ = some (.int .i64 bno) ∧ W.cell? ⟨N + 1, j * 10 + 2, none⟩ = some (.int .i64 bk0) ∧ W.cell? ⟨N + 1, j * 10 + 3, none⟩ = some (.string (bs bk1)) ∧ W.cell? ⟨N + 1, j * 10 + 4, none⟩ = some (.string (bs bk2)) ∧ W.cell? ⟨N + 1, j * 10 + 5, none⟩ = some (.string (bs bk3)) ∧ W.cell? ⟨N + 1, j * 10 + 6, none⟩ = some (.int .i64 bfr) ∧ W.cell? ⟨N + 1, j * 10 + 7, none⟩ = some (.int .i64 btt) ∧ W.cell? ⟨N + 1, j * 10 + 8, none⟩ = some (.int .i64 bE) ∧ W.cell? ⟨N + 1, j * 10 + 9, none⟩ = some (.string (bs bT))) (go_keep)
      (first
        | (go_at_call 52; refine (HIC.out _ (by first | exact Below.refl _ _ | exact below_drew (Below.refl _ _) | exact below_drewN (Below.refl _ _) _)).mono ?_; rintro e w1 ⟨rfl, hB1, e0, e1, e2, e3, e4, e5, e6, e7, e8, e9, e10, e11, e12, e13, e14, e15, e16, e17, e18, e19⟩)
        | (go_at_call 53; refine (HBH.out _ (by first | exact hB1 | exact below_drew hB1 | exact below_drewN hB1 _)).mono ?_; rintro e w2 ⟨rfl, hB2, f0, f1, f2, f3, f4, f5, f6, f7, f8, f9, f10, f11, f12, f13, f14, f15, f16, f17, f18, f19⟩))
    cases BH with
    | false =>
      have HF : Hid (fstB (P1 calls) calls.length = n ∧ Below N w w2) := ⟨fstB_at hn2 (by rw [HPN.out]; rfl) HP.out, (HLS.out w2 hB2).2⟩
      clear x0 x1 x2 x3 x4 x5 x6 x7 x8 x9 x10 x11 x12 x13 x14 x15 x16 x17 x18 x19 e0 e1 e2 e3 e4 e5 e6 e7 e8 e9 e10 e11 e12 e13 e14 e15 e16 e17 e18 e19 HIC HBH HLS HSET HONE HP HPN hB1 hB2
      go_wp2
      go_ret
      rw [HF.out.1]
      exact ⟨rfl, by rw [HN.out]; exact HF.out.2⟩
    | true =>
      have hLS2 := (HLS.out w2 hB2).1
      have fz : ∀ i, i < 10 → w2.frozen? ⟨N + 1, j * 10 + i, none⟩ = false := fun i hi => by
        have := (hLS2.there (j * 10 + i) (by omega)).2
        rw [Nat.zero_add] at this
        exact this
      have z0 : w2.frozen? ⟨N + 1, j * 10, none⟩ = false := fz 0 (by omega)
      have z1 : w2.frozen? ⟨N + 1, j * 10 + 1, none⟩ = false := fz 1 (by omega)
      have z2 : w2.frozen? ⟨N + 1, j * 10 + 2, none⟩ = false := fz 2 (by omega)
      have z3 : w2.frozen? ⟨N + 1, j * 10 + 3, none⟩ = false := fz 3 (by omega)
      have z4 : w2.frozen? ⟨N + 1, j * 10 + 4, none⟩ = false := fz 4 (by omega)
      have z5 : w2.frozen? ⟨N + 1, j * 10 + 5, none⟩ = false := fz 5 (by omega)
      have z6 : w2.frozen? ⟨N + 1, j * 10 + 6, none⟩ = false := fz 6 (by omega)
      have z7 : w2.frozen? ⟨N + 1, j * 10 + 7, none⟩ = false := fz 7 (by omega)
      have z8 : w2.frozen? ⟨N + 1, j * 10 + 8, none⟩ = false := fz 8 (by omega)
      have z9 : w2.frozen? ⟨N + 1, j * 10 + 9, none⟩ = false := fz 9 (by omega)
      have hNX : LS (w2.setCells (N + 1) (j * 10) [.int .i64 (j : Int), .int .i64 no, .int .i64 kind, .string (bs k), .string (bs v), .string (bs od), .int .i64 fr, .int .i64 tt, .int .i64 E, .string (bs T)]) (N + 1) (fun d => lastC calls d (n + 1)) ∧ Below N w (w2.setCells (N + 1) (j * 10) [.int .i64 (j : Int), .int .i64 no, .int .i64 kind, .string (bs k), .string (bs v), .string (bs od), .int .i64 fr, .int .i64 tt, .int .i64 E, .string (bs T)]) ∧ ∀ i, i < n + 1 → P1 calls i = false := ⟨HSET.out w2 hLS2, below_sets (HLS.out w2 hB2).2 (by omega) _ _, fun i hi => by
        by_cases e : i = n
        · subst e; rw [HPN.out]; rfl
        · exact HP.out i (by omega)⟩
      rw [sets10] at hNX
      have HNX : Hid (_) := hNX
      clear x0 x1 x2 x3 x4 x5 x6 x7 x8 x9 x10 x11 x12 x13 x14 x15 x16 x17 x18 x19 e0 e1 e2 e3 e4 e5 e6 e7 e8 e9 e10 e11 e12 e13 e14 e15 e16 e17 e18 e19 HIC HBH HLS HSET hB1 hB2 hLS2 HP HPN fz hNX
      go_wp2
      go_roundg (calls.length - (n + 1))
      case measure => omega
      case rel => exact ⟨n + 1, by omega, by go_num, HNX.out.2.2, HNX.out.1, HNX.out.2.1⟩
end
section
open Go.RowKit Go.Maps
attribute [local go_sem ↓] Go.wp_at_zero Go.wp_at_succ

/-- The moment ahead of a point. -/
def prevT (pts : List Pt) : Nat → Int
  | 0 => 0
  | n + 1 => match pts[n]? with
    | some p => p.tm
    | none => 0
theorem prevT_succ {pts : List Pt} {n : Nat} {p : Pt} (h : pts[n]? = some p) : prevT pts (n + 1) = p.tm := by
  show (match pts[n]? with | some p => p.tm | none => 0) = _
  rw [h]
def P2 (calls : List Cl) (pts : List Pt) (i : Nat) : Bool := match pts[i]? with
  | some p => decide (p.tm < prevT pts i) || !(callOf calls p).isSome || !(hasM ((callOf calls p).getD clZ) p.tm) || (lastI (pts.map pk2) p.cl p.no i).isSome
  | none => false
theorem P2_at {calls : List Cl} {pts : List Pt} {i : Nat} {p : Pt} (h : pts[i]? = some p) : P2 calls pts i = (decide (p.tm < prevT pts i) || !(callOf calls p).isSome || !(hasM ((callOf calls p).getD clZ) p.tm) || (lastI (pts.map pk2) p.cl p.no i).isSome) := by
  rw [P2, h]
/-- In the midst of a walk through points: the history's box, the map of the points so far. -/
structure BP (ks : List (Int × Int)) (N : Nat) (hist : Array Value) (w : World) (Q : List (Int × Int × Int)) (n : Nat) (W : World) : Prop where
  box : W.heap[N]? = some (.cells hist 101)
  map : MapAt W 113 (some (N + 1)) (Q.map sent)
  qi : QI ks n Q
  below : Below N w W
theorem BP.on {ks : List (Int × Int)} {N : Nat} {hist : Array Value} {w : World} {Q : List (Int × Int × Int)} {n : Nat} {W W' : World} {m : Nat} (h : BP ks N hist w Q n W) (hb : Below m W W') (hm : W.heap.size ≤ m) : BP ks N hist w Q n W' := by
  have hN : N < W.heap.size := (Array.getElem?_eq_some_iff.1 h.box).1
  exact ⟨(hb.block N (by omega)).trans h.box, h.map.keep fun b e => hb.block b (by have := h.map.lt e; omega), h.qi, h.below.trans (hb.mono (by omega))⟩
theorem BP.grown {ks : List (Int × Int)} {N : Nat} {hist : Array Value} {w : World} {Q Q' : List (Int × Int × Int)} {n n' : Nat} {W W' : World} (h : BP ks N hist w Q n W) (hM : MapAt W' 113 (some (N + 1)) (Q'.map sent)) (hQ : QI ks n' Q') (hg : W.grownBy W' (some (N + 1))) : BP ks N hist w Q' n' W' := by
  have hN : N < W.heap.size := (Array.getElem?_eq_some_iff.1 h.box).1
  exact ⟨(hg.block N hN (fun e => by injection e with e; omega)).trans h.box, hM, hQ, h.below.grown hg (by omega) (fun z hz => by injection hz with hz; omega)⟩
/-- A history's box and an empty map. -/
theorem BP.new {ks : List (Int × Int)} {w : World} {hist : Array Value} : BP ks w.heap.size hist w [] 0 ((w.alloc (.cells hist 101)).alloc (.map #[] 0)) := by
  have h1 := MapAt.made (w.alloc (.cells hist 101)) 113
  rw [World.size_alloc] at h1
  exact ⟨((Below.refl (w.heap.size + 1) (w.alloc (.cells hist 101))).alloc (by simp) _).block w.heap.size (by omega) |>.trans (heap_alloc_new _ _), h1, QI.nil _, ((Below.refl _ w).alloc (Nat.le_refl _) _).alloc (by simp) _⟩
set_option maxRecDepth 20000 in
set_option maxHeartbeats 1500000 in
theorem brokenPoint_any (calls : List Cl) (pts : List Pt) (vc vp : Value) (q : Nat) (Q : List (Int × Int × Int)) (w : World) (hc : SlF ccs 10 w vc calls) (hp : SlF pks 5 w vp pts) (hM : MapAt w 113 (some q) (Q.map sent)) (hQ : QI (calls.map ck) calls.length Q) (hl : pts.length ≤ 100000) (hw : ∀ p ∈ pts, wfK (pk2 p)) :
    Calls Tryd.prog 45 #[.agg #[vc, vp, .map (some q)]] w fun e W' => e = .returned (.int .i64 (fstB (P2 calls pts) pts.length)) ∧ Below w.heap.size w W' := by
  obtain ⟨va, vcap, rfl⟩ := hc.slice
  obtain ⟨pa, pcap, rfl⟩ := hp.slice
  have HV : Hid (SlF ccs 10 w (.slice va calls.length vcap) calls ∧ SlF pks 5 w (.slice pa pts.length pcap) pts ∧ MapAt w 113 (some q) (Q.map sent) ∧ QI (calls.map ck) calls.length Q ∧ ∀ p ∈ pts, wfK (pk2 p)) := ⟨hc, hp, hM, hQ, hw⟩
  have hB0 : BP (pts.map pk2) w.heap.size #[.slice va calls.length vcap, .slice pa pts.length pcap, .map (some q)] w [] 0 ((w.alloc (.cells #[.slice va calls.length vcap, .slice pa pts.length pcap, .map (some q)] 101)).alloc (.map #[] 0)) := BP.new
  obtain ⟨N, hN⟩ : ∃ N, w.heap.size = N := ⟨_, rfl⟩
  obtain ⟨W2, hW2⟩ : ∃ W, (w.alloc (.cells #[.slice va calls.length vcap, .slice pa pts.length pcap, .map (some q)] 101)).alloc (.map #[] 0) = W := ⟨_, rfl⟩
  rw [hW2, hN] at hB0
  have HB0 : Hid (_) := hB0
  have HN : Hid (w.heap.size = N) := hN
  have HW : Hid ((w.alloc (.cells #[.slice va calls.length vcap, .slice pa pts.length pcap, .map (some q)] 101)).alloc (.map #[] 0) = W2) := hW2
  have c1 := cellB hB0.box 1 (.slice pa pts.length pcap) rfl
  have hmm := @run_makeMap Tryd.prog
  clear hc hp hM hQ hw hB0 hN hW2
  go_enter Tryd.func45, Tryd.ntmps45
  go_upto_region 2 with fail
  rw [HW.out, HN.out]
  clear hmm HW
  go_wp2_with fail
  go_loopg [4, 15] pts.length (fun gk lt i wr => ∃ (n : Nat) (Q2 : List (Int × Int × Int)), n + gk = pts.length ∧ i = .int .i64 n ∧ lt = .int .i64 (prevT pts n) ∧ (∀ i, i < n → P2 calls pts i = false) ∧ BP (pts.map pk2) N #[.slice va calls.length vcap, .slice pa pts.length pcap, .map (some q)] w Q2 n wr)
  case atStart => exact ⟨0, [], by omega, rfl, rfl, fun i hi => by omega, HB0.out⟩
  case round =>
    obtain ⟨n, Q2, hnn, rfl, rfl, hP, hB⟩ := hrel
    by_cases hn1 : n = pts.length
    · subst hn1
      have HF : Hid (fstB (P2 calls pts) pts.length = -1 ∧ Below N w wr) := ⟨fstB_none hP, hB.below⟩
      clear hP hB HB0 HV c1
      go_wp2
      go_ret
      rw [HF.out.1]
      exact ⟨rfl, by rw [HN.out]; exact HF.out.2⟩
    have hn2 : n < pts.length := by omega
    obtain ⟨p, ho⟩ : ∃ p, pts[n]? = some p := ⟨_, List.getElem?_eq_getElem hn2⟩
    have hP2 := P2_at (calls := calls) ho
    have hwp := HV.out.2.2.2.2 p (List.mem_of_getElem? ho)
    have hks : (pts.map pk2)[n]? = some (pk2 p) := by rw [List.getElem?_map, ho]; rfl
    have hps := prevT_succ ho
    have hcf := fun W (h : Below N w W) => callOf_any calls (.slice va calls.length vcap) pa pts.length pcap q Q p W (HV.out.1.on h (by rw [HN.out]; exact Nat.le_refl _)) (HV.out.2.2.1.keep fun b e => h.block b (by have := HV.out.2.2.1.lt e; have := HN.out; omega)) HV.out.2.2.2.1 hwp
    obtain ⟨c, hce⟩ : ∃ c, (callOf calls p).getD clZ = c := ⟨_, rfl⟩
    obtain ⟨ok, hok⟩ : ∃ ok, (callOf calls p).isSome = ok := ⟨_, rfl⟩
    have hha := fun m W => has_any c m W
    obtain ⟨LT, hLT⟩ : ∃ x, prevT pts n = x := ⟨_, rfl⟩
    obtain ⟨SE, hSE⟩ : ∃ x, lastI (pts.map pk2) p.cl p.no n = x := ⟨_, rfl⟩
    rw [hce, hok] at hcf
    rw [hce, hok, hLT, hSE] at hP2
    rw [hLT]
    obtain ⟨g, e', hg', -, y⟩ := (HV.out.2.1.on hB.below (by rw [HN.out]; exact Nat.le_refl _)).at ho
    subst hg'
    obtain ⟨tm, pcl, pno, pT, pE⟩ := p
    obtain ⟨HM, hHM⟩ : ∃ x, hasM c tm = x := ⟨_, rfl⟩
    have hha1 := hha tm
    rw [hHM] at hP2 hha1
    obtain ⟨cl, no, ⟨kind, k, v, od⟩, fr, tt, T, E⟩ := c
    have y0 : wr.cell? ⟨g, e' + n * 5, none⟩ = some (.int .i64 tm) := y 0 _ rfl
    have y1 : wr.cell? ⟨g, e' + n * 5 + 1, none⟩ = some (.int .i64 pcl) := y 1 _ rfl
    have y2 : wr.cell? ⟨g, e' + n * 5 + 2, none⟩ = some (.int .i64 pno) := y 2 _ rfl
    have y3 : wr.cell? ⟨g, e' + n * 5 + 3, none⟩ = some (.int .i64 pE) := y 3 _ rfl
    have y4 : wr.cell? ⟨g, e' + n * 5 + 4, none⟩ = some (.string (bs pT)) := y 4 _ rfl
    have d0 : (0 : Int) ≤ (n : Int) := by omega
    have d1 : (n : Int) < (pts.length : Int) := by omega
    obtain ⟨D, hD⟩ : ∃ D, wr.heap.size = D := ⟨_, rfl⟩
    have HP : Hid (∀ i, i < n → P2 calls pts i = false) := hP
    have HP2 : Hid (P2 calls pts n = (decide (tm < LT) || !ok || !HM || SE.isSome)) := hP2
    have HK : Hid (wfK (pcl, pno) ∧ (pts.map pk2)[n]? = some (pcl, pno) ∧ lastI (pts.map pk2) pcl pno n = SE ∧ prevT pts (n + 1) = tm) := ⟨hwp, hks, hSE, hps⟩
    have HB : Hid (_) := hB
    have HND : Hid (N + 1 < D) := by rw [← hD]; exact hB.map.lt rfl
    have rD := heap_alloc_new wr (.cells #[.int .i64 tm, .int .i64 pcl, .int .i64 pno, .int .i64 pE, .string (bs pT)] 56)
    have hbA := (Below.refl wr.heap.size wr).alloc (Nat.le_refl _) (.cells #[.int .i64 tm, .int .i64 pcl, .int .i64 pno, .int .i64 pE, .string (bs pT)] 56)
    obtain ⟨WA, hWA⟩ : ∃ W, wr.alloc (.cells #[.int .i64 tm, .int .i64 pcl, .int .i64 pno, .int .i64 pE, .string (bs pT)] 56) = W := ⟨_, rfl⟩
    rw [hWA] at rD hbA
    have hBA := hB.on hbA (Nat.le_refl _)
    have hzA : WA.heap.size = D + 1 := by rw [← hWA, ← hD]; simp
    have HCF : Hid (∀ W, Below (D + 1) WA W → Calls Tryd.prog 54 #[.agg #[.slice va calls.length vcap, .slice (some ⟨g, e', none⟩) pts.length pcap, .map (some q)], .agg #[.int .i64 tm, .int .i64 pcl, .int .i64 pno, .int .i64 pE, .string (bs pT)]] W fun e W' => e = .returned (.tuple #[.agg #[.int .i64 cl, .int .i64 no, .int .i64 kind, .string (bs k), .string (bs v), .string (bs od), .int .i64 fr, .int .i64 tt, .int .i64 E, .string (bs T)], .bool ok]) ∧ Below (D + 1) WA W') := fun W hW => (hcf W (hBA.below.trans (hW.mono (by have := (Array.getElem?_eq_some_iff.1 hBA.box).1; omega)))).mono fun e W' hh => ⟨hh.1, hW.trans (hh.2.mono (by have := hW.size; omega))⟩
    rw [hD] at rD hbA
    have x0 := cellB rD 0 _ rfl
    have x1 := cellB rD 1 _ rfl
    have x2 := cellB rD 2 _ rfl
    have x3 := cellB rD 3 _ rfl
    have x4 := cellB rD 4 _ rfl
    have b0 := cellB hBA.box 0 _ rfl
    have b1 := cellB hBA.box 1 _ rfl
    have b2 := cellB hBA.box 2 _ rfl
    have HAll : Hid (WA.heap[D]? = some (.cells #[.int .i64 tm, .int .i64 pcl, .int .i64 pno, .int .i64 pE, .string (bs pT)] 56) ∧ WA.heap.size = D + 1 ∧ BP (pts.map pk2) N #[.slice va calls.length vcap, .slice (some ⟨g, e', none⟩) pts.length pcap, .map (some q)] w Q2 n WA) := ⟨rD, hzA, hBA⟩
    have HWA : Hid (wr.alloc (.cells #[.int .i64 tm, .int .i64 pcl, .int .i64 pno, .int .i64 pE, .string (bs pT)] 56) = WA) := hWA
    have HD : Hid (wr.heap.size = D) := hD
    clear hP hP2 hwp hks hps hcf hce hok hha hLT hSE y hHM hB rD hbA hWA hBA hzA hD ho c1 HB0
    go_upto_region 6 with fail
    rw [HWA.out]
    try rw [HD.out]
    clear y0 y1 y2 y3 y4 HWA HD HB
    go_upto_region 7 with (go_at_call 54; refine (HCF.out _ (by first | exact Below.refl _ _ | exact below_drew (Below.refl _ _) | exact below_drewN (Below.refl _ _) _)).mono ?_; rintro e w1 ⟨rfl, hB1⟩)
    obtain ⟨F, hF⟩ : ∃ F, w1.heap.size = F := ⟨_, rfl⟩
    have rF := heap_alloc_new w1 (.cells #[.int .i64 cl, .int .i64 no, .int .i64 kind, .string (bs k), .string (bs v), .string (bs od), .int .i64 fr, .int .i64 tt, .int .i64 E, .string (bs T)] 51)
    have hbF := (Below.refl w1.heap.size w1).alloc (Nat.le_refl _) (.cells #[.int .i64 cl, .int .i64 no, .int .i64 kind, .string (bs k), .string (bs v), .string (bs od), .int .i64 fr, .int .i64 tt, .int .i64 E, .string (bs T)] 51)
    obtain ⟨WB, hWB⟩ : ∃ W, w1.alloc (.cells #[.int .i64 cl, .int .i64 no, .int .i64 kind, .string (bs k), .string (bs v), .string (bs od), .int .i64 fr, .int .i64 tt, .int .i64 E, .string (bs T)] 51) = W := ⟨_, rfl⟩
    have hzB : WB.heap.size = F + 1 := by rw [← hWB, ← hF]; simp
    rw [hWB] at rF hbF ⊢
    rw [hF] at rF hbF
    try rw [hF]
    have hBB : Below (D + 1) WA WB := hB1.trans (hbF.mono (by have := hB1.size; rw [HAll.out.2.1] at this; omega))
    have hDF : D + 1 ≤ F := by have := hB1.size; rw [HAll.out.2.1] at this; omega
    have HS : Hid (∀ W, Below (F + 1) WB W → (W.cell? ⟨D, 0, none⟩ = some (.int .i64 tm) ∧ W.cell? ⟨D, 1, none⟩ = some (.int .i64 pcl) ∧ W.cell? ⟨D, 2, none⟩ = some (.int .i64 pno) ∧ W.cell? ⟨D, 3, none⟩ = some (.int .i64 pE) ∧ W.cell? ⟨D, 4, none⟩ = some (.string (bs pT))) ∧ (W.cell? ⟨F, 0, none⟩ = some (.int .i64 cl) ∧ W.cell? ⟨F, 1, none⟩ = some (.int .i64 no) ∧ W.cell? ⟨F, 2, none⟩ = some (.int .i64 kind) ∧ W.cell? ⟨F, 3, none⟩ = some (.string (bs k)) ∧ W.cell? ⟨F, 4, none⟩ = some (.string (bs v)) ∧ W.cell? ⟨F, 5, none⟩ = some (.string (bs od)) ∧ W.cell? ⟨F, 6, none⟩ = some (.int .i64 fr) ∧ W.cell? ⟨F, 7, none⟩ = some (.int .i64 tt) ∧ W.cell? ⟨F, 8, none⟩ = some (.int .i64 E) ∧ W.cell? ⟨F, 9, none⟩ = some (.string (bs T))) ∧ BP (pts.map pk2) N #[.slice va calls.length vcap, .slice (some ⟨g, e', none⟩) pts.length pcap, .map (some q)] w Q2 n W) := fun W hW => by
      have hb := hBB.trans (hW.mono (by omega))
      have g0 := (hb.block D (by omega)).trans HAll.out.1
      have g1 := (hW.block F (by omega)).trans rF
      exact ⟨⟨cellB g0 0 _ rfl, cellB g0 1 _ rfl, cellB g0 2 _ rfl, cellB g0 3 _ rfl, cellB g0 4 _ rfl⟩, ⟨cellB g1 0 _ rfl, cellB g1 1 _ rfl, cellB g1 2 _ rfl, cellB g1 3 _ rfl, cellB g1 4 _ rfl, cellB g1 5 _ rfl, cellB g1 6 _ rfl, cellB g1 7 _ rfl, cellB g1 8 _ rfl, cellB g1 9 _ rfl⟩, HAll.out.2.2.on hb (by rw [HAll.out.2.1]; exact Nat.le_refl _)⟩
    obtain ⟨⟨z0, z1, z2, z3, z4⟩, ⟨u0, u1, u2, u3, u4, u5, u6, u7, u8, u9⟩, hBW⟩ := HS.out WB (Below.refl _ _)
    have HZB : Hid (WB.heap.size = F + 1 ∧ Below N w WB) := ⟨hzB, hBW.below⟩
    clear rF hbF hWB hzB hF hBB hDF hBW hB1 HCF HAll b0 b1 b2 x0 x1 x2 x3 x4
    by_cases h1 : tm < LT
    · have HF : Hid (fstB (P2 calls pts) pts.length = n) := fstB_at hn2 (by rw [HP2.out, decide_eq_true h1]; rfl) HP.out
      clear HP HP2 HK HS HV hha1
      go_wp2
      go_ret
      rw [HF.out]
      exact ⟨rfl, by rw [HN.out]; exact HZB.out.2⟩
    rw [decide_eq_false h1] at HP2
    cases ok with
    | false =>
      have HF : Hid (fstB (P2 calls pts) pts.length = n) := fstB_at hn2 (by rw [HP2.out]; rfl) HP.out
      clear HP HP2 HK HS HV hha1
      go_wp2
      go_ret
      rw [HF.out]
      exact ⟨rfl, by rw [HN.out]; exact HZB.out.2⟩
    | true =>
    have HHA : Hid (∀ W, Below (F + 1) WB W → Calls Tryd.prog 55 #[.agg #[.int .i64 cl, .int .i64 no, .int .i64 kind, .string (bs k), .string (bs v), .string (bs od), .int .i64 fr, .int .i64 tt, .int .i64 E, .string (bs T)], .int .i64 tm] W fun e W' => e = .returned (.bool HM) ∧ Below (F + 1) WB W') := fun W hW => (hha1 W).mono fun e W' hh => ⟨hh.1, hW.trans (hh.2.mono (by have := hW.size; rw [HZB.out.1] at this; exact this))⟩
    have HRQ : Hid (∀ W, Below (F + 1) WB W → Calls Tryd.prog 56 #[.agg #[.int .i64 tm, .int .i64 pcl, .int .i64 pno, .int .i64 pE, .string (bs pT)]] W fun e W' => e = .returned (.agg #[.int .i64 pcl, .int .i64 pno]) ∧ Below (F + 1) WB W') := fun W hW => (request_any tm pcl pno pE pT W).mono fun e W' hh => ⟨hh.1, hW.trans (hh.2.mono (by have := hW.size; rw [HZB.out.1] at this; exact this))⟩
    clear hha1 HV
    cases HM with
    | false =>
      have HF : Hid (fstB (P2 calls pts) pts.length = n) := fstB_at hn2 (by rw [HP2.out]; rfl) HP.out
      clear HP HP2 HK HRQ
      go_wp2_with (go_at_call 55; refine (HHA.out _ (by first | exact Below.refl _ _ | exact below_drew (Below.refl _ _) | exact below_drewN (Below.refl _ _) _)).mono ?_; rintro e w2 ⟨rfl, hB2⟩)
      go_ret
      rw [HF.out]
      exact ⟨rfl, by rw [HN.out]; exact (HS.out w2 hB2).2.2.below⟩
    | true =>
    go_upto_region 9 with (go_at_call 55; refine (HHA.out _ (by first | exact Below.refl _ _ | exact below_drew (Below.refl _ _) | exact below_drewN (Below.refl _ _) _)).mono ?_; rintro e w2 ⟨rfl, hB2⟩; obtain ⟨⟨s0, s1, s2, s3, s4⟩, -, -⟩ := HS.out w2 hB2)
    go_upto_region 10 with (go_at_call 56; refine (HRQ.out _ hB2).mono ?_; rintro e w3 ⟨rfl, hB3⟩; obtain ⟨⟨r0, r1, r2, r3, r4⟩, -, hBP3⟩ := HS.out w3 hB3; have hlk := look_q hBP3.map hBP3.qi HK.out.1; rw [HK.out.2.2.1] at hlk)
    cases SE with
    | some j =>
      have HF : Hid (fstB (P2 calls pts) pts.length = n ∧ Below N w w3) := ⟨fstB_at hn2 (by rw [HP2.out]; rfl) HP.out, hBP3.below⟩
      clear HP HP2 HK HRQ HS hBP3
      go_wp2
      go_ret
      rw [HF.out.1]
      exact ⟨rfl, by rw [HN.out]; exact HF.out.2⟩
    | none =>
    have HPN : Hid (∀ i, i < n + 1 → P2 calls pts i = false) := fun i hi => by
      by_cases e : i = n
      · subst e; rw [HP2.out]; rfl
      · exact HP.out i (by omega)
    have HL : Hid (pts.length ≤ 100000) := hl
    clear HP HP2 hBP3 hlk
    go_wp2_with (go_at_call 56; refine (HRQ.out _ hB3).mono ?_; rintro e w4 ⟨rfl, hB4⟩; obtain ⟨⟨q0, q1, q2, q3, q4⟩, -, hBP4⟩ := HS.out w4 hB4; obtain ⟨w5, hup, hM5, hQ5, hg5⟩ := store_q hBP4.map hBP4.qi (by have := HL.out; omega) HK.out.2.1 HK.out.1; have hBP5 := hBP4.grown hM5 hQ5 hg5; have t0 := (hg5.cell_far ⟨D, 0, none⟩ (World.block_lt_of_cell? w4 _ q0) (fun e => by have h1 : D = N + 1 := Option.some.inj e; have := HND.out; omega)).trans q0)
    go_roundg (pts.length - (n + 1))
    case measure => omega
    case rel => exact ⟨n + 1, _, by omega, by go_num, by rw [HK.out.2.2.2], HPN.out, hBP5⟩
end
section
open Go.RowKit Go.Maps
attribute [local go_sem ↓] Go.wp_at_zero Go.wp_at_succ

def P3 (calls : List Cl) (pts : List Pt) (i : Nat) : Bool := match calls[i]? with
  | some c => !(lastI (pts.map pk2) c.cl c.no pts.length).isSome && decide (c.tt ≠ -1)
  | none => false
theorem P3_at {calls : List Cl} {pts : List Pt} {i : Nat} {c : Cl} (h : calls[i]? = some c) : P3 calls pts i = (!(lastI (pts.map pk2) c.cl c.no pts.length).isSome && decide (c.tt ≠ -1)) := by
  rw [P3, h]
set_option maxRecDepth 20000 in
set_option maxHeartbeats 1500000 in
theorem missingPoint_any (calls : List Cl) (pts : List Pt) (vc vp : Value) (q : Nat) (w : World) (hc : SlF ccs 10 w vc calls) (hp : SlF pks 5 w vp pts) (hl : pts.length ≤ 100000) (hw : ∀ p ∈ pts, wfK (pk2 p)) (hwc : ∀ c ∈ calls, wfK (ck c)) (hlc : calls.length ≤ 100000) :
    Calls Tryd.prog 46 #[.agg #[vc, vp, .map (some q)]] w fun e W' => e = .returned (.int .i64 (fstB (P3 calls pts) calls.length)) ∧ Below w.heap.size w W' := by
  obtain ⟨va, vcap, rfl⟩ := hc.slice
  obtain ⟨pa, pcap, rfl⟩ := hp.slice
  have HV : Hid (SlF ccs 10 w (.slice va calls.length vcap) calls ∧ SlF pks 5 w (.slice pa pts.length pcap) pts ∧ (∀ p ∈ pts, wfK (pk2 p)) ∧ ∀ c ∈ calls, wfK (ck c)) := ⟨hc, hp, hw, hwc⟩
  have hB0 : BP (pts.map pk2) w.heap.size #[.slice va calls.length vcap, .slice pa pts.length pcap, .map (some q)] w [] 0 ((w.alloc (.cells #[.slice va calls.length vcap, .slice pa pts.length pcap, .map (some q)] 101)).alloc (.map #[] 0)) := BP.new
  obtain ⟨N, hN⟩ : ∃ N, w.heap.size = N := ⟨_, rfl⟩
  obtain ⟨W2, hW2⟩ : ∃ W, (w.alloc (.cells #[.slice va calls.length vcap, .slice pa pts.length pcap, .map (some q)] 101)).alloc (.map #[] 0) = W := ⟨_, rfl⟩
  rw [hW2, hN] at hB0
  have HB0 : Hid (_) := hB0
  have HN : Hid (w.heap.size = N) := hN
  have HW : Hid ((w.alloc (.cells #[.slice va calls.length vcap, .slice pa pts.length pcap, .map (some q)] 101)).alloc (.map #[] 0) = W2) := hW2
  have c1 := cellB hB0.box 1 (.slice pa pts.length pcap) rfl
  have hmm := @run_makeMap Tryd.prog
  have HL : Hid (pts.length ≤ 100000 ∧ calls.length ≤ 100000) := ⟨hl, hlc⟩
  clear hc hp hw hwc hB0 hN hW2
  go_enter Tryd.func46, Tryd.ntmps46
  go_upto_region 2 with fail
  rw [HW.out, HN.out]
  clear hmm HW
  go_wp2_with fail
  go_loopg [14] pts.length (fun gk i wr => ∃ (n : Nat) (Q2 : List (Int × Int × Int)), n + gk = pts.length ∧ i = .int .i64 n ∧ BP (pts.map pk2) N #[.slice va calls.length vcap, .slice pa pts.length pcap, .map (some q)] w Q2 n wr)
  case atStart => exact ⟨0, [], by omega, rfl, HB0.out⟩
  case round =>
    obtain ⟨n, Q2, hnn, rfl, hB⟩ := hrel
    by_cases hn1 : n < pts.length
    · obtain ⟨p, ho⟩ : ∃ p, pts[n]? = some p := ⟨_, List.getElem?_eq_getElem hn1⟩
      have hwp := HV.out.2.2.1 p (List.mem_of_getElem? ho)
      have hks : (pts.map pk2)[n]? = some (pk2 p) := by rw [List.getElem?_map, ho]; rfl
      obtain ⟨g, e', hg', -, y⟩ := (HV.out.2.1.on hB.below (by rw [HN.out]; exact Nat.le_refl _)).at ho
      subst hg'
      obtain ⟨tm, pcl, pno, pT, pE⟩ := p
      have y0 : wr.cell? ⟨g, e' + n * 5, none⟩ = some (.int .i64 tm) := y 0 _ rfl
      have y1 : wr.cell? ⟨g, e' + n * 5 + 1, none⟩ = some (.int .i64 pcl) := y 1 _ rfl
      have y2 : wr.cell? ⟨g, e' + n * 5 + 2, none⟩ = some (.int .i64 pno) := y 2 _ rfl
      have y3 : wr.cell? ⟨g, e' + n * 5 + 3, none⟩ = some (.int .i64 pE) := y 3 _ rfl
      have y4 : wr.cell? ⟨g, e' + n * 5 + 4, none⟩ = some (.string (bs pT)) := y 4 _ rfl
      have d0 : (0 : Int) ≤ (n : Int) := by omega
      have d1 : (n : Int) < (pts.length : Int) := by omega
      obtain ⟨D, hD⟩ : ∃ D, wr.heap.size = D := ⟨_, rfl⟩
      have HK : Hid (wfK (pcl, pno) ∧ (pts.map pk2)[n]? = some (pcl, pno)) := ⟨hwp, hks⟩
      have rD := heap_alloc_new wr (.cells #[.int .i64 tm, .int .i64 pcl, .int .i64 pno, .int .i64 pE, .string (bs pT)] 56)
      have hbA := (Below.refl wr.heap.size wr).alloc (Nat.le_refl _) (.cells #[.int .i64 tm, .int .i64 pcl, .int .i64 pno, .int .i64 pE, .string (bs pT)] 56)
      obtain ⟨WA, hWA⟩ : ∃ W, wr.alloc (.cells #[.int .i64 tm, .int .i64 pcl, .int .i64 pno, .int .i64 pE, .string (bs pT)] 56) = W := ⟨_, rfl⟩
      rw [hWA] at rD hbA
      have hBA := hB.on hbA (Nat.le_refl _)
      rw [hD] at rD hbA
      have x0 := cellB rD 0 _ rfl
      have x1 := cellB rD 1 _ rfl
      have x2 := cellB rD 2 _ rfl
      have x3 := cellB rD 3 _ rfl
      have x4 := cellB rD 4 _ rfl
      have HA : Hid (_) := hBA
      have HRQ : Hid (∀ W, Below WA.heap.size WA W → Calls Tryd.prog 56 #[.agg #[.int .i64 tm, .int .i64 pcl, .int .i64 pno, .int .i64 pE, .string (bs pT)]] W fun e W' => e = .returned (.agg #[.int .i64 pcl, .int .i64 pno]) ∧ Below WA.heap.size WA W') := fun W hW => (request_any tm pcl pno pE pT W).mono fun e W' hh => ⟨hh.1, hW.trans (hh.2.mono hW.size)⟩
      have HWA : Hid (wr.alloc (.cells #[.int .i64 tm, .int .i64 pcl, .int .i64 pno, .int .i64 pE, .string (bs pT)] 56) = WA) := hWA
      have HD : Hid (wr.heap.size = D) := hD
      clear hwp hks y hB rD hbA hWA hBA hD ho c1 HB0
      go_upto_region 5 with fail
      rw [HWA.out]
      try rw [HD.out]
      clear y0 y1 y2 y3 y4 HWA HD
      go_wp2_with (go_at_call 56; refine (HRQ.out _ (Below.refl _ _)).mono ?_; rintro e w4 ⟨rfl, hB4⟩; have hBP4 := HA.out.on hB4 (Nat.le_refl _); obtain ⟨w5, hup, hM5, hQ5, hg5⟩ := store_q hBP4.map hBP4.qi (by have := HL.out.1; omega) HK.out.2 HK.out.1; have hBP5 := hBP4.grown hM5 hQ5 hg5)
      go_roundg (pts.length - (n + 1))
      case measure => omega
      case rel => exact ⟨n + 1, _, by omega, by go_num, hBP5⟩
    obtain rfl : n = pts.length := by omega
    have HB : Hid (_) := hB
    have b0 := cellB hB.box 0 _ rfl
    clear hB c1 HB0
    go_wp2_with fail
    go_loopg [27] calls.length (fun gk i wr => ∃ m : Nat, m + gk = calls.length ∧ i = .int .i64 m ∧ (∀ i, i < m → P3 calls pts i = false) ∧ BP (pts.map pk2) N #[.slice va calls.length vcap, .slice pa pts.length pcap, .map (some q)] w Q2 pts.length wr)
    case atStart => exact ⟨0, by omega, rfl, fun i hi => by omega, HB.out⟩
    case round =>
      obtain ⟨m, hmm, rfl, hP, hB⟩ := hrel
      by_cases hn1 : m = calls.length
      · subst hn1
        have HF : Hid (fstB (P3 calls pts) calls.length = -1 ∧ Below N w wr) := ⟨fstB_none hP, hB.below⟩
        clear hP hB HB HV b0
        go_wp2
        go_ret
        rw [HF.out.1]
        exact ⟨rfl, by rw [HN.out]; exact HF.out.2⟩
      have hn2 : m < calls.length := by omega
      obtain ⟨c, ho⟩ : ∃ c, calls[m]? = some c := ⟨_, List.getElem?_eq_getElem hn2⟩
      have hP3 := P3_at (pts := pts) ho
      have hwp := HV.out.2.2.2 c (List.mem_of_getElem? ho)
      have hlk := look_q hB.map hB.qi hwp
      have hia := fun W => isAns_any c.cl c.no c.op.kind c.op.k c.op.v c.op.o c.fr c.tt c.an.2 c.an.1 W
      obtain ⟨SE, hSE⟩ : ∃ x, lastI (pts.map pk2) c.cl c.no pts.length = x := ⟨_, rfl⟩
      rw [hSE] at hP3
      obtain ⟨g, e', hg', -, y⟩ := (HV.out.1.on hB.below (by rw [HN.out]; exact Nat.le_refl _)).at ho
      subst hg'
      obtain ⟨cl, no, ⟨kind, k, v, od⟩, fr, tt, T, E⟩ := c
      have y0 : wr.cell? ⟨g, e' + m * 10, none⟩ = some (.int .i64 cl) := y 0 _ rfl
      have y1 : wr.cell? ⟨g, e' + m * 10 + 1, none⟩ = some (.int .i64 no) := y 1 _ rfl
      have y2 : wr.cell? ⟨g, e' + m * 10 + 2, none⟩ = some (.int .i64 kind) := y 2 _ rfl
      have y3 : wr.cell? ⟨g, e' + m * 10 + 3, none⟩ = some (.string (bs k)) := y 3 _ rfl
      have y4 : wr.cell? ⟨g, e' + m * 10 + 4, none⟩ = some (.string (bs v)) := y 4 _ rfl
      have y5 : wr.cell? ⟨g, e' + m * 10 + 5, none⟩ = some (.string (bs od)) := y 5 _ rfl
      have y6 : wr.cell? ⟨g, e' + m * 10 + 6, none⟩ = some (.int .i64 fr) := y 6 _ rfl
      have y7 : wr.cell? ⟨g, e' + m * 10 + 7, none⟩ = some (.int .i64 tt) := y 7 _ rfl
      have y8 : wr.cell? ⟨g, e' + m * 10 + 8, none⟩ = some (.int .i64 E) := y 8 _ rfl
      have y9 : wr.cell? ⟨g, e' + m * 10 + 9, none⟩ = some (.string (bs T)) := y 9 _ rfl
      have d0 : (0 : Int) ≤ (m : Int) := by omega
      have d1 : (m : Int) < (calls.length : Int) := by omega
      obtain ⟨D, hD⟩ : ∃ D, wr.heap.size = D := ⟨_, rfl⟩
      have rD := heap_alloc_new wr (.cells #[.int .i64 cl, .int .i64 no, .int .i64 kind, .string (bs k), .string (bs v), .string (bs od), .int .i64 fr, .int .i64 tt, .int .i64 E, .string (bs T)] 51)
      have hbA := (Below.refl wr.heap.size wr).alloc (Nat.le_refl _) (.cells #[.int .i64 cl, .int .i64 no, .int .i64 kind, .string (bs k), .string (bs v), .string (bs od), .int .i64 fr, .int .i64 tt, .int .i64 E, .string (bs T)] 51)
      obtain ⟨WA, hWA⟩ : ∃ W, wr.alloc (.cells #[.int .i64 cl, .int .i64 no, .int .i64 kind, .string (bs k), .string (bs v), .string (bs od), .int .i64 fr, .int .i64 tt, .int .i64 E, .string (bs T)] 51) = W := ⟨_, rfl⟩
      rw [hWA] at rD hbA
      have hBA := hB.on hbA (Nat.le_refl _)
      have hlkA := look_q hBA.map hBA.qi hwp
      have hlkB : (Instr.lookup 99 (.map (some (N + 1))) (.agg #[.int .i64 cl, .int .i64 no]) true).run Tryd.prog WA = .ok (.tuple #[.int .i64 ((SE.getD 0 : Nat) : Int), .bool SE.isSome]) WA := by rw [← hSE]; exact hlkA
      rw [hD] at rD hbA
      have x0 := cellB rD 0 _ rfl
      have x1 := cellB rD 1 _ rfl
      have x2 := cellB rD 2 _ rfl
      have x3 := cellB rD 3 _ rfl
      have x4 := cellB rD 4 _ rfl
      have x5 := cellB rD 5 _ rfl
      have x6 := cellB rD 6 _ rfl
      have x7 := cellB rD 7 _ rfl
      have x8 := cellB rD 8 _ rfl
      have x9 := cellB rD 9 _ rfl
      have HA : Hid (_) := hBA
      have HP : Hid (∀ i, i < m → P3 calls pts i = false) := hP
      have HP3 : Hid (P3 calls pts m = (!SE.isSome && decide (tt ≠ -1))) := hP3
      obtain ⟨AN, hAN⟩ : ∃ x, decide (tt ≠ -1) = x := ⟨_, rfl⟩
      have hia' : ∀ W, Calls Tryd.prog 57 #[.agg #[.int .i64 cl, .int .i64 no, .int .i64 kind, .string (bs k), .string (bs v), .string (bs od), .int .i64 fr, .int .i64 tt, .int .i64 E, .string (bs T)]] W fun e W' => e = .returned (.bool (decide (tt ≠ -1))) ∧ Below W.heap.size W W' := hia
      rw [hAN] at HP3 hia'
      have HIA : Hid (∀ W, Below WA.heap.size WA W → Calls Tryd.prog 57 #[.agg #[.int .i64 cl, .int .i64 no, .int .i64 kind, .string (bs k), .string (bs v), .string (bs od), .int .i64 fr, .int .i64 tt, .int .i64 E, .string (bs T)]] W fun e W' => e = .returned (.bool AN) ∧ Below WA.heap.size WA W') := fun W hW => (hia' W).mono fun e W' hh => ⟨hh.1, hW.trans (hh.2.mono hW.size)⟩
      have HWA : Hid (wr.alloc (.cells #[.int .i64 cl, .int .i64 no, .int .i64 kind, .string (bs k), .string (bs v), .string (bs od), .int .i64 fr, .int .i64 tt, .int .i64 E, .string (bs T)] 51) = WA) := hWA
      have HD : Hid (wr.heap.size = D) := hD
      clear hwp hP3 hP y hB rD hbA hWA hBA hD ho HB hlkA hlk hia hia' hAN hSE b0
      go_upto_region 10 with fail
      rw [HWA.out]
      try rw [HD.out]
      clear y0 y1 y2 y3 y4 y5 y6 y7 y8 y9 HWA HD
      cases SE with
      | some j =>
        have HPN : Hid (∀ i, i < m + 1 → P3 calls pts i = false) := fun i hi => by
          by_cases e : i = m
          · subst e; rw [HP3.out]; rfl
          · exact HP.out i (by omega)
        clear HP HP3 HIA HV
        go_wp2
        go_roundg (calls.length - (m + 1))
        case measure => omega
        case rel => exact ⟨m + 1, by omega, by go_num, HPN.out, HA.out⟩
      | none =>
        cases AN with
        | true =>
          have HF : Hid (fstB (P3 calls pts) calls.length = m) := fstB_at hn2 (by rw [HP3.out]; rfl) HP.out
          clear HP HP3 HV
          go_wp2_with (go_at_call 57; refine (HIA.out _ (Below.refl _ _)).mono ?_; rintro e w4 ⟨rfl, hB4⟩)
          go_ret
          rw [HF.out]
          exact ⟨rfl, by rw [HN.out]; exact (HA.out.on hB4 (Nat.le_refl _)).below⟩
        | false =>
          have HPN : Hid (∀ i, i < m + 1 → P3 calls pts i = false) := fun i hi => by
            by_cases e : i = m
            · subst e; rw [HP3.out]; rfl
            · exact HP.out i (by omega)
          clear HP HP3 HV
          go_wp2_with (go_at_call 57; refine (HIA.out _ (Below.refl _ _)).mono ?_; rintro e w4 ⟨rfl, hB4⟩)
          go_roundg (calls.length - (m + 1))
          case measure => omega
          case rel => exact ⟨m + 1, by omega, by go_num, HPN.out, HA.out.on hB4 (Nat.le_refl _)⟩
end
section
open Go.RowKit Go.Maps
attribute [local go_sem ↓] Go.wp_at_zero Go.wp_at_succ

theorem bs_tl (t : List UInt8) : (bs t).toList = t := by rw [ByteArray.toList_eq]; rfl
set_option maxRecDepth 20000 in
theorem neq48 (E F : Int) (t u : List UInt8) (w : World) : (binOp .neq 49 (.agg #[.int .i64 E, .string (bs t)]) (.agg #[.int .i64 F, .string (bs u)])).run Tryd.prog w = .ok (.bool (decide ((t, E) ≠ (u, F)))) w := by
  go_simp
  rw [bs_tl, bs_tl]
  by_cases h1 : E = F
  · by_cases h2 : t = u
    · simp [h1, h2]
    · simp [h1, h2]
  · simp [h1]
/-- The call of a point that has one. -/
def callAt (calls : List Cl) (p : Pt) : Cl := (callOf calls p).getD clZ
def opsOf (calls : List Cl) (pts : List Pt) : List Opr := pts.map fun p => (callAt calls p).op
def P4 (calls : List Cl) (pts : List Pt) (i : Nat) : Bool := match pts[i]? with
  | some p => decide (p.an ≠ tell (fin (fun _ => []) ((opsOf calls pts).take i)) (callAt calls p).op) || (decide ((callAt calls p).tt ≠ -1) && decide (p.an ≠ (callAt calls p).an))
  | none => false
theorem P4_at {calls : List Cl} {pts : List Pt} {i : Nat} {p : Pt} (h : pts[i]? = some p) : P4 calls pts i = (decide (p.an ≠ tell (fin (fun _ => []) ((opsOf calls pts).take i)) (callAt calls p).op) || (decide ((callAt calls p).tt ≠ -1) && decide (p.an ≠ (callAt calls p).an))) := by
  rw [P4, h]
/-- In the midst of it: the history's box, the tables, their box. -/
structure BA (N b X : Nat) (hist : Array Value) (w : World) (S : Ms) (V : Nat → Value) (W : World) : Prop where
  box : W.heap[N]? = some (.cells hist 101)
  xb : W.heap[X]? = some (.cells (tcs b) 129)
  m4 : M4 (N + 1) W b S V
  xo : ∀ j, j < 4 → X ≠ b + j
  below : Below N w W
theorem BA.on {N b X : Nat} {hist : Array Value} {w : World} {S : Ms} {V : Nat → Value} {W W' : World} {m : Nat} (h : BA N b X hist w S V W) (hb : Below m W W') (hm : W.heap.size ≤ m) : BA N b X hist w S V W' := by
  have hN : N < W.heap.size := (Array.getElem?_eq_some_iff.1 h.box).1
  have hX : X < W.heap.size := (Array.getElem?_eq_some_iff.1 h.xb).1
  exact ⟨(hb.block N (by omega)).trans h.box, (hb.block X (by omega)).trans h.xb, h.m4.on (hb.mono hm), h.xo, h.below.trans (hb.mono (by omega))⟩
theorem BA.did {N b X : Nat} {hist : Array Value} {w : World} {S S' : Ms} {V V' : Nat → Value} {W W' : World} (h : BA N b X hist w S V W) (h4 : M4 (N + 1) W' b S' V') (hm : Mv4 b W W') : BA N b X hist w S' V' W' := by
  have hN : N < W.heap.size := (Array.getElem?_eq_some_iff.1 h.box).1
  have hX : X < W.heap.size := (Array.getElem?_eq_some_iff.1 h.xb).1
  have hup := h.m4.up
  exact ⟨(hm.block N hN (fun j _ => by omega)).trans h.box, (hm.block X hX h.xo).trans h.xb, h4, h.xo, h.below.trans (hm.below (by omega) (by omega))⟩
set_option maxRecDepth 20000 in
set_option maxHeartbeats 1500000 in
theorem brokenAnswer_any (calls : List Cl) (pts : List Pt) (vc vp : Value) (q : Nat) (Q : List (Int × Int × Int)) (w : World) (hc : SlF ccs 10 w vc calls) (hp : SlF pks 5 w vp pts) (hM : MapAt w 113 (some q) (Q.map sent)) (hQ : QI (calls.map ck) calls.length Q) (hl : pts.length ≤ 100000) (hw : ∀ p ∈ pts, wfK (pk2 p)) (hk : ∀ p ∈ pts, (callAt calls p).op.k.length ≤ 140737488351232) (he : EnvK w) :
    Calls Tryd.prog 47 #[.agg #[vc, vp, .map (some q)]] w fun e W' => e = .returned (.int .i64 (fstB (P4 calls pts) pts.length)) ∧ Below w.heap.size w W' := by
  obtain ⟨va, vcap, rfl⟩ := hc.slice
  obtain ⟨pa, pcap, rfl⟩ := hp.slice
  have HV : Hid (SlF ccs 10 w (.slice va calls.length vcap) calls ∧ SlF pks 5 w (.slice pa pts.length pcap) pts ∧ MapAt w 113 (some q) (Q.map sent) ∧ QI (calls.map ck) calls.length Q ∧ (∀ p ∈ pts, wfK (pk2 p)) ∧ (∀ p ∈ pts, (callAt calls p).op.k.length ≤ 140737488351232) ∧ EnvK w) := ⟨hc, hp, hM, hQ, hw, hk, he⟩
  obtain ⟨N, hN⟩ : ∃ N, w.heap.size = N := ⟨_, rfl⟩
  obtain ⟨W1, hW1⟩ : ∃ W, w.alloc (.cells #[.slice va calls.length vcap, .slice pa pts.length pcap, .map (some q)] 101) = W := ⟨_, rfl⟩
  have h1 : W1.heap[N]? = some (.cells #[.slice va calls.length vcap, .slice pa pts.length pcap, .map (some q)] 101) := by rw [← hN, ← hW1]; exact heap_alloc_new _ _
  have hb1 : Below N w W1 := by rw [← hN, ← hW1]; exact (Below.refl _ w).alloc (Nat.le_refl _) _
  have hz1 : W1.heap.size = N + 1 := by rw [← hN, ← hW1]; simp
  have hT : Calls Tryd.prog 58 #[] W1 fun e W' => ∃ b, e = .returned (.agg #[.pointer (some ⟨b, 0, none⟩), .pointer (some ⟨b + 1, 0, none⟩), .pointer (some ⟨b + 2, 0, none⟩), .pointer (some ⟨b + 3, 0, none⟩)]) ∧ M4 W1.heap.size W' b (fun _ => []) (fun _ => .slice none 0 0) ∧ Below W1.heap.size W1 W' := newTables_any W1
  rw [hz1] at hT
  have H1 : Hid (W1.heap[N]? = some (.cells #[.slice va calls.length vcap, .slice pa pts.length pcap, .map (some q)] 101) ∧ Below N w W1 ∧ W1.heap.size = N + 1) := ⟨h1, hb1, hz1⟩
  have HN : Hid (w.heap.size = N) := hN
  have HW : Hid (w.alloc (.cells #[.slice va calls.length vcap, .slice pa pts.length pcap, .map (some q)] 101) = W1) := hW1
  clear hc hp hM hQ hw hk he hN hW1 h1 hb1 hz1
  go_enter Tryd.func47, Tryd.ntmps47
  go_upto_region 1 with fail
  rw [HW.out, HN.out]
  clear HW
  go_upto_region 2 with (go_at_call 58; refine hT.mono ?_; clear hT; rintro e w1 ⟨b, rfl, hM, hB⟩)
  obtain ⟨X, hX⟩ : ∃ X, w1.heap.size = X := ⟨_, rfl⟩
  have rX := heap_alloc_new w1 (.cells (tcs b) 129)
  have hbX := (Below.refl _ w1).alloc (Nat.le_refl _) (.cells (tcs b) 129)
  obtain ⟨W2, hW2⟩ : ∃ W, w1.alloc (.cells (tcs b) 129) = W := ⟨_, rfl⟩
  have hW2' : w1.alloc (.cells #[.pointer (some ⟨b, 0, none⟩), .pointer (some ⟨b + 1, 0, none⟩), .pointer (some ⟨b + 2, 0, none⟩), .pointer (some ⟨b + 3, 0, none⟩)] 129) = W2 := hW2
  have hs1 : N + 1 ≤ w1.heap.size := by have := hB.size; rw [H1.out.2.2] at this; exact this
  rw [hX] at rX ⊢
  rw [hW2] at rX hbX
  have hR0 : BA N b X #[.slice va calls.length vcap, .slice pa pts.length pcap, .map (some q)] w (fun _ => []) (fun _ => .slice none 0 0) W2 :=
    ⟨(hbX.block N (by omega)).trans ((hB.block N (by omega)).trans H1.out.1), rX, hM.on hbX, fun j hj => by have := (hM.tab j hj).lt; omega, H1.out.2.1.trans ((hB.mono (by omega)).trans (hbX.mono (by omega)))⟩
  have HR0 : Hid (_) := hR0
  have c1 := cellB hR0.box 1 (.slice pa pts.length pcap) rfl
  try rw [hW2']
  clear hM hB hbX rX hW2 hW2' hX hR0 hs1 H1
  go_wp2_with fail
  go_loopg [12] pts.length (fun gk i wr => ∃ (n : Nat) (V : Nat → Value), n + gk = pts.length ∧ i = .int .i64 n ∧ (∀ i, i < n → P4 calls pts i = false) ∧ BA N b X #[.slice va calls.length vcap, .slice pa pts.length pcap, .map (some q)] w (fin (fun _ => []) ((opsOf calls pts).take n)) V wr)
  case atStart => exact ⟨0, _, by omega, rfl, fun i hi => by omega, HR0.out⟩
  case round =>
    obtain ⟨n, V, hnn, rfl, hP, hB⟩ := hrel
    by_cases hn1 : n = pts.length
    · subst hn1
      have HF : Hid (fstB (P4 calls pts) pts.length = -1 ∧ Below N w wr) := ⟨fstB_none hP, hB.below⟩
      clear hP hB HR0 HV c1
      go_wp2
      go_ret
      rw [HF.out.1]
      exact ⟨rfl, by rw [HN.out]; exact HF.out.2⟩
    have hn2 : n < pts.length := by omega
    obtain ⟨p, ho⟩ : ∃ p, pts[n]? = some p := ⟨_, List.getElem?_eq_getElem hn2⟩
    have hP4 := P4_at (calls := calls) ho
    have hmem := List.mem_of_getElem? ho
    have hko := HV.out.2.2.2.2.2.1 p hmem
    have hcf := fun W (h : Below N w W) => callOf_any calls (.slice va calls.length vcap) pa pts.length pcap q Q p W (HV.out.1.on h (by rw [HN.out]; exact Nat.le_refl _)) (HV.out.2.2.1.keep fun b e => h.block b (by have := HV.out.2.2.1.lt e; have := HN.out; omega)) HV.out.2.2.2.1 (HV.out.2.2.2.2.1 p hmem)
    have hops : (opsOf calls pts)[n]? = some (callAt calls p).op := by rw [opsOf, List.getElem?_map, ho]; rfl
    obtain ⟨ok, hok⟩ : ∃ ok, (callOf calls p).isSome = ok := ⟨_, rfl⟩
    rw [hok] at hcf
    have hcf' : ∀ W (_ : Below N w W), Calls Tryd.prog 54 #[.agg #[.slice va calls.length vcap, .slice pa pts.length pcap, .map (some q)], ptV p] W fun e W' => e = .returned (.tuple #[clV (callAt calls p), .bool ok]) ∧ Below W.heap.size W W' := hcf
    obtain ⟨c, hce⟩ : ∃ c, callAt calls p = c := ⟨_, rfl⟩
    obtain ⟨S, hS⟩ : ∃ S, fin (fun _ => []) ((opsOf calls pts).take n) = S := ⟨_, rfl⟩
    have hnx : fin (fun _ => []) ((opsOf calls pts).take (n + 1)) = next S c.op := by rw [take_snoc hops, fin_snoc, hS, hce]
    rw [hce] at hko hcf' hP4
    rw [hS] at hB hP4
    have hia := fun W => isAns_any c.cl c.no c.op.kind c.op.k c.op.v c.op.o c.fr c.tt c.an.2 c.an.1 W
    obtain ⟨A, hA⟩ : ∃ A, tell S c.op = A := ⟨_, rfl⟩
    rw [hA] at hP4
    have hdo := fun W (h4 : M4 (N + 1) W b S V) (hE : EnvK W) => do_any h4 c.op hko hE
    rw [hA] at hdo
    obtain ⟨g, e', hg', -, y⟩ := (HV.out.2.1.on hB.below (by rw [HN.out]; exact Nat.le_refl _)).at ho
    subst hg'
    obtain ⟨tm, pcl, pno, pT, pE⟩ := p
    obtain ⟨cl, no, ⟨kind, k, v, od⟩, fr, tt, T, E⟩ := c
    obtain ⟨aT, aE⟩ := A
    have y0 : wr.cell? ⟨g, e' + n * 5, none⟩ = some (.int .i64 tm) := y 0 _ rfl
    have y1 : wr.cell? ⟨g, e' + n * 5 + 1, none⟩ = some (.int .i64 pcl) := y 1 _ rfl
    have y2 : wr.cell? ⟨g, e' + n * 5 + 2, none⟩ = some (.int .i64 pno) := y 2 _ rfl
    have y3 : wr.cell? ⟨g, e' + n * 5 + 3, none⟩ = some (.int .i64 pE) := y 3 _ rfl
    have y4 : wr.cell? ⟨g, e' + n * 5 + 4, none⟩ = some (.string (bs pT)) := y 4 _ rfl
    have d0 : (0 : Int) ≤ (n : Int) := by omega
    have d1 : (n : Int) < (pts.length : Int) := by omega
    obtain ⟨D, hD⟩ : ∃ D, wr.heap.size = D := ⟨_, rfl⟩
    have HP : Hid (∀ i, i < n → P4 calls pts i = false) := hP
    have HP4 : Hid (P4 calls pts n = (decide ((pT, pE) ≠ (aT, aE)) || (decide (tt ≠ -1) && decide ((pT, pE) ≠ (T, E))))) := hP4
    have rD := heap_alloc_new wr (.cells #[.int .i64 tm, .int .i64 pcl, .int .i64 pno, .int .i64 pE, .string (bs pT)] 56)
    have hbA := (Below.refl wr.heap.size wr).alloc (Nat.le_refl _) (.cells #[.int .i64 tm, .int .i64 pcl, .int .i64 pno, .int .i64 pE, .string (bs pT)] 56)
    obtain ⟨WA, hWA⟩ : ∃ W, wr.alloc (.cells #[.int .i64 tm, .int .i64 pcl, .int .i64 pno, .int .i64 pE, .string (bs pT)] 56) = W := ⟨_, rfl⟩
    rw [hWA] at rD hbA
    have hBA := hB.on hbA (Nat.le_refl _)
    have hzA : WA.heap.size = D + 1 := by rw [← hWA, ← hD]; simp
    have HCF : Hid (∀ W, Below (D + 1) WA W → Calls Tryd.prog 54 #[.agg #[.slice va calls.length vcap, .slice (some ⟨g, e', none⟩) pts.length pcap, .map (some q)], .agg #[.int .i64 tm, .int .i64 pcl, .int .i64 pno, .int .i64 pE, .string (bs pT)]] W fun e W' => e = .returned (.tuple #[.agg #[.int .i64 cl, .int .i64 no, .int .i64 kind, .string (bs k), .string (bs v), .string (bs od), .int .i64 fr, .int .i64 tt, .int .i64 E, .string (bs T)], .bool ok]) ∧ Below (D + 1) WA W') := fun W hW => (hcf' W (hBA.below.trans (hW.mono (by have := (Array.getElem?_eq_some_iff.1 hBA.box).1; omega)))).mono fun e W' hh => ⟨hh.1, hW.trans (hh.2.mono (by have := hW.size; omega))⟩
    have hEA : ∀ W, Below N w W → EnvK W := fun W hW => HV.out.2.2.2.2.2.2.next (by rw [HN.out]; exact hW)
    rw [hD] at rD hbA
    have x0 := cellB rD 0 _ rfl
    have x1 := cellB rD 1 _ rfl
    have x2 := cellB rD 2 _ rfl
    have x3 := cellB rD 3 _ rfl
    have x4 := cellB rD 4 _ rfl
    have b0 := cellB hBA.box 0 _ rfl
    have b1 := cellB hBA.box 1 _ rfl
    have b2 := cellB hBA.box 2 _ rfl
    have HAll : Hid (WA.heap[D]? = some (.cells #[.int .i64 tm, .int .i64 pcl, .int .i64 pno, .int .i64 pE, .string (bs pT)] 56) ∧ WA.heap.size = D + 1 ∧ BA N b X #[.slice va calls.length vcap, .slice (some ⟨g, e', none⟩) pts.length pcap, .map (some q)] w S V WA) := ⟨rD, hzA, hBA⟩
    have HWA : Hid (wr.alloc (.cells #[.int .i64 tm, .int .i64 pcl, .int .i64 pno, .int .i64 pE, .string (bs pT)] 56) = WA) := hWA
    have HD : Hid (wr.heap.size = D) := hD
    have HE : Hid (∀ W, Below N w W → EnvK W) := hEA
    have HNX : Hid (fin (fun _ => []) ((opsOf calls pts).take (n + 1)) = next S ⟨kind, k, v, od⟩) := hnx
    have HDQ : Hid (∀ W, M4 (N + 1) W b S V → EnvK W → Calls Tryd.prog 59 #[.agg #[.pointer (some ⟨b, 0, none⟩), .pointer (some ⟨b + 1, 0, none⟩), .pointer (some ⟨b + 2, 0, none⟩), .pointer (some ⟨b + 3, 0, none⟩)], .agg #[.int .i64 kind, .string (bs k), .string (bs v), .string (bs od)]] W fun e W' => e = .returned (.agg #[.int .i64 aE, .string (bs aT)]) ∧ ∃ V', M4 (N + 1) W' b (next S ⟨kind, k, v, od⟩) V' ∧ Mv4 b W W' ∧ ∀ i, i < 4 → ∀ q, (V' i).ownBlock = some q → (V i).ownBlock = some q ∨ W.heap.size ≤ q) := hdo
    have HIQ : Hid (∀ W, Calls Tryd.prog 57 #[.agg #[.int .i64 cl, .int .i64 no, .int .i64 kind, .string (bs k), .string (bs v), .string (bs od), .int .i64 fr, .int .i64 tt, .int .i64 E, .string (bs T)]] W fun e W' => e = .returned (.bool (decide (tt ≠ -1))) ∧ Below W.heap.size W W') := hia
    clear hP hP4 hmem hko hcf hcf' hops hok hce hS hnx hia hA hdo y hB rD hbA hWA hBA hzA hD ho c1 HR0 hEA HV
    go_upto_region 5 with fail
    rw [HWA.out]
    try rw [HD.out]
    clear y0 y1 y2 y3 y4 HWA HD
    go_upto_region 6 with (go_at_call 54; refine (HCF.out _ (by first | exact Below.refl _ _ | exact below_drew (Below.refl _ _) | exact below_drewN (Below.refl _ _) _)).mono ?_; rintro e w1 ⟨rfl, hB1⟩)
    obtain ⟨F, hF⟩ : ∃ F, w1.heap.size = F := ⟨_, rfl⟩
    have rF := heap_alloc_new w1 (.cells #[.int .i64 cl, .int .i64 no, .int .i64 kind, .string (bs k), .string (bs v), .string (bs od), .int .i64 fr, .int .i64 tt, .int .i64 E, .string (bs T)] 51)
    have hbF := (Below.refl w1.heap.size w1).alloc (Nat.le_refl _) (.cells #[.int .i64 cl, .int .i64 no, .int .i64 kind, .string (bs k), .string (bs v), .string (bs od), .int .i64 fr, .int .i64 tt, .int .i64 E, .string (bs T)] 51)
    obtain ⟨WB, hWB⟩ : ∃ W, w1.alloc (.cells #[.int .i64 cl, .int .i64 no, .int .i64 kind, .string (bs k), .string (bs v), .string (bs od), .int .i64 fr, .int .i64 tt, .int .i64 E, .string (bs T)] 51) = W := ⟨_, rfl⟩
    have hzB : WB.heap.size = F + 1 := by rw [← hWB, ← hF]; simp
    rw [hWB] at rF hbF ⊢
    rw [hF] at rF hbF
    try rw [hF]
    have hBB : Below (D + 1) WA WB := hB1.trans (hbF.mono (by have := hB1.size; rw [HAll.out.2.1] at this; omega))
    have hDF : D + 1 ≤ F := by have := hB1.size; rw [HAll.out.2.1] at this; omega
    have hBAB : BA N b X #[.slice va calls.length vcap, .slice (some ⟨g, e', none⟩) pts.length pcap, .map (some q)] w S V WB := HAll.out.2.2.on hBB (by rw [HAll.out.2.1]; exact Nat.le_refl _)
    have gD := (hBB.block D (by omega)).trans HAll.out.1
    have hX1 : ∀ j, j < 4 → D ≠ b + j ∧ F ≠ b + j := fun j hj => by
      have h1 := (HAll.out.2.2.m4.tab j hj).lt
      rw [HAll.out.2.1] at h1
      have h2 : b + j ≠ D := fun e => by
        obtain ⟨t, ht⟩ := (HAll.out.2.2.m4.tab j hj).blk
        rw [e, HAll.out.1] at ht
        injection ht with ht
        injection ht with ht
        have := congrArg Array.size ht
        simp at this
      omega
    have hSS : ∀ W : World, W.heap[D]? = WB.heap[D]? → W.heap[F]? = WB.heap[F]? → BA N b X #[.slice va calls.length vcap, .slice (some ⟨g, e', none⟩) pts.length pcap, .map (some q)] w S V W ∨ (∃ V', BA N b X #[.slice va calls.length vcap, .slice (some ⟨g, e', none⟩) pts.length pcap, .map (some q)] w (next S ⟨kind, k, v, od⟩) V' W) → W.cell? ⟨D, 0, none⟩ = some (.int .i64 tm) ∧ W.cell? ⟨D, 1, none⟩ = some (.int .i64 pcl) ∧ W.cell? ⟨D, 2, none⟩ = some (.int .i64 pno) ∧ W.cell? ⟨D, 3, none⟩ = some (.int .i64 pE) ∧ W.cell? ⟨D, 4, none⟩ = some (.string (bs pT)) ∧ W.cell? ⟨X, 0, none⟩ = some (.pointer (some ⟨b, 0, none⟩)) ∧ W.cell? ⟨X, 1, none⟩ = some (.pointer (some ⟨b + 1, 0, none⟩)) ∧ W.cell? ⟨X, 2, none⟩ = some (.pointer (some ⟨b + 2, 0, none⟩)) ∧ W.cell? ⟨X, 3, none⟩ = some (.pointer (some ⟨b + 3, 0, none⟩)) ∧ W.cell? ⟨F, 0, none⟩ = some (.int .i64 cl) ∧ W.cell? ⟨F, 1, none⟩ = some (.int .i64 no) ∧ W.cell? ⟨F, 2, none⟩ = some (.int .i64 kind) ∧ W.cell? ⟨F, 3, none⟩ = some (.string (bs k)) ∧ W.cell? ⟨F, 4, none⟩ = some (.string (bs v)) ∧ W.cell? ⟨F, 5, none⟩ = some (.string (bs od)) ∧ W.cell? ⟨F, 6, none⟩ = some (.int .i64 fr) ∧ W.cell? ⟨F, 7, none⟩ = some (.int .i64 tt) ∧ W.cell? ⟨F, 8, none⟩ = some (.int .i64 E) ∧ W.cell? ⟨F, 9, none⟩ = some (.string (bs T)) := fun W g0 g1 hba => by
      have gD' := g0.trans gD
      have gF' := g1.trans rF
      have gX : W.heap[X]? = some (.cells #[.pointer (some ⟨b, 0, none⟩), .pointer (some ⟨b + 1, 0, none⟩), .pointer (some ⟨b + 2, 0, none⟩), .pointer (some ⟨b + 3, 0, none⟩)] 129) := by
        rcases hba with h | ⟨V', h⟩
        · exact h.xb
        · exact h.xb
      exact ⟨cellB gD' 0 _ rfl, cellB gD' 1 _ rfl, cellB gD' 2 _ rfl, cellB gD' 3 _ rfl, cellB gD' 4 _ rfl, cellB gX 0 _ rfl, cellB gX 1 _ rfl, cellB gX 2 _ rfl, cellB gX 3 _ rfl, cellB gF' 0 _ rfl, cellB gF' 1 _ rfl, cellB gF' 2 _ rfl, cellB gF' 3 _ rfl, cellB gF' 4 _ rfl, cellB gF' 5 _ rfl, cellB gF' 6 _ rfl, cellB gF' 7 _ rfl, cellB gF' 8 _ rfl, cellB gF' 9 _ rfl⟩
    have HS0 : Hid (WB.drew.cell? ⟨D, 0, none⟩ = some (.int .i64 tm) ∧ WB.drew.cell? ⟨D, 1, none⟩ = some (.int .i64 pcl) ∧ WB.drew.cell? ⟨D, 2, none⟩ = some (.int .i64 pno) ∧ WB.drew.cell? ⟨D, 3, none⟩ = some (.int .i64 pE) ∧ WB.drew.cell? ⟨D, 4, none⟩ = some (.string (bs pT)) ∧ WB.drew.cell? ⟨X, 0, none⟩ = some (.pointer (some ⟨b, 0, none⟩)) ∧ WB.drew.cell? ⟨X, 1, none⟩ = some (.pointer (some ⟨b + 1, 0, none⟩)) ∧ WB.drew.cell? ⟨X, 2, none⟩ = some (.pointer (some ⟨b + 2, 0, none⟩)) ∧ WB.drew.cell? ⟨X, 3, none⟩ = some (.pointer (some ⟨b + 3, 0, none⟩)) ∧ WB.drew.cell? ⟨F, 0, none⟩ = some (.int .i64 cl) ∧ WB.drew.cell? ⟨F, 1, none⟩ = some (.int .i64 no) ∧ WB.drew.cell? ⟨F, 2, none⟩ = some (.int .i64 kind) ∧ WB.drew.cell? ⟨F, 3, none⟩ = some (.string (bs k)) ∧ WB.drew.cell? ⟨F, 4, none⟩ = some (.string (bs v)) ∧ WB.drew.cell? ⟨F, 5, none⟩ = some (.string (bs od)) ∧ WB.drew.cell? ⟨F, 6, none⟩ = some (.int .i64 fr) ∧ WB.drew.cell? ⟨F, 7, none⟩ = some (.int .i64 tt) ∧ WB.drew.cell? ⟨F, 8, none⟩ = some (.int .i64 E) ∧ WB.drew.cell? ⟨F, 9, none⟩ = some (.string (bs T))) := hSS WB.drew rfl rfl (.inl (hBAB.on (m := WB.heap.size) (below_drew (Below.refl _ _)) (Nat.le_refl _)))
    have HDO : Hid (∀ W, Below (F + 1) WB W → Calls Tryd.prog 59 #[.agg #[.pointer (some ⟨b, 0, none⟩), .pointer (some ⟨b + 1, 0, none⟩), .pointer (some ⟨b + 2, 0, none⟩), .pointer (some ⟨b + 3, 0, none⟩)], .agg #[.int .i64 kind, .string (bs k), .string (bs v), .string (bs od)]] W fun e W' => e = .returned (.agg #[.int .i64 aE, .string (bs aT)]) ∧ (W'.cell? ⟨D, 0, none⟩ = some (.int .i64 tm) ∧ W'.cell? ⟨D, 1, none⟩ = some (.int .i64 pcl) ∧ W'.cell? ⟨D, 2, none⟩ = some (.int .i64 pno) ∧ W'.cell? ⟨D, 3, none⟩ = some (.int .i64 pE) ∧ W'.cell? ⟨D, 4, none⟩ = some (.string (bs pT)) ∧ W'.cell? ⟨X, 0, none⟩ = some (.pointer (some ⟨b, 0, none⟩)) ∧ W'.cell? ⟨X, 1, none⟩ = some (.pointer (some ⟨b + 1, 0, none⟩)) ∧ W'.cell? ⟨X, 2, none⟩ = some (.pointer (some ⟨b + 2, 0, none⟩)) ∧ W'.cell? ⟨X, 3, none⟩ = some (.pointer (some ⟨b + 3, 0, none⟩)) ∧ W'.cell? ⟨F, 0, none⟩ = some (.int .i64 cl) ∧ W'.cell? ⟨F, 1, none⟩ = some (.int .i64 no) ∧ W'.cell? ⟨F, 2, none⟩ = some (.int .i64 kind) ∧ W'.cell? ⟨F, 3, none⟩ = some (.string (bs k)) ∧ W'.cell? ⟨F, 4, none⟩ = some (.string (bs v)) ∧ W'.cell? ⟨F, 5, none⟩ = some (.string (bs od)) ∧ W'.cell? ⟨F, 6, none⟩ = some (.int .i64 fr) ∧ W'.cell? ⟨F, 7, none⟩ = some (.int .i64 tt) ∧ W'.cell? ⟨F, 8, none⟩ = some (.int .i64 E) ∧ W'.cell? ⟨F, 9, none⟩ = some (.string (bs T))) ∧ ∃ V', BA N b X #[.slice va calls.length vcap, .slice (some ⟨g, e', none⟩) pts.length pcap, .map (some q)] w (next S ⟨kind, k, v, od⟩) V' W' ∧ W'.heap[D]? = WB.heap[D]? ∧ W'.heap[F]? = WB.heap[F]?) := fun W hW => by
      have hBW := hBAB.on hW (by rw [hzB]; exact Nat.le_refl _)
      refine (HDQ.out W hBW.m4 (HE.out W hBW.below)).mono fun e W' hh => ?_
      obtain ⟨h1, V', h2, h3, -⟩ := hh
      have hd := hBW.did h2 h3
      have hsz := hW.size
      have gg0 := (h3.block D (by omega) (fun j hj => (hX1 j hj).1)).trans (hW.block D (by omega))
      have gg1 := (h3.block F (by omega) (fun j hj => (hX1 j hj).2)).trans (hW.block F (by omega))
      exact ⟨h1, hSS W' gg0 gg1 (.inr ⟨V', hd⟩), V', hd, gg0, gg1⟩
    have HIA : Hid (∀ W, (∃ V', BA N b X #[.slice va calls.length vcap, .slice (some ⟨g, e', none⟩) pts.length pcap, .map (some q)] w (next S ⟨kind, k, v, od⟩) V' W ∧ W.heap[D]? = WB.heap[D]? ∧ W.heap[F]? = WB.heap[F]?) → Calls Tryd.prog 57 #[.agg #[.int .i64 cl, .int .i64 no, .int .i64 kind, .string (bs k), .string (bs v), .string (bs od), .int .i64 fr, .int .i64 tt, .int .i64 E, .string (bs T)]] W fun e W' => e = .returned (.bool (decide (tt ≠ -1))) ∧ (W'.cell? ⟨D, 0, none⟩ = some (.int .i64 tm) ∧ W'.cell? ⟨D, 1, none⟩ = some (.int .i64 pcl) ∧ W'.cell? ⟨D, 2, none⟩ = some (.int .i64 pno) ∧ W'.cell? ⟨D, 3, none⟩ = some (.int .i64 pE) ∧ W'.cell? ⟨D, 4, none⟩ = some (.string (bs pT)) ∧ W'.cell? ⟨X, 0, none⟩ = some (.pointer (some ⟨b, 0, none⟩)) ∧ W'.cell? ⟨X, 1, none⟩ = some (.pointer (some ⟨b + 1, 0, none⟩)) ∧ W'.cell? ⟨X, 2, none⟩ = some (.pointer (some ⟨b + 2, 0, none⟩)) ∧ W'.cell? ⟨X, 3, none⟩ = some (.pointer (some ⟨b + 3, 0, none⟩)) ∧ W'.cell? ⟨F, 0, none⟩ = some (.int .i64 cl) ∧ W'.cell? ⟨F, 1, none⟩ = some (.int .i64 no) ∧ W'.cell? ⟨F, 2, none⟩ = some (.int .i64 kind) ∧ W'.cell? ⟨F, 3, none⟩ = some (.string (bs k)) ∧ W'.cell? ⟨F, 4, none⟩ = some (.string (bs v)) ∧ W'.cell? ⟨F, 5, none⟩ = some (.string (bs od)) ∧ W'.cell? ⟨F, 6, none⟩ = some (.int .i64 fr) ∧ W'.cell? ⟨F, 7, none⟩ = some (.int .i64 tt) ∧ W'.cell? ⟨F, 8, none⟩ = some (.int .i64 E) ∧ W'.cell? ⟨F, 9, none⟩ = some (.string (bs T))) ∧ ∃ V', BA N b X #[.slice va calls.length vcap, .slice (some ⟨g, e', none⟩) pts.length pcap, .map (some q)] w (next S ⟨kind, k, v, od⟩) V' W') := fun W hW => (HIQ.out W).mono fun e W' hh => by
      obtain ⟨V', hb, g0, g1⟩ := hW
      have hd := hb.on hh.2 (Nat.le_refl _)
      have lD : D < W.heap.size := (Array.getElem?_eq_some_iff.1 (g0.trans gD)).1
      have lF : F < W.heap.size := (Array.getElem?_eq_some_iff.1 (g1.trans rF)).1
      exact ⟨hh.1, hSS W' ((hh.2.block D lD).trans g0) ((hh.2.block F lF).trans g1) (.inr ⟨V', hd⟩), V', hd⟩
    clear rF hbF hWB hzB hF hBB hDF hB1 HCF HAll b0 b1 b2 x0 x1 x2 x3 x4 hBAB gD hX1 hSS HDQ HE HIQ
    have HF' : Hid (P4 calls pts n = true → fstB (P4 calls pts) pts.length = n) := fun h => fstB_at hn2 h HP.out
    have HPN : Hid (P4 calls pts n = false → ∀ i, i < n + 1 → P4 calls pts i = false) := fun h i hi => by
      by_cases e : i = n
      · subst e; exact h
      · exact HP.out i (by omega)
    have hq1 := neq48 pE aE pT aT
    have hq2 := neq48 pE E pT T
    obtain ⟨B1, hB1⟩ : ∃ x, decide ((pT, pE) ≠ (aT, aE)) = x := ⟨_, rfl⟩
    obtain ⟨B2, hB2⟩ : ∃ x, decide ((pT, pE) ≠ (T, E)) = x := ⟨_, rfl⟩
    obtain ⟨B3, hB3⟩ : ∃ x, decide (tt ≠ -1) = x := ⟨_, rfl⟩
    rw [hB1] at hq1 HP4
    rw [hB2] at hq2 HP4
    rw [hB3] at HIA HP4
    clear hB1 hB2 hB3 HP
    refine region_Z 99 (fun W => W.cell? ⟨D, 0, none⟩ = some (.int .i64 tm) ∧ W.cell? ⟨D, 1, none⟩ = some (.int .i64 pcl) ∧ W.cell? ⟨D, 2, none⟩ = some (.int .i64 pno) ∧ W.cell? ⟨D, 3, none⟩ = some (.int .i64 pE) ∧ W.cell? ⟨D, 4, none⟩ = some (.string (bs pT)) ∧ W.cell? ⟨X, 0, none⟩ = some (.pointer (some ⟨b, 0, none⟩)) ∧ W.cell? ⟨X, 1, none⟩ = some (.pointer (some ⟨b + 1, 0, none⟩)) ∧ W.cell? ⟨X, 2, none⟩ = some (.pointer (some ⟨b + 2, 0, none⟩)) ∧ W.cell? ⟨X, 3, none⟩ = some (.pointer (some ⟨b + 3, 0, none⟩)) ∧ W.cell? ⟨F, 0, none⟩ = some (.int .i64 cl) ∧ W.cell? ⟨F, 1, none⟩ = some (.int .i64 no) ∧ W.cell? ⟨F, 2, none⟩ = some (.int .i64 kind) ∧ W.cell? ⟨F, 3, none⟩ = some (.string (bs k)) ∧ W.cell? ⟨F, 4, none⟩ = some (.string (bs v)) ∧ W.cell? ⟨F, 5, none⟩ = some (.string (bs od)) ∧ W.cell? ⟨F, 6, none⟩ = some (.int .i64 fr) ∧ W.cell? ⟨F, 7, none⟩ = some (.int .i64 tt) ∧ W.cell? ⟨F, 8, none⟩ = some (.int .i64 E) ∧ W.cell? ⟨F, 9, none⟩ = some (.string (bs T))) (by kernel_rfl) ?_
    have hS0 := HS0.out
    refine Y_take (i := 0) (v := ?_) rfl (by kernel_rfl) (by kernel_rfl) (by kernel_rfl) (by kernel_rfl) (fun _ _ _ h => h) (by rfl) hS0 ?_ ?_
    rotate_left
    · (intro w' hSw; obtain ⟨p0, p1, p2, p3, p4, p5, p6, p7, p8, p9, p10, p11, p12, p13, p14, p15, p16, p17, p18⟩ := hSw; go_simp; (try with_reducible rfl))
    simp only [Act.put, List.setIfInBounds_toArray, List.getElem_toArray, List.getElem_cons_zero, List.set_cons_succ, List.set_cons_zero]
    refine Y_take (i := 1) (v := ?_) rfl (by kernel_rfl) (by kernel_rfl) (by kernel_rfl) (by kernel_rfl) (fun _ _ _ h => h) (by rfl) hS0 ?_ ?_
    rotate_left
    · (intro w' hSw; obtain ⟨p0, p1, p2, p3, p4, p5, p6, p7, p8, p9, p10, p11, p12, p13, p14, p15, p16, p17, p18⟩ := hSw; go_simp; (try with_reducible rfl))
    simp only [Act.put, List.setIfInBounds_toArray, List.getElem_toArray, List.getElem_cons_succ, List.getElem_cons_zero, List.set_cons_succ, List.set_cons_zero]
    refine Y_take (i := 2) (v := ?_) rfl (by kernel_rfl) (by kernel_rfl) (by kernel_rfl) (by kernel_rfl) (fun _ _ _ h => h) (by rfl) hS0 ?_ ?_
    rotate_left
    · (intro w' hSw; obtain ⟨p0, p1, p2, p3, p4, p5, p6, p7, p8, p9, p10, p11, p12, p13, p14, p15, p16, p17, p18⟩ := hSw; go_simp; (try with_reducible rfl))
    simp only [Act.put, List.setIfInBounds_toArray, List.getElem_toArray, List.getElem_cons_succ, List.getElem_cons_zero, List.set_cons_succ, List.set_cons_zero]
    refine Y_take (i := 3) (v := ?_) rfl (by kernel_rfl) (by kernel_rfl) (by kernel_rfl) (by kernel_rfl) (fun _ _ _ h => h) (by rfl) hS0 ?_ ?_
    rotate_left
    · (intro w' hSw; obtain ⟨p0, p1, p2, p3, p4, p5, p6, p7, p8, p9, p10, p11, p12, p13, p14, p15, p16, p17, p18⟩ := hSw; go_simp; (try with_reducible rfl))
    simp only [Act.put, List.setIfInBounds_toArray, List.getElem_toArray, List.getElem_cons_succ, List.getElem_cons_zero, List.set_cons_succ, List.set_cons_zero]
    refine Y_take (i := 4) (v := ?_) rfl (by kernel_rfl) (by kernel_rfl) (by kernel_rfl) (by kernel_rfl) (fun _ _ _ h => h) (by rfl) hS0 ?_ ?_
    rotate_left
    · (intro w' hSw; obtain ⟨p0, p1, p2, p3, p4, p5, p6, p7, p8, p9, p10, p11, p12, p13, p14, p15, p16, p17, p18⟩ := hSw; go_simp; (try with_reducible rfl))
    simp only [Act.put, List.setIfInBounds_toArray, List.getElem_toArray, List.getElem_cons_succ, List.getElem_cons_zero, List.set_cons_succ, List.set_cons_zero]
    refine Z_step (i := 5) (by kernel_rfl) rfl (fun K' hK => ?_)
    go_simp
    refine (HDO.out _ (below_drew (Below.refl _ _))).mono ?_
    rintro e w2 ⟨rfl, hS1, V2, hB2⟩
    refine hK _ _ (fun _ => hS1) ?_
    clear hK K'
    refine Y_take (i := 6) (v := ?_) rfl (by kernel_rfl) (by kernel_rfl) (by kernel_rfl) (by kernel_rfl) (fun _ _ _ h => h) (by rfl) hS1 ?_ ?_
    rotate_left
    · (intro w' hSw; obtain ⟨p0, p1, p2, p3, p4, p5, p6, p7, p8, p9, p10, p11, p12, p13, p14, p15, p16, p17, p18⟩ := hSw; go_simp; (try with_reducible rfl))
    simp only [Act.put, List.setIfInBounds_toArray, List.getElem_toArray, List.getElem_cons_succ, List.getElem_cons_zero, List.set_cons_succ, List.set_cons_zero]
    refine Y_take (i := 7) (v := ?_) rfl (by kernel_rfl) (by kernel_rfl) (by kernel_rfl) (by kernel_rfl) (fun _ _ _ h => h) (by rfl) hS1 ?_ ?_
    rotate_left
    · (intro w' hSw; obtain ⟨p0, p1, p2, p3, p4, p5, p6, p7, p8, p9, p10, p11, p12, p13, p14, p15, p16, p17, p18⟩ := hSw; go_simp; (try with_reducible rfl))
    simp only [Act.put, List.setIfInBounds_toArray, List.getElem_toArray, List.getElem_cons_succ, List.getElem_cons_zero, List.set_cons_succ, List.set_cons_zero]
    cases B1 with
    | true =>
      refine Y_skip (i := 8) rfl (by kernel_rfl) (by kernel_rfl) (by kernel_rfl) (by kernel_rfl) (fun _ _ _ h => h) (by rfl) hS1 ?_
      simp only [Act.put, List.setIfInBounds_toArray, List.getElem_toArray, List.getElem_cons_succ, List.getElem_cons_zero, List.set_cons_succ, List.set_cons_zero]
      refine Y_skip (i := 9) rfl (by kernel_rfl) (by kernel_rfl) (by kernel_rfl) (by kernel_rfl) (fun _ _ _ h => h) (by rfl) hS1 ?_
      simp only [Act.put, List.setIfInBounds_toArray, List.getElem_toArray, List.getElem_cons_succ, List.getElem_cons_zero, List.set_cons_succ, List.set_cons_zero]
      refine Y_skip (i := 10) rfl (by kernel_rfl) (by kernel_rfl) (by kernel_rfl) (by kernel_rfl) (fun _ _ _ h => h) (by rfl) hS1 ?_
      simp only [Act.put, List.setIfInBounds_toArray, List.getElem_toArray, List.getElem_cons_succ, List.getElem_cons_zero, List.set_cons_succ, List.set_cons_zero]
      refine Y_skip (i := 11) rfl (by kernel_rfl) (by kernel_rfl) (by kernel_rfl) (by kernel_rfl) (fun _ _ _ h => h) (by rfl) hS1 ?_
      simp only [Act.put, List.setIfInBounds_toArray, List.getElem_toArray, List.getElem_cons_succ, List.getElem_cons_zero, List.set_cons_succ, List.set_cons_zero]
      refine Y_skip (i := 12) rfl (by kernel_rfl) (by kernel_rfl) (by kernel_rfl) (by kernel_rfl) (fun _ _ _ h => h) (by rfl) hS1 ?_
      simp only [Act.put, List.setIfInBounds_toArray, List.getElem_toArray, List.getElem_cons_succ, List.getElem_cons_zero, List.set_cons_succ, List.set_cons_zero]
      refine Y_skip (i := 13) rfl (by kernel_rfl) (by kernel_rfl) (by kernel_rfl) (by kernel_rfl) (fun _ _ _ h => h) (by rfl) hS1 ?_
      simp only [Act.put, List.setIfInBounds_toArray, List.getElem_toArray, List.getElem_cons_succ, List.getElem_cons_zero, List.set_cons_succ, List.set_cons_zero]
      refine Y_skip (i := 14) rfl (by kernel_rfl) (by kernel_rfl) (by kernel_rfl) (by kernel_rfl) (fun _ _ _ h => h) (by rfl) hS1 ?_
      simp only [Act.put, List.setIfInBounds_toArray, List.getElem_toArray, List.getElem_cons_succ, List.getElem_cons_zero, List.set_cons_succ, List.set_cons_zero]
      refine Y_skip (i := 15) rfl (by kernel_rfl) (by kernel_rfl) (by kernel_rfl) (by kernel_rfl) (fun _ _ _ h => h) (by rfl) hS1 ?_
      simp only [Act.put, List.setIfInBounds_toArray, List.getElem_toArray, List.getElem_cons_succ, List.getElem_cons_zero, List.set_cons_succ, List.set_cons_zero]
      refine Y_skip (i := 16) rfl (by kernel_rfl) (by kernel_rfl) (by kernel_rfl) (by kernel_rfl) (fun _ _ _ h => h) (by rfl) hS1 ?_
      simp only [Act.put, List.setIfInBounds_toArray, List.getElem_toArray, List.getElem_cons_succ, List.getElem_cons_zero, List.set_cons_succ, List.set_cons_zero]
      refine Z_step (i := 17) (by kernel_rfl) rfl (fun K' hK => ?_)
      go_simp
      refine hK _ _ (fun _ => hS1) (Z_done (by kernel_rfl) ?_ _)
      clear hK K'
      have HF : Hid (fstB (P4 calls pts) pts.length = n ∧ Below N w w2) := ⟨HF'.out (by rw [HP4.out]; rfl), hB2.1.below⟩
      clear HF' HPN HP4 HIA HDO HS0 hS0 hS1 hB2
      go_wp2
      go_ret
      rw [HF.out.1]
      exact ⟨rfl, by rw [HN.out]; exact HF.out.2⟩
    | false =>
      refine Y_take (i := 8) (v := ?_) rfl (by kernel_rfl) (by kernel_rfl) (by kernel_rfl) (by kernel_rfl) (fun _ _ _ h => h) (by rfl) hS1 ?_ ?_
      rotate_left
      · (intro w' hSw; obtain ⟨p0, p1, p2, p3, p4, p5, p6, p7, p8, p9, p10, p11, p12, p13, p14, p15, p16, p17, p18⟩ := hSw; go_simp; (try with_reducible rfl))
      simp only [Act.put, List.setIfInBounds_toArray, List.getElem_toArray, List.getElem_cons_succ, List.getElem_cons_zero, List.set_cons_succ, List.set_cons_zero]
      refine Z_step (i := 9) (by kernel_rfl) rfl (fun K' hK => ?_)
      go_simp
      refine (HIA.out _ ⟨V2, hB2⟩).mono ?_
      rintro e w3 ⟨rfl, hS2, hB3⟩
      refine hK _ _ (fun _ => hS2) ?_
      clear hK K'
      refine Y_take (i := 10) (v := ?_) rfl (by kernel_rfl) (by kernel_rfl) (by kernel_rfl) (by kernel_rfl) (fun _ _ _ h => h) (by rfl) hS2 ?_ ?_
      rotate_left
      · (intro w' hSw; obtain ⟨p0, p1, p2, p3, p4, p5, p6, p7, p8, p9, p10, p11, p12, p13, p14, p15, p16, p17, p18⟩ := hSw; go_simp; (try with_reducible rfl))
      simp only [Act.put, List.setIfInBounds_toArray, List.getElem_toArray, List.getElem_cons_succ, List.getElem_cons_zero, List.set_cons_succ, List.set_cons_zero]
      obtain ⟨V3, hB3⟩ := hB3
      cases B3 with
      | false =>
        refine Y_skip (i := 11) rfl (by kernel_rfl) (by kernel_rfl) (by kernel_rfl) (by kernel_rfl) (fun _ _ _ h => h) (by rfl) hS2 ?_
        simp only [Act.put, List.setIfInBounds_toArray, List.getElem_toArray, List.getElem_cons_succ, List.getElem_cons_zero, List.set_cons_succ, List.set_cons_zero]
        refine Y_skip (i := 12) rfl (by kernel_rfl) (by kernel_rfl) (by kernel_rfl) (by kernel_rfl) (fun _ _ _ h => h) (by rfl) hS2 ?_
        simp only [Act.put, List.setIfInBounds_toArray, List.getElem_toArray, List.getElem_cons_succ, List.getElem_cons_zero, List.set_cons_succ, List.set_cons_zero]
        refine Y_skip (i := 13) rfl (by kernel_rfl) (by kernel_rfl) (by kernel_rfl) (by kernel_rfl) (fun _ _ _ h => h) (by rfl) hS2 ?_
        simp only [Act.put, List.setIfInBounds_toArray, List.getElem_toArray, List.getElem_cons_succ, List.getElem_cons_zero, List.set_cons_succ, List.set_cons_zero]
        refine Y_skip (i := 14) rfl (by kernel_rfl) (by kernel_rfl) (by kernel_rfl) (by kernel_rfl) (fun _ _ _ h => h) (by rfl) hS2 ?_
        simp only [Act.put, List.setIfInBounds_toArray, List.getElem_toArray, List.getElem_cons_succ, List.getElem_cons_zero, List.set_cons_succ, List.set_cons_zero]
        refine Y_skip (i := 15) rfl (by kernel_rfl) (by kernel_rfl) (by kernel_rfl) (by kernel_rfl) (fun _ _ _ h => h) (by rfl) hS2 ?_
        simp only [Act.put, List.setIfInBounds_toArray, List.getElem_toArray, List.getElem_cons_succ, List.getElem_cons_zero, List.set_cons_succ, List.set_cons_zero]
        refine Y_take (i := 16) (v := ?_) rfl (by kernel_rfl) (by kernel_rfl) (by kernel_rfl) (by kernel_rfl) (fun _ _ _ h => h) (by rfl) hS2 ?_ ?_
        rotate_left
        · (intro w' hSw; obtain ⟨p0, p1, p2, p3, p4, p5, p6, p7, p8, p9, p10, p11, p12, p13, p14, p15, p16, p17, p18⟩ := hSw; go_simp; (try with_reducible rfl))
        simp only [Act.put, List.setIfInBounds_toArray, List.getElem_toArray, List.getElem_cons_succ, List.getElem_cons_zero, List.set_cons_succ, List.set_cons_zero]
        refine Z_step (i := 17) (by kernel_rfl) rfl (fun K' hK => ?_)
        go_simp
        refine hK _ _ (fun _ => hS2) (Z_done (by kernel_rfl) ?_ _)
        clear hK K'
        have HX : Hid (BA N b X #[.slice va calls.length vcap, .slice (some ⟨g, e', none⟩) pts.length pcap, .map (some q)] w (next S ⟨kind, k, v, od⟩) V3 w3 ∧ ∀ i, i < n + 1 → P4 calls pts i = false) := ⟨hB3, HPN.out (by rw [HP4.out]; rfl)⟩
        clear HF' HPN HP4 HIA HDO HS0 hS0 hS1 hS2 hB2 hB3
        go_wp2
        go_roundg (pts.length - (n + 1))
        case measure => omega
        case rel => exact ⟨n + 1, V3, by omega, by go_num, HX.out.2, by rw [HNX.out]; exact HX.out.1⟩
      | true =>
        refine Y_take (i := 11) (v := ?_) rfl (by kernel_rfl) (by kernel_rfl) (by kernel_rfl) (by kernel_rfl) (fun _ _ _ h => h) (by rfl) hS2 ?_ ?_
        rotate_left
        · (intro w' hSw; obtain ⟨p0, p1, p2, p3, p4, p5, p6, p7, p8, p9, p10, p11, p12, p13, p14, p15, p16, p17, p18⟩ := hSw; go_simp; (try with_reducible rfl))
        simp only [Act.put, List.setIfInBounds_toArray, List.getElem_toArray, List.getElem_cons_succ, List.getElem_cons_zero, List.set_cons_succ, List.set_cons_zero]
        refine Y_take (i := 12) (v := ?_) rfl (by kernel_rfl) (by kernel_rfl) (by kernel_rfl) (by kernel_rfl) (fun _ _ _ h => h) (by rfl) hS2 ?_ ?_
        rotate_left
        · (intro w' hSw; obtain ⟨p0, p1, p2, p3, p4, p5, p6, p7, p8, p9, p10, p11, p12, p13, p14, p15, p16, p17, p18⟩ := hSw; go_simp; (try with_reducible rfl))
        simp only [Act.put, List.setIfInBounds_toArray, List.getElem_toArray, List.getElem_cons_succ, List.getElem_cons_zero, List.set_cons_succ, List.set_cons_zero]
        refine Y_take (i := 13) (v := ?_) rfl (by kernel_rfl) (by kernel_rfl) (by kernel_rfl) (by kernel_rfl) (fun _ _ _ h => h) (by rfl) hS2 ?_ ?_
        rotate_left
        · (intro w' hSw; obtain ⟨p0, p1, p2, p3, p4, p5, p6, p7, p8, p9, p10, p11, p12, p13, p14, p15, p16, p17, p18⟩ := hSw; go_simp; (try with_reducible rfl))
        simp only [Act.put, List.setIfInBounds_toArray, List.getElem_toArray, List.getElem_cons_succ, List.getElem_cons_zero, List.set_cons_succ, List.set_cons_zero]
        refine Y_take (i := 14) (v := ?_) rfl (by kernel_rfl) (by kernel_rfl) (by kernel_rfl) (by kernel_rfl) (fun _ _ _ h => h) (by rfl) hS2 ?_ ?_
        rotate_left
        · (intro w' hSw; obtain ⟨p0, p1, p2, p3, p4, p5, p6, p7, p8, p9, p10, p11, p12, p13, p14, p15, p16, p17, p18⟩ := hSw; go_simp; (try with_reducible rfl))
        simp only [Act.put, List.setIfInBounds_toArray, List.getElem_toArray, List.getElem_cons_succ, List.getElem_cons_zero, List.set_cons_succ, List.set_cons_zero]
        refine Y_take (i := 15) (v := ?_) rfl (by kernel_rfl) (by kernel_rfl) (by kernel_rfl) (by kernel_rfl) (fun _ _ _ h => h) (by rfl) hS2 ?_ ?_
        rotate_left
        · (intro w' hSw; obtain ⟨p0, p1, p2, p3, p4, p5, p6, p7, p8, p9, p10, p11, p12, p13, p14, p15, p16, p17, p18⟩ := hSw; go_simp; (try with_reducible rfl))
        simp only [Act.put, List.setIfInBounds_toArray, List.getElem_toArray, List.getElem_cons_succ, List.getElem_cons_zero, List.set_cons_succ, List.set_cons_zero]
        refine Y_take (i := 16) (v := ?_) rfl (by kernel_rfl) (by kernel_rfl) (by kernel_rfl) (by kernel_rfl) (fun _ _ _ h => h) (by rfl) hS2 ?_ ?_
        rotate_left
        · (intro w' hSw; obtain ⟨p0, p1, p2, p3, p4, p5, p6, p7, p8, p9, p10, p11, p12, p13, p14, p15, p16, p17, p18⟩ := hSw; go_simp; (try with_reducible rfl))
        simp only [Act.put, List.setIfInBounds_toArray, List.getElem_toArray, List.getElem_cons_succ, List.getElem_cons_zero, List.set_cons_succ, List.set_cons_zero]
        refine Z_step (i := 17) (by kernel_rfl) rfl (fun K' hK => ?_)
        go_simp
        refine hK _ _ (fun _ => hS2) (Z_done (by kernel_rfl) ?_ _)
        clear hK K'
        cases B2 with
        | true =>
          have HF : Hid (fstB (P4 calls pts) pts.length = n ∧ Below N w w3) := ⟨HF'.out (by rw [HP4.out]; rfl), hB3.below⟩
          clear HF' HPN HP4 HIA HDO HS0 hS0 hS1 hS2 hB2 hB3
          go_wp2
          go_ret
          rw [HF.out.1]
          exact ⟨rfl, by rw [HN.out]; exact HF.out.2⟩
        | false =>
          have HX : Hid (BA N b X #[.slice va calls.length vcap, .slice (some ⟨g, e', none⟩) pts.length pcap, .map (some q)] w (next S ⟨kind, k, v, od⟩) V3 w3 ∧ ∀ i, i < n + 1 → P4 calls pts i = false) := ⟨hB3, HPN.out (by rw [HP4.out]; rfl)⟩
          clear HF' HPN HP4 HIA HDO HS0 hS0 hS1 hS2 hB2 hB3
          go_wp2
          go_roundg (pts.length - (n + 1))
          case measure => omega
          case rel => exact ⟨n + 1, V3, by omega, by go_num, HX.out.2, by rw [HNX.out]; exact HX.out.1⟩
end
section
open Go.RowKit Go.Maps
attribute [local go_sem ↓] Go.wp_at_zero Go.wp_at_succ

theorem fstB_inv {P : Nat → Bool} {n : Nat} (h : fstB P n = -1) : ∀ j, j < n → P j = false := by
  intro j hj
  cases e : (List.range n).find? P with
  | none =>
    rw [List.find?_eq_none] at e
    have := e j (List.mem_range.2 hj)
    simpa using this
  | some i =>
    rw [fstB, e] at h
    have h' : ((i : Nat) : Int) = -1 := h
    omega
/-- The first place at which a rule is broken. -/
def Rl (calls : List Cl) (pts : List Pt) : Nat → Int
  | 0 => fstB (P1 calls) calls.length
  | 1 => fstB (P2 calls pts) pts.length
  | 2 => fstB (P3 calls pts) calls.length
  | _ => fstB (P4 calls pts) pts.length
/-- What Check tells. -/
def chkG (calls : List Cl) (pts : List Pt) : Int × Int := if Rl calls pts 0 ≠ -1 then (1, Rl calls pts 0) else if Rl calls pts 1 ≠ -1 then (2, Rl calls pts 1) else if Rl calls pts 2 ≠ -1 then (3, Rl calls pts 2) else if Rl calls pts 3 ≠ -1 then (4, Rl calls pts 3) else (0, 0)
theorem chkG_none {calls : List Cl} {pts : List Pt} (h : ∀ r, r < 4 → Rl calls pts r = -1) : chkG calls pts = (0, 0) := by
  rw [chkG, h 0 (by omega), h 1 (by omega), h 2 (by omega), h 3 (by omega)]
  rfl
theorem chkG_at {calls : List Cl} {pts : List Pt} {k : Nat} (hk : k < 4) (h : ∀ r, r < k → Rl calls pts r = -1) (h2 : Rl calls pts k ≠ -1) : chkG calls pts = ((k : Int) + 1, Rl calls pts k) := by
  rcases k with _ | _ | _ | _ | k
  · rw [chkG, if_pos h2]; rfl
  · rw [chkG, if_neg (by rw [h 0 (by omega)]; decide), if_pos h2]; rfl
  · rw [chkG, if_neg (by rw [h 0 (by omega)]; decide), if_neg (by rw [h 1 (by omega)]; decide), if_pos h2]; rfl
  · rw [chkG, if_neg (by rw [h 0 (by omega)]; decide), if_neg (by rw [h 1 (by omega)]; decide), if_neg (by rw [h 2 (by omega)]; decide), if_pos h2]; rfl
  · omega
set_option maxRecDepth 20000 in
theorem broken1 (va : Option Addr) (vn vcap : Nat) (pa : Option Addr) (pn pcap q : Nat) (R : Int) (w : World) (h : ∀ W, Below w.heap.size w W → Calls Tryd.prog 44 #[.agg #[.slice va vn vcap, .slice pa pn pcap, .map (some q)]] W fun e W' => e = .returned (.int .i64 R) ∧ Below W.heap.size W W') :
    Calls Tryd.prog 38 #[.agg #[.slice va vn vcap, .slice pa pn pcap, .map (some q)], .int .i64 1] w fun e W' => e = .returned (.int .i64 R) ∧ Below w.heap.size w W' := by
  have hb : Below w.heap.size w (w.alloc (.cells #[.slice va vn vcap, .slice pa pn pcap, .map (some q)] 101)) := (Below.refl _ w).alloc (Nat.le_refl _) _
  have hh := h _ hb
  have HB : Hid (_) := hb
  clear h hb
  go_enter Tryd.func38, Tryd.ntmps38
  go_wp2_with (go_at_call 44; refine hh.mono ?_; clear hh; rintro e w1 ⟨rfl, hb1⟩)
  go_ret
  exact ⟨rfl, HB.out.trans (hb1.mono HB.out.size)⟩
set_option maxRecDepth 20000 in
theorem broken2 (va : Option Addr) (vn vcap : Nat) (pa : Option Addr) (pn pcap q : Nat) (R : Int) (w : World) (h : ∀ W, Below w.heap.size w W → Calls Tryd.prog 45 #[.agg #[.slice va vn vcap, .slice pa pn pcap, .map (some q)]] W fun e W' => e = .returned (.int .i64 R) ∧ Below W.heap.size W W') :
    Calls Tryd.prog 38 #[.agg #[.slice va vn vcap, .slice pa pn pcap, .map (some q)], .int .i64 2] w fun e W' => e = .returned (.int .i64 R) ∧ Below w.heap.size w W' := by
  have hb : Below w.heap.size w (w.alloc (.cells #[.slice va vn vcap, .slice pa pn pcap, .map (some q)] 101)) := (Below.refl _ w).alloc (Nat.le_refl _) _
  have hh := h _ hb
  have HB : Hid (_) := hb
  clear h hb
  go_enter Tryd.func38, Tryd.ntmps38
  go_wp2_with (go_at_call 45; refine hh.mono ?_; clear hh; rintro e w1 ⟨rfl, hb1⟩)
  go_ret
  exact ⟨rfl, HB.out.trans (hb1.mono HB.out.size)⟩
set_option maxRecDepth 20000 in
theorem broken3 (va : Option Addr) (vn vcap : Nat) (pa : Option Addr) (pn pcap q : Nat) (R : Int) (w : World) (h : ∀ W, Below w.heap.size w W → Calls Tryd.prog 46 #[.agg #[.slice va vn vcap, .slice pa pn pcap, .map (some q)]] W fun e W' => e = .returned (.int .i64 R) ∧ Below W.heap.size W W') :
    Calls Tryd.prog 38 #[.agg #[.slice va vn vcap, .slice pa pn pcap, .map (some q)], .int .i64 3] w fun e W' => e = .returned (.int .i64 R) ∧ Below w.heap.size w W' := by
  have hb : Below w.heap.size w (w.alloc (.cells #[.slice va vn vcap, .slice pa pn pcap, .map (some q)] 101)) := (Below.refl _ w).alloc (Nat.le_refl _) _
  have hh := h _ hb
  have HB : Hid (_) := hb
  clear h hb
  go_enter Tryd.func38, Tryd.ntmps38
  go_wp2_with (go_at_call 46; refine hh.mono ?_; clear hh; rintro e w1 ⟨rfl, hb1⟩)
  go_ret
  exact ⟨rfl, HB.out.trans (hb1.mono HB.out.size)⟩
set_option maxRecDepth 20000 in
theorem broken4 (va : Option Addr) (vn vcap : Nat) (pa : Option Addr) (pn pcap q : Nat) (R : Int) (w : World) (h : ∀ W, Below w.heap.size w W → Calls Tryd.prog 47 #[.agg #[.slice va vn vcap, .slice pa pn pcap, .map (some q)]] W fun e W' => e = .returned (.int .i64 R) ∧ Below W.heap.size W W') :
    Calls Tryd.prog 38 #[.agg #[.slice va vn vcap, .slice pa pn pcap, .map (some q)], .int .i64 4] w fun e W' => e = .returned (.int .i64 R) ∧ Below w.heap.size w W' := by
  have hb : Below w.heap.size w (w.alloc (.cells #[.slice va vn vcap, .slice pa pn pcap, .map (some q)] 101)) := (Below.refl _ w).alloc (Nat.le_refl _) _
  have hh := h _ hb
  have HB : Hid (_) := hb
  clear h hb
  go_enter Tryd.func38, Tryd.ntmps38
  go_wp2_with (go_at_call 47; refine hh.mono ?_; clear hh; rintro e w1 ⟨rfl, hb1⟩)
  go_ret
  exact ⟨rfl, HB.out.trans (hb1.mono HB.out.size)⟩
theorem key_short {calls : List Cl} (h : Rl calls [] 0 = -1) : ∀ c ∈ calls, c.op.k.length ≤ 140737488351232 := by
  intro c hc
  obtain ⟨i, hi, e⟩ := List.getElem_of_mem hc
  have ho : calls[i]? = some c := by rw [List.getElem?_eq_getElem hi, e]
  have h1 := fstB_inv h i hi
  rw [P1_at ho] at h1
  have h2 : okCall c = true := by
    cases e2 : okCall c
    · rw [e2] at h1; cases h1
    · rfl
  simp only [okCall, Bool.and_eq_true, decide_eq_true_eq] at h2
  have h3 : chk c.op.kind c.op.k c.op.v c.op.o = 0 := h2.1.1.2
  have h4 : isK c.op.k = true := by
    cases e4 : isK c.op.k
    · unfold chk at h3
      by_cases h5 : c.op.kind < 1 ∨ 5 < c.op.kind
      · rw [if_pos h5] at h3; cases h3
      · rw [if_neg h5, if_pos (.inl e4)] at h3; cases h3
    · rfl
  simp only [isK, Bool.and_eq_true, decide_eq_true_eq] at h4
  omega
theorem callAt_mem (calls : List Cl) (p : Pt) : callAt calls p ∈ calls ∨ callAt calls p = clZ := by
  unfold callAt
  cases e : callOf calls p with
  | none => exact .inr rfl
  | some c =>
    left
    unfold callOf at e
    cases e2 : lastI (calls.map ck) p.cl p.no calls.length with
    | none => rw [e2] at e; cases e
    | some i => rw [e2] at e; exact List.mem_of_getElem? e
/-- Calls and points as they lie, and what is known of them. -/
structure Hs (w : World) (vc vp : Value) (calls : List Cl) (pts : List Pt) : Prop where
  hc : SlF ccs 10 w vc calls
  hp : SlF pks 5 w vp pts
  lc : calls.length ≤ 2000
  lp : pts.length ≤ 2000
  wc : ∀ c ∈ calls, wfK (ck c)
  wp : ∀ p ∈ pts, wfK (pk2 p)
theorem Hs.on {w w' : World} {vc vp : Value} {calls : List Cl} {pts : List Pt} (h : Hs w vc vp calls pts) {m : Nat} (hb : Below m w w') (hm : w.heap.size ≤ m) : Hs w' vc vp calls pts := ⟨h.hc.on hb hm, h.hp.on hb hm, h.lc, h.lp, h.wc, h.wp⟩
theorem broken_any {calls : List Cl} {pts : List Pt} {va pa : Option Addr} {vcap pcap q : Nat} {Q : List (Int × Int × Int)} {w : World} (h : Hs w (.slice va calls.length vcap) (.slice pa pts.length pcap) calls pts) (hM : MapAt w 113 (some q) (Q.map sent)) (hQ : QI (calls.map ck) calls.length Q) (he : EnvK w) {k : Nat} (hk : k < 4) (hr : ∀ r, r < k → Rl calls pts r = -1) :
    Calls Tryd.prog 38 #[.agg #[.slice va calls.length vcap, .slice pa pts.length pcap, .map (some q)], .int .i64 ((k : Int) + 1)] w fun e W' => e = .returned (.int .i64 (Rl calls pts k)) ∧ Below w.heap.size w W' := by
  have hM' : ∀ W, Below w.heap.size w W → MapAt W 113 (some q) (Q.map sent) := fun W hW => hM.keep fun b e => hW.block b (hM.lt e)
  have lc := h.lc
  have lp := h.lp
  rcases k with _ | _ | _ | _ | k
  · exact broken1 _ _ _ _ _ _ _ _ w fun W hW => brokenCall_any calls _ pa pts.length pcap q W (h.on hW (Nat.le_refl _)).hc (by omega)
  · exact broken2 _ _ _ _ _ _ _ _ w fun W hW => brokenPoint_any calls pts _ _ q Q W (h.on hW (Nat.le_refl _)).hc (h.on hW (Nat.le_refl _)).hp (hM' W hW) hQ (by omega) h.wp
  · exact broken3 _ _ _ _ _ _ _ _ w fun W hW => missingPoint_any calls pts _ _ q W (h.on hW (Nat.le_refl _)).hc (h.on hW (Nat.le_refl _)).hp (by omega) h.wp h.wc (by omega)
  · refine broken4 _ _ _ _ _ _ _ _ w fun W hW => brokenAnswer_any calls pts _ _ q Q W (h.on hW (Nat.le_refl _)).hc (h.on hW (Nat.le_refl _)).hp (hM' W hW) hQ (by omega) h.wp (fun p _ => ?_) (he.next hW)
    rcases callAt_mem calls p with e | e
    · exact key_short (hr 0 (by omega)) _ e
    · rw [e]; decide
  · omega
set_option maxRecDepth 20000 in
set_option maxHeartbeats 1500000 in
theorem Check24_any {calls : List Cl} {pts : List Pt} {vc vp : Value} {w : World} (h : Hs w vc vp calls pts) (he : EnvK w) :
    Calls Tryd.prog 28 #[vc, vp] w fun e W' => e = .returned (.tuple #[.int .i64 (chkG calls pts).1, .int .i64 (chkG calls pts).2, .int .i64 0]) ∧ Below w.heap.size w W' := by
  obtain ⟨va, vcap, rfl⟩ := h.hc.slice
  obtain ⟨pa, pcap, rfl⟩ := h.hp.slice
  have hNH := newHistory_any calls _ pa pts.length pcap w h.hc (by have := h.lc; omega) h.wc
  have l1 : ¬ ((2000 : Int) < (calls.length : Int)) := by have := h.lc; omega
  have l2 : ¬ ((2000 : Int) < (pts.length : Int)) := by have := h.lp; omega
  obtain ⟨N, hN⟩ : ∃ N, w.heap.size = N := ⟨_, rfl⟩
  rw [hN] at hNH
  have HN : Hid (w.heap.size = N) := hN
  have HH : Hid (Hs w (.slice va calls.length vcap) (.slice pa pts.length pcap) calls pts ∧ EnvK w) := ⟨h, he⟩
  clear h he hN
  go_enter Tryd.func28, Tryd.ntmps28
  go_upto_region 4 with (go_at_call 37; refine hNH.mono ?_; clear hNH; rintro e w1 ⟨q, Q, rfl, hM, hQ, hNq, hB⟩)
  obtain ⟨X, hX⟩ : ∃ X, w1.heap.size = X := ⟨_, rfl⟩
  have rX := heap_alloc_new w1 (.cells #[.slice va calls.length vcap, .slice pa pts.length pcap, .map (some q)] 101)
  have hbX := (Below.refl _ w1).alloc (Nat.le_refl _) (.cells #[.slice va calls.length vcap, .slice pa pts.length pcap, .map (some q)] 101)
  obtain ⟨W2, hW2⟩ : ∃ W, w1.alloc (.cells #[.slice va calls.length vcap, .slice pa pts.length pcap, .map (some q)] 101) = W := ⟨_, rfl⟩
  rw [hW2] at rX hbX ⊢
  rw [hX] at rX
  try rw [hX]
  have hs1 : N ≤ w1.heap.size := by have := hB.size; have := HN.out; omega
  have hM2 : MapAt W2 113 (some q) (Q.map sent) := hM.keep fun b e => hbX.block b (hM.lt e)
  have HR : Hid (W2.heap[X]? = some (.cells #[.slice va calls.length vcap, .slice pa pts.length pcap, .map (some q)] 101) ∧ MapAt W2 113 (some q) (Q.map sent) ∧ QI (calls.map ck) calls.length Q ∧ Below N w W2 ∧ N ≤ W2.heap.size) := ⟨rX, hM2, hQ, hB.trans (hbX.mono hs1), Nat.le_trans hs1 hbX.size⟩
  clear hM hQ hNq hB rX hbX hW2 hX hs1 hM2 l1 l2
  go_wp2_with fail
  go_loopg [8] 4 (fun gk i wr => ∃ k : Nat, k + gk = 4 ∧ i = .int .i64 ((k : Int) + 1) ∧ (∀ r, r < k → Rl calls pts r = -1) ∧ Below W2.heap.size W2 wr)
  case atStart => exact ⟨0, by omega, rfl, fun r hr => by omega, Below.refl _ _⟩
  case round =>
    obtain ⟨k, hk, rfl, hr, hB⟩ := hrel
    have hbW : Below N w wr := HR.out.2.2.2.1.trans (hB.mono HR.out.2.2.2.2)
    by_cases hk4 : k = 4
    · subst hk4
      have HF : Hid (chkG calls pts = (0, 0) ∧ Below N w wr) := ⟨chkG_none hr, hbW⟩
      clear hr hB hbW HR HH
      go_wp2
      rw [HF.out.1]
      exact bodyPost_ret (v := .tuple #[.int .i64 0, .int .i64 0, .int .i64 0]) (by simp [results, Tryd.f28, go_sem]) rfl ⟨rfl, by rw [HN.out]; exact HF.out.2⟩
    have hk3 : k < 4 := by omega
    have hbr := broken_any (HH.out.1.on hbW (by rw [HN.out]; exact Nat.le_refl _)) (HR.out.2.1.keep fun b e => hB.block b (HR.out.2.1.lt e)) HR.out.2.2.1 (HH.out.2.next (by rw [HN.out]; exact hbW)) hk3 hr
    have rX := (hB.block X (Array.getElem?_eq_some_iff.1 HR.out.1).1).trans HR.out.1
    have x0 := cellB rX 0 _ rfl
    have x1 := cellB rX 1 _ rfl
    have x2 := cellB rX 2 _ rfl
    obtain ⟨R, hR⟩ : ∃ R, Rl calls pts k = R := ⟨_, rfl⟩
    rw [hR] at hbr
    have i1 : ((k : Int) + 1 ≤ 4) := by omega
    have HB : Hid (_) := hB
    have HBW : Hid (_) := hbW
    by_cases hR1 : R = -1
    · subst hR1
      have HRN : Hid (∀ r, r < k + 1 → Rl calls pts r = -1) := fun r h' => by
        by_cases e : r = k
        · subst e; exact hR
        · exact hr r (by omega)
      clear hr hB hbW rX hR HR HH
      go_wp2_with (go_at_call 38; refine hbr.mono ?_; clear hbr; rintro e w2 ⟨rfl, hb2⟩)
      go_roundg (4 - (k + 1))
      case measure => omega
      case rel => exact ⟨k + 1, by omega, by go_num, HRN.out, HB.out.trans (hb2.mono HB.out.size)⟩
    · have HF : Hid (chkG calls pts = ((k : Int) + 1, R)) := by show _ = _; rw [← hR]; exact chkG_at hk3 hr (by rw [hR]; exact hR1)
      have hne : (R == -1) = false := by simpa using hR1
      clear hr hB hbW rX hR HR HH
      go_wp2_with (go_at_call 38; refine hbr.mono ?_; clear hbr; rintro e w2 ⟨rfl, hb2⟩)
      rw [HF.out]
      exact bodyPost_ret (v := .tuple #[.int .i64 ((k : Int) + 1), .int .i64 R, .int .i64 0]) (by simp [results, Tryd.f28, go_sem]) rfl ⟨rfl, by rw [HN.out]; exact HBW.out.trans (hb2.mono (by have := HBW.out.size; have := HN.out; omega))⟩
end
end Go.Proofs.YtihilkdokfdoeaaDoor
