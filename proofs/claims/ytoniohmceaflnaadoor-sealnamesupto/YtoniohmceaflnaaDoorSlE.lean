import Derived.Test.YtoniohmceaflnaaDoorSlQ
namespace Go.Proofs.YtoniohmceaflnaaDoor
open Go.RowKit
attribute [local go_sem ↓] Go.wp_at_zero Go.wp_at_succ

theorem RingAt.below {w w' : World} {r : Option Addr} {seed : Option (List UInt8)} (h : RingAt w r seed) {B : Nat} (hb : Below B w w') (hB : w.heap.size ≤ B) : RingAt w' r seed := by
  rcases h with h | ⟨B', s, h1, h2, h3, h4⟩
  · exact .inl h
  · exact .inr ⟨B', s, h1, h2, h3, (hb.cell (p := ⟨B', 0, none⟩) (Nat.lt_of_lt_of_le (World.block_lt_of_cell? w _ h4) hB)).trans h4⟩
theorem cellB {w : World} {B : Nat} {cs : Array Value} {t : TypeId} {fr : Nat × Nat} (h : w.heap[B]? = some (.cells cs t fr)) (j : Nat) (u : Value) (hu : cs[j]? = some u) : w.cell? ⟨B, j, none⟩ = some u := by
  unfold World.cell?; simp only [h]; exact hu
theorem frozenB {w : World} {B : Nat} {cs : Array Value} {t : TypeId} (h : w.heap[B]? = some (.cells cs t)) (j : Nat) : w.frozen? ⟨B, j, none⟩ = false := by
  unfold World.frozen?; simp [h]
theorem setB {w : World} {B : Nat} {cs : Array Value} {t : TypeId} {fr : Nat × Nat} (h : w.heap[B]? = some (.cells cs t fr)) (j : Nat) (a : Value) :
    (w.setCell ⟨B, j, none⟩ a).heap[B]? = some (.cells (cs.setIfInBounds j a) t fr) := by
  unfold World.setCell
  simp only [Array.getElem?_modify, if_true, h, Option.map_some]
  rfl
/-- What a party signed, as a value. -/
def signV (seed : Option (List UInt8)) (g n : Int) (t : List UInt8) : Value :=
  if tagErr seed g n = 0 then .agg #[.int .i64 g, .int .i64 n, .string (bs t), .string (bs (sigV seed g n t))] else .agg #[.int .i64 0, .int .i64 0, .string (bs []), .string (bs [])]

set_option maxRecDepth 20000 in
set_option maxHeartbeats 2000000 in
theorem Sign_any (r : Option Addr) (seed : Option (List UInt8)) (g n : Int) (t : List UInt8) (w : World) (he : EnvP w) (hb : EnvB w) (hr : RingAt w r seed) (ht : seed ≠ none → t.length ≤ 140737488355328) :
    Calls Tryd.prog 17 #[.pointer r, .agg #[.int .i64 g, .int .i64 n], .string (bs t)] w fun e W' => e = .returned (.tuple #[signV seed g n t, .int .i64 (tagErr seed g n)]) ∧ Below w.heap.size w W' := by
  have hb1 : Below w.heap.size w (w.alloc (.cells #[.int .i64 g, .int .i64 n] 23)) := (Below.refl _ w).alloc (Nat.le_refl _) _
  have hb2 := hb1.alloc hb1.size (.cells #[.int .i64 0, .int .i64 0, .string ⟨#[]⟩, .string ⟨#[]⟩] 36)
  have r0 : ((w.alloc (.cells #[.int .i64 g, .int .i64 n] 23)).alloc (.cells #[.int .i64 0, .int .i64 0, .string ⟨#[]⟩, .string ⟨#[]⟩] 36)).heap[w.heap.size + 1]? = some (.cells #[.int .i64 0, .int .i64 0, .string ⟨#[]⟩, .string ⟨#[]⟩] 36) := by
    have := heap_alloc_new (w.alloc (.cells #[.int .i64 g, .int .i64 n] 23)) (.cells #[.int .i64 0, .int .i64 0, .string ⟨#[]⟩, .string ⟨#[]⟩] 36)
    simpa using this
  have hbb : Below (w.heap.size + 1) (w.alloc (.cells #[.int .i64 g, .int .i64 n] 23)) ((w.alloc (.cells #[.int .i64 g, .int .i64 n] 23)).alloc (.cells #[.int .i64 0, .int .i64 0, .string ⟨#[]⟩, .string ⟨#[]⟩] 36)) := (Below.refl _ _).alloc (by simp) _
  have p0 : (w.alloc (.cells #[.int .i64 g, .int .i64 n] 23)).heap[w.heap.size]? = some (.cells #[.int .i64 g, .int .i64 n] 23) := heap_alloc_new _ _
  have c0 := (hbb.cell (p := ⟨w.heap.size, 0, none⟩) (by simp)).trans (cellB p0 0 (.int .i64 g) rfl)
  have c1 := (hbb.cell (p := ⟨w.heap.size, 1, none⟩) (by simp)).trans (cellB p0 1 (.int .i64 n) rfl)
  have hz : w.heap.size + 2 ≤ ((w.alloc (.cells #[.int .i64 g, .int .i64 n] 23)).alloc (.cells #[.int .i64 0, .int .i64 0, .string ⟨#[]⟩, .string ⟨#[]⟩] 36)).heap.size := by simp
  have hT := Tag_any r seed g n t _ (he.next hb2) (hb.next hb2) (hr.below hb2 (Nat.le_refl _)) ht
  by_cases h0 : tagErr seed g n = 0
  · have e1 : signV seed g n t = .agg #[.int .i64 g, .int .i64 n, .string (bs t), .string (bs (sigV seed g n t))] := if_pos h0
    rw [e1, h0]
    rw [h0] at hT
    obtain ⟨TV, hTV⟩ : ∃ TV, sigV seed g n t = TV := ⟨_, rfl⟩
    rw [hTV] at hT ⊢
    clear hTV e1 h0
    go_enter Tryd.func17, Tryd.ntmps17
    go_wp2_with fail
    refine hT.mono ?_
    clear hT
    rintro e w1 ⟨rfl, hb3⟩
    have hB1 := hb2.trans (hb3.mono hb2.size)
    have r1 := (hb3.block (w.heap.size + 1) (by omega)).trans r0
    have k0 := (hb3.cell (p := ⟨w.heap.size, 0, none⟩) (by show w.heap.size < _; omega)).trans c0
    have k1 := (hb3.cell (p := ⟨w.heap.size, 1, none⟩) (by show w.heap.size < _; omega)).trans c1
    have f0 := frozenB r1 0
    have f1 := frozenB r1 1
    have f2 := frozenB r1 2
    have f3 := frozenB r1 3
    have s0 := cellB r1 0 _ rfl
    have s1 := cellB r1 1 _ rfl
    have s2 := cellB r1 2 _ rfl
    have s3 := cellB r1 3 _ rfl
    go_wp2
    have hr4 := setB (setB (setB (setB r1 0 (.int .i64 g)) 1 (.int .i64 n)) 2 (.string (bs t))) 3 (.string (bs TV))
    have z0 := cellB hr4 0 (.int .i64 g) rfl
    have z1 := cellB hr4 1 (.int .i64 n) rfl
    have z2 := cellB hr4 2 (.string (bs t)) rfl
    have z3 := cellB hr4 3 (.string (bs TV)) rfl
    have hBz := (((hB1.setCell (p := ⟨w.heap.size + 1, 0, none⟩) (Nat.le_succ _) (.int .i64 g)).setCell (p := ⟨w.heap.size + 1, 1, none⟩) (Nat.le_succ _) (.int .i64 n)).setCell (p := ⟨w.heap.size + 1, 2, none⟩) (Nat.le_succ _) (.string (bs t))).setCell (p := ⟨w.heap.size + 1, 3, none⟩) (Nat.le_succ _) (.string (bs TV))
    exact bodyPost_ret (v := .tuple #[.agg #[.int .i64 g, .int .i64 n, .string (bs t), .string (bs TV)], .int .i64 0]) (by simp [results, Tryd.f17, go_sem, z0, z1, z2, z3]) rfl ⟨rfl, hBz⟩
  · have e1 : signV seed g n t = .agg #[.int .i64 0, .int .i64 0, .string (bs []), .string (bs [])] := if_neg h0
    have hq : (tagErr seed g n != 0) = true := by simpa using h0
    rw [e1]
    obtain ⟨E, hE⟩ : ∃ E, tagErr seed g n = E := ⟨_, rfl⟩
    rw [hE] at hT hq ⊢
    obtain ⟨TV, hTV⟩ : ∃ TV, sigV seed g n t = TV := ⟨_, rfl⟩
    rw [hTV] at hT
    clear hTV hE h0 e1
    go_enter Tryd.func17, Tryd.ntmps17
    go_wp2_with fail
    refine hT.mono ?_
    clear hT
    rintro e w1 ⟨rfl, hb3⟩
    have hB1 := hb2.trans (hb3.mono hb2.size)
    have r1 := (hb3.block (w.heap.size + 1) (by omega)).trans r0
    have f0 := frozenB r1 0
    have f1 := frozenB r1 1
    have f2 := frozenB r1 2
    have f3 := frozenB r1 3
    have s0 := cellB r1 0 _ rfl
    have s1 := cellB r1 1 _ rfl
    have s2 := cellB r1 2 _ rfl
    have s3 := cellB r1 3 _ rfl
    go_wp2
    have hr4 := setB (setB (setB (setB r1 0 (.int .i64 0)) 1 (.int .i64 0)) 2 (.string ⟨#[]⟩)) 3 (.string ⟨#[]⟩)
    have z0 := cellB hr4 0 (.int .i64 0) rfl
    have z1 := cellB hr4 1 (.int .i64 0) rfl
    have z2 := cellB hr4 2 (.string ⟨#[]⟩) rfl
    have z3 := cellB hr4 3 (.string ⟨#[]⟩) rfl
    have hBz := (((hB1.setCell (p := ⟨w.heap.size + 1, 0, none⟩) (Nat.le_succ _) (.int .i64 0)).setCell (p := ⟨w.heap.size + 1, 1, none⟩) (Nat.le_succ _) (.int .i64 0)).setCell (p := ⟨w.heap.size + 1, 2, none⟩) (Nat.le_succ _) (.string ⟨#[]⟩)).setCell (p := ⟨w.heap.size + 1, 3, none⟩) (Nat.le_succ _) (.string ⟨#[]⟩)
    exact bodyPost_ret (v := .tuple #[.agg #[.int .i64 0, .int .i64 0, .string ⟨#[]⟩, .string ⟨#[]⟩], .int .i64 E]) (by simp [results, Tryd.f17, go_sem, z0, z1, z2, z3]) rfl ⟨rfl, hBz⟩

def checkE (seed : Option (List UInt8)) (g n : Int) (t tg : List UInt8) : Int := if tagErr seed g n ≠ 0 then tagErr seed g n else if tg = sigV seed g n t then 0 else 30
set_option maxRecDepth 20000 in
set_option maxHeartbeats 2000000 in
theorem Check_any (r : Option Addr) (seed : Option (List UInt8)) (g n : Int) (t tg : List UInt8) (w : World) (he : EnvP w) (hb : EnvB w) (hr : RingAt w r seed) (ht : seed ≠ none → t.length ≤ 140737488355328) :
    Calls Tryd.prog 18 #[.pointer r, .agg #[.int .i64 g, .int .i64 n, .string (bs t), .string (bs tg)]] w fun e W' => e = .returned (.int .i64 (checkE seed g n t tg)) ∧ Below w.heap.size w W' := by
  have hb1 : Below w.heap.size w (w.alloc (.cells #[.int .i64 g, .int .i64 n, .string (bs t), .string (bs tg)] 36)) := (Below.refl _ w).alloc (Nat.le_refl _) _
  have p0 : (w.alloc (.cells #[.int .i64 g, .int .i64 n, .string (bs t), .string (bs tg)] 36)).heap[w.heap.size]? = some (.cells #[.int .i64 g, .int .i64 n, .string (bs t), .string (bs tg)] 36) := heap_alloc_new _ _
  have hT := tagOf_any r seed g n t _ (he.next hb1) (hb.next hb1) (hr.below hb1 (Nat.le_refl _)) ht
  have hnl := tagNum_len seed g n t
  by_cases h0 : tagErr seed g n = 0
  · rw [h0] at hT
    have e2 : tagNum seed g n t = bn (sigV seed g n t) := by rw [sigV, if_pos h0]; exact if_pos h0
    rw [e2] at hT hnl
    have hcE : checkE seed g n t tg = if tg = sigV seed g n t then 0 else 30 := by rw [checkE, if_neg (fun h => h h0)]
    rw [hcE]
    obtain ⟨SV, hSV⟩ : ∃ SV, sigV seed g n t = SV := ⟨_, rfl⟩
    rw [hSV] at hT hnl ⊢
    obtain ⟨RR, hRR⟩ : ∃ RR : Int, (if tg = SV then 0 else 30) = RR := ⟨_, rfl⟩
    rw [hRR]
    have HRR : Hid ((if tg = SV then 0 else 30) = RR) := hRR
    clear hSV e2 h0 hcE hRR
    go_enter Tryd.func18, Tryd.ntmps18
    go_wp2_with fail
    refine hT.mono ?_
    clear hT
    rintro e w1 ⟨rfl, hb2⟩
    have hB1 := hb1.trans (hb2.mono hb1.size)
    have k3 := (hb2.cell (p := ⟨w.heap.size, 3, none⟩) (by simp)).trans (cellB p0 3 (.string (bs tg)) rfl)
    have hlw : w.heap.size < w1.heap.size := Nat.lt_of_lt_of_le (by simp) hb2.size
    have hHn : Holds (w1.alloc (.cells #[.int .u8 0, .int .u8 0, .int .u8 0, .int .u8 0, .int .u8 0, .int .u8 0, .int .u8 0, .int .u8 0, .int .u8 0, .int .u8 0, .int .u8 0, .int .u8 0, .int .u8 0, .int .u8 0, .int .u8 0, .int .u8 0] 83)) w1.heap.size .u8 16 zeroT := Holds.new w1 .u8 83 16 zeroT rfl
    have hHw := hHn.sets (bn SV) hnl
    have hbw : Below w1.heap.size w1 ((w1.alloc (.cells #[.int .u8 0, .int .u8 0, .int .u8 0, .int .u8 0, .int .u8 0, .int .u8 0, .int .u8 0, .int .u8 0, .int .u8 0, .int .u8 0, .int .u8 0, .int .u8 0, .int .u8 0, .int .u8 0, .int .u8 0, .int .u8 0] 83)).setCells w1.heap.size 0 (cellsOf .u8 (bn SV))) := ((Below.refl w1.heap.size w1).alloc (Nat.le_refl _) (.cells #[.int .u8 0, .int .u8 0, .int .u8 0, .int .u8 0, .int .u8 0, .int .u8 0, .int .u8 0, .int .u8 0, .int .u8 0, .int .u8 0, .int .u8 0, .int .u8 0, .int .u8 0, .int .u8 0, .int .u8 0, .int .u8 0] 83)).trans ((only_setCells w1.heap.size (cellsOf .u8 (bn SV)) 0 _).below (Nat.le_refl _))
    have hB2 := hB1.trans (hbw.mono hB1.size)
    have k3' := (hbw.cell (p := ⟨w.heap.size, 3, none⟩) hlw).trans k3
    have hTT := toTag_any tg ((w1.alloc (.cells #[.int .u8 0, .int .u8 0, .int .u8 0, .int .u8 0, .int .u8 0, .int .u8 0, .int .u8 0, .int .u8 0, .int .u8 0, .int .u8 0, .int .u8 0, .int .u8 0, .int .u8 0, .int .u8 0, .int .u8 0, .int .u8 0] 83)).setCells w1.heap.size 0 (cellsOf .u8 (bn SV)))
    have hlW := hHw.lt (by decide)
    go_wp2_with (first
      | (refine wpList_store_holds rfl 83 _ _ rfl w1.heap.size .u8 16 zeroT (bn SV) rfl rfl hHn hnl Tryd.size77 ?_))
    obtain ⟨W2, hW2⟩ : ∃ W, ((w1.alloc (.cells #[.int .u8 0, .int .u8 0, .int .u8 0, .int .u8 0, .int .u8 0, .int .u8 0, .int .u8 0, .int .u8 0, .int .u8 0, .int .u8 0, .int .u8 0, .int .u8 0, .int .u8 0, .int .u8 0, .int .u8 0, .int .u8 0] 83)).setCells w1.heap.size 0 (cellsOf .u8 (bn SV))) = W := ⟨_, rfl⟩
    rw [hW2] at hTT hHw hB2 k3' hlW ⊢
    clear hW2 hbw hHn k3
    refine hTT.mono ?_
    clear hTT
    rintro e w3 ⟨rfl, hb3⟩
    have hB3 := hB2.trans (hb3.mono hB2.size)
    have hHw3 := hHw.below hb3 hlW
    have hHn : Holds (w3.alloc (.cells #[.int .u8 0, .int .u8 0, .int .u8 0, .int .u8 0, .int .u8 0, .int .u8 0, .int .u8 0, .int .u8 0, .int .u8 0, .int .u8 0, .int .u8 0, .int .u8 0, .int .u8 0, .int .u8 0, .int .u8 0, .int .u8 0] 83)) w3.heap.size .u8 16 zeroT := Holds.new w3 .u8 83 16 zeroT rfl
    have hbn : Below w3.heap.size w3 (w3.alloc (.cells #[.int .u8 0, .int .u8 0, .int .u8 0, .int .u8 0, .int .u8 0, .int .u8 0, .int .u8 0, .int .u8 0, .int .u8 0, .int .u8 0, .int .u8 0, .int .u8 0, .int .u8 0, .int .u8 0, .int .u8 0, .int .u8 0] 83)) := (Below.refl _ w3).alloc (Nat.le_refl _) _
    have hlW3 := Nat.lt_of_lt_of_le hlW hb3.size
    by_cases h16 : tg.length = 16
    · rw [if_pos h16, decide_eq_true h16]
      have hbl : (bn tg).length = 16 := by rw [bn_len, h16]
      have hHg := hHn.sets (bn tg) hbl
      have hbo : Below w3.heap.size w3 ((w3.alloc (.cells #[.int .u8 0, .int .u8 0, .int .u8 0, .int .u8 0, .int .u8 0, .int .u8 0, .int .u8 0, .int .u8 0, .int .u8 0, .int .u8 0, .int .u8 0, .int .u8 0, .int .u8 0, .int .u8 0, .int .u8 0, .int .u8 0] 83)).setCells w3.heap.size 0 (cellsOf .u8 (bn tg))) := hbn.trans ((only_setCells w3.heap.size _ _ _).below (Nat.le_refl _))
      have hHv := hHw3.below hbo hlW3
      have hB4 := hB3.trans (hbo.mono hB3.size)
      have heq := eqarr tg SV h16 (by rw [bn_len] at hnl; exact hnl) ((w3.alloc (.cells #[.int .u8 0, .int .u8 0, .int .u8 0, .int .u8 0, .int .u8 0, .int .u8 0, .int .u8 0, .int .u8 0, .int .u8 0, .int .u8 0, .int .u8 0, .int .u8 0, .int .u8 0, .int .u8 0, .int .u8 0, .int .u8 0] 83)).setCells w3.heap.size 0 (cellsOf .u8 (bn tg)))
      by_cases hts : tg = SV
      · have HE : Hid (RR = 0) := by show RR = 0; rw [← HRR.out, if_pos hts]
        rw [decide_eq_true hts] at heq
        clear hts
        go_wp2_with (first
          | (refine wpList_store_holds rfl 83 _ _ rfl w3.heap.size .u8 16 zeroT (bn tg) rfl rfl hHn hbl Tryd.size77 ?_)
          | (refine wpList_load_holds_g 83 _ rfl w3.heap.size rfl .u8 16 (bn tg) _ hHg Tryd.underlying83 rfl Tryd.size77 rfl ?_)
          | (refine wpList_load_holds_g 83 _ rfl w1.heap.size rfl .u8 16 (bn SV) _ hHv Tryd.underlying83 rfl Tryd.size77 rfl ?_))
        go_ret
        rw [HE.out]
        exact ⟨rfl, hB4⟩
      · have HE : Hid (RR = 30) := by show RR = 30; rw [← HRR.out, if_neg hts]
        rw [decide_eq_false hts] at heq
        clear hts
        go_wp2_with (first
          | (refine wpList_store_holds rfl 83 _ _ rfl w3.heap.size .u8 16 zeroT (bn tg) rfl rfl hHn hbl Tryd.size77 ?_)
          | (refine wpList_load_holds_g 83 _ rfl w3.heap.size rfl .u8 16 (bn tg) _ hHg Tryd.underlying83 rfl Tryd.size77 rfl ?_)
          | (refine wpList_load_holds_g 83 _ rfl w1.heap.size rfl .u8 16 (bn SV) _ hHv Tryd.underlying83 rfl Tryd.size77 rfl ?_))
        go_ret
        rw [HE.out]
        exact ⟨rfl, hB4⟩
    · rw [if_neg h16, decide_eq_false h16]
      have hne : ¬ tg = SV := by rintro rfl; rw [bn_len] at hnl; exact h16 hnl
      have HNE : Hid (RR = 30) := by show RR = 30; rw [← HRR.out, if_neg hne]
      obtain ⟨zz, hzz⟩ : ∃ zz, zeroT = zz := ⟨_, rfl⟩
      have hzl : zz.length = 16 := by rw [← hzz]; rfl
      rw [hzz] at hHn ⊢
      have hbo : Below w3.heap.size w3 ((w3.alloc (.cells #[.int .u8 0, .int .u8 0, .int .u8 0, .int .u8 0, .int .u8 0, .int .u8 0, .int .u8 0, .int .u8 0, .int .u8 0, .int .u8 0, .int .u8 0, .int .u8 0, .int .u8 0, .int .u8 0, .int .u8 0, .int .u8 0] 83)).setCells w3.heap.size 0 (cellsOf .u8 zz)) := hbn.trans ((only_setCells w3.heap.size (cellsOf .u8 zz) 0 (w3.alloc (.cells #[.int .u8 0, .int .u8 0, .int .u8 0, .int .u8 0, .int .u8 0, .int .u8 0, .int .u8 0, .int .u8 0, .int .u8 0, .int .u8 0, .int .u8 0, .int .u8 0, .int .u8 0, .int .u8 0, .int .u8 0, .int .u8 0] 83))).below (Nat.le_refl _))
      have hB4 := hB3.trans (hbo.mono hB3.size)
      clear hzz
      go_wp2_with (first
        | (refine wpList_store_holds rfl 83 _ _ rfl w3.heap.size .u8 16 zz zz rfl rfl hHn hzl Tryd.size77 ?_))
      go_ret
      rw [HNE.out]
      exact ⟨rfl, hB4⟩
  · have hcE : checkE seed g n t tg = tagErr seed g n := by rw [checkE, if_pos h0]
    have hq : (tagErr seed g n != 0) = true := by simpa using h0
    rw [hcE]
    obtain ⟨E, hE⟩ : ∃ E, tagErr seed g n = E := ⟨_, rfl⟩
    rw [hE] at hT hq ⊢
    obtain ⟨TN, hTN⟩ : ∃ TN, tagNum seed g n t = TN := ⟨_, rfl⟩
    rw [hTN] at hT hnl
    clear hTN hE h0 hcE
    go_enter Tryd.func18, Tryd.ntmps18
    go_wp2_with fail
    refine hT.mono ?_
    clear hT
    rintro e w1 ⟨rfl, hb2⟩
    have hB1 := hb1.trans (hb2.mono hb1.size)
    have hHn : Holds (w1.alloc (.cells #[.int .u8 0, .int .u8 0, .int .u8 0, .int .u8 0, .int .u8 0, .int .u8 0, .int .u8 0, .int .u8 0, .int .u8 0, .int .u8 0, .int .u8 0, .int .u8 0, .int .u8 0, .int .u8 0, .int .u8 0, .int .u8 0] 83)) w1.heap.size .u8 16 zeroT := Holds.new w1 .u8 83 16 zeroT rfl
    have hbw := hB1.trans ((((Below.refl w1.heap.size w1).alloc (Nat.le_refl _) (.cells #[.int .u8 0, .int .u8 0, .int .u8 0, .int .u8 0, .int .u8 0, .int .u8 0, .int .u8 0, .int .u8 0, .int .u8 0, .int .u8 0, .int .u8 0, .int .u8 0, .int .u8 0, .int .u8 0, .int .u8 0, .int .u8 0] 83)).trans ((only_setCells w1.heap.size (cellsOf .u8 TN) 0 (w1.alloc (.cells #[.int .u8 0, .int .u8 0, .int .u8 0, .int .u8 0, .int .u8 0, .int .u8 0, .int .u8 0, .int .u8 0, .int .u8 0, .int .u8 0, .int .u8 0, .int .u8 0, .int .u8 0, .int .u8 0, .int .u8 0, .int .u8 0] 83))).below (Nat.le_refl _))).mono hB1.size)
    go_wp2_with (first
      | (refine wpList_store_holds rfl 83 _ _ rfl w1.heap.size .u8 16 zeroT TN rfl rfl hHn hnl Tryd.size77 ?_))
    go_ret
    exact ⟨rfl, hbw⟩
end Go.Proofs.YtoniohmceaflnaaDoor
