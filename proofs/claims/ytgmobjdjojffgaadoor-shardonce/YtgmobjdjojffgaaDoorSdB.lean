/- Shards: turn, Begin, Pull, Freeze, Drop, walked. -/
import Derived.Test.YtgmobjdjojffgaaDoorSdA
namespace Go.Proofs.YtgmobjdjojffgaaDoor
open Go.RowKit
attribute [local go_sem ↓] Go.wp_at_zero Go.wp_at_succ

theorem step_load_mid {P : Program} {w : World} {ops : Array Oper} {op : Oper} {a : Act} {K : Act → World → Prop} {Q : Exit → Act → World → Prop} {E : Prop} (hgd : op.guard = none) (ty : TypeId) (x : Operand) (ho : op.op = .load ty x)
    (b o : Nat) (hx : a.eval x = .pointer (some ⟨b, o, none⟩)) (cs : List Value) (d : TypeDesc) (hc : w.rangeAt b o cs)
    (hu : P.underlying ty = some d) (hd : d.isRow = true) (hi : (P.info? ty).map (·.size) = some cs.length)
    (h : K (a.put op.dst (.agg cs.toArray)) w) : if Region.wanted op (yielded ops a.tmps) = true then Oper.wp P op a w K Q else E := by
  have hw : Region.wanted op (yielded ops a.tmps) = true := by simp [Region.wanted, hgd]
  rw [if_pos hw]
  exact wp_load_mid ty x ho b o hx cs d hc hu hd hi h
theorem step_store_mid {P : Program} {w : World} {ops : Array Oper} {op : Oper} {a : Act} {K : Act → World → Prop} {Q : Exit → Act → World → Prop} {E : Prop} (hgd : op.guard = none) (ty : TypeId) (x y : Operand) (ho : op.op = .store ty x y)
    (b o : Nat) (cells : Array Value) (hx : a.eval x = .pointer (some ⟨b, o, none⟩)) (hy : a.eval y = .agg cells)
    (ht : w.there b o cells.size) (hi : (P.info? ty).map (·.size) = some cells.size) (h1 : cells.all (·.oneCell') = true)
    (h : K (a.put op.dst undef) (w.setCells b o cells.toList)) : if Region.wanted op (yielded ops a.tmps) = true then Oper.wp P op a w K Q else E := by
  have hw : Region.wanted op (yielded ops a.tmps) = true := by simp [Region.wanted, hgd]
  rw [if_pos hw]
  exact wp_store_mid ty x y ho b o cells hx hy ht hi h1 h
theorem Tryd.size69 : (Tryd.prog.info? 69).map (·.size) = some 25 := by kernel_rfl
/-- What a holding that was laid looks like: a block of 25 cells. -/
theorem range_new (w : World) (L : List Value) (t : TypeId) : (w.alloc (.cells L.toArray t)).rangeAt w.heap.size 0 L := fun j x hx => by
  rw [Nat.zero_add]
  exact cellB (heap_alloc_new w _) j x (by simpa using hx)
set_option maxRecDepth 20000 in
set_option maxHeartbeats 1000000 in
theorem turn_nil (fr tt : Int) (L : List Value) (w : World) : Calls Tryd.prog 36 #[.pointer none, .int .i64 fr, .int .i64 tt, .agg L.toArray] w fun e W' => e = .returned (.int .i64 7) ∧ Below w.heap.size w W' := by
  go_enter Tryd.func36, Tryd.ntmps36
  go_wp2
  go_ret
  exact ⟨rfl, (Below.refl _ _).alloc (Nat.le_refl _) _⟩
set_option maxRecDepth 20000 in
set_option maxHeartbeats 1000000 in
theorem turn_no {w : World} {B : Nat} {s : Sh} {T : Nat} {v : Value} (h : ShAt w B s T v) {fr : Int} (hf : s.st ≠ fr) (tt : Int) (L : List Value) : Calls Tryd.prog 36 #[.pointer (some ⟨B, 0, none⟩), .int .i64 fr, .int .i64 tt, .agg L.toArray] w fun e W' => e = .returned (.int .i64 7) ∧ Below w.heap.size w W' := by
  have hc := h.c0
  have hlt := h.lt
  have hne : (s.st != fr) = true := by simpa using hf
  clear h
  go_enter Tryd.func36, Tryd.ntmps36
  go_wp2
  go_ret
  exact ⟨rfl, (Below.refl _ _).alloc (Nat.le_refl _) _⟩
/-- A shard that was laid anew. -/
structure Laid (w : World) (B : Nat) (tt : Int) (L : List Value) (W' : World) : Prop where
  c0 : W'.cell? ⟨B, 0, none⟩ = some (.int .i64 tt)
  ch : W'.rangeAt B 1 L
  fz : ∀ j, W'.frozen? ⟨B, j, none⟩ = false
  mv : Mv B w W'
theorem setCells_heap (b : Nat) : ∀ (vs : List Value) (o : Nat) (w : World) (k : Nat), k ≠ b → (w.setCells b o vs).heap[k]? = w.heap[k]?
  | [], _, _, _, _ => rfl
  | v :: r, o, w, k, h => by
    rw [World.setCells]
    exact (setCells_heap b r (o + 1) _ k h).trans (set_far h o v)
theorem setCells_more (b : Nat) : ∀ (vs : List Value) (o : Nat) (w : World), (w.setCells b o vs).heap.size = w.heap.size ∧ (w.setCells b o vs).os = w.os ∧ (w.setCells b o vs).tape = w.tape ∧ (w.setCells b o vs).output = w.output
  | [], _, _ => ⟨rfl, rfl, rfl, rfl⟩
  | v :: r, o, w => by
    rw [World.setCells]
    obtain ⟨a, b', c, d⟩ := setCells_more b r (o + 1) (w.setCell ⟨b, o, none⟩ v)
    exact ⟨a.trans (by simp [World.setCell]), b', c, d⟩
theorem laid_end {w W : World} {B : Nat} {s : Sh} {T : Nat} {v : Value} (h : ShAt w B s T v) (hb : Below w.heap.size w W) (tt : Int) {L : List Value} (hL : L.length = 25) : Laid w B tt L ((W.setCell ⟨B, 0, none⟩ (.int .i64 tt)).setCells B 1 L) := by
  have hW := h.on hb
  have hth : (W.setCell ⟨B, 0, none⟩ (.int .i64 tt)).there B 1 25 := fun j hj => by
    have e1 : (W.setCell ⟨B, 0, none⟩ (.int .i64 tt)).cell? ⟨B, 1 + j, none⟩ = W.cell? ⟨B, 1 + j, none⟩ := World.cell?_setCells_out B [.int .i64 tt] 0 W ⟨B, 1 + j, none⟩ (fun _ _ => .inr (by simp))
    have e2 : (W.setCell ⟨B, 0, none⟩ (.int .i64 tt)).frozen? ⟨B, 1 + j, none⟩ = W.frozen? ⟨B, 1 + j, none⟩ := World.frozen?_setCells B [.int .i64 tt] 0 W ⟨B, 1 + j, none⟩
    refine ⟨?_, e2.trans (hW.fz _)⟩
    obtain ⟨x, hx⟩ : ∃ x, (hcs s T)[j]? = some x := ⟨_, List.getElem?_eq_getElem (by rw [hcs_len]; exact hj)⟩
    rw [e1, hW.ch j x hx]
    rfl
  obtain ⟨m1, m2, m3, m4⟩ := setCells_more B L 1 (W.setCell ⟨B, 0, none⟩ (.int .i64 tt))
  refine ⟨?_, World.rangeAt_setCells_same _ B 1 L (by rw [hL]; exact hth), fun j => ?_, m2.trans hb.os, m3.trans hb.tape, m4.trans hb.output, by rw [m1]; simpa [World.setCell] using hb.size, fun k hk hkB => ?_⟩
  · rw [World.cell?_setCells_out B L 1 _ ⟨B, 0, none⟩ (fun _ _ => .inl (by simp))]
    have := World.cell?_setCells_in B [.int .i64 tt] 0 W (fun j hj => by
      have : j = 0 := by simp at hj; omega
      subst this
      rw [hW.c0]
      rfl) 0 (by simp)
    exact this
  · rw [World.frozen?_setCells]
    exact (World.frozen?_setCells B [.int .i64 tt] 0 W ⟨B, j, none⟩).trans (hW.fz j)
  · exact (setCells_heap B L 1 _ k hkB).trans ((set_far hkB _ _).trans (hb.block k hk))
set_option maxRecDepth 20000 in
set_option maxHeartbeats 2000000 in
theorem turn_ok {w : World} {B : Nat} {s : Sh} {T : Nat} {v : Value} (h : ShAt w B s T v) (tt : Int) (L : List Value) (hL : L.length = 25) (h1 : ∀ x ∈ L, x.oneCell' = true) : Calls Tryd.prog 36 #[.pointer (some ⟨B, 0, none⟩), .int .i64 s.st, .int .i64 tt, .agg L.toArray] w fun e W' => e = .returned (.int .i64 0) ∧ Laid w B tt L W' := by
  have hb1 : Below w.heap.size w (w.alloc (.cells L.toArray 69)) := (Below.refl _ _).alloc (Nat.le_refl _) _
  have hrg := range_new w L 69
  have hlt := h.lt
  have hc := h.c0
  have hne : (s.st != s.st) = false := by simp
  obtain ⟨WA, hWA⟩ : ∃ W, w.alloc (.cells L.toArray 69) = W := ⟨_, rfl⟩
  have HWA : Hid (w.alloc (.cells L.toArray 69) = WA) := hWA
  rw [hWA] at hb1 hrg
  have hW := h.on hb1
  have HE : Hid (Laid w B tt L (((WA.setCell ⟨B, 0, none⟩ (.int .i64 tt)).drew).setCells B 1 L)) := laid_end h (below_drew hb1) tt hL
  have hcA : WA.cell? ⟨B, 0, none⟩ = some (.int .i64 s.st) := hW.c0
  have hfA : WA.frozen? ⟨B, 0, none⟩ = false := hW.fz 0
  have HTH : Hid ((WA.setCell ⟨B, 0, none⟩ (.int .i64 tt)).drew.there B 1 L.toArray.size) := fun j hj => by
    have e1 : (WA.setCell ⟨B, 0, none⟩ (.int .i64 tt)).cell? ⟨B, 1 + j, none⟩ = WA.cell? ⟨B, 1 + j, none⟩ := World.cell?_setCells_out B [.int .i64 tt] 0 _ ⟨B, 1 + j, none⟩ (fun _ _ => .inr (by simp))
    have e2 : (WA.setCell ⟨B, 0, none⟩ (.int .i64 tt)).frozen? ⟨B, 1 + j, none⟩ = WA.frozen? ⟨B, 1 + j, none⟩ := World.frozen?_setCells B [.int .i64 tt] 0 _ ⟨B, 1 + j, none⟩
    have hj' : j < 25 := by simpa [hL] using hj
    obtain ⟨x, hx⟩ : ∃ x, (hcs s T)[j]? = some x := ⟨_, List.getElem?_eq_getElem (by rw [hcs_len]; exact hj')⟩
    refine ⟨?_, e2.trans (hW.fz _)⟩
    show ((WA.setCell ⟨B, 0, none⟩ (.int .i64 tt)).cell? ⟨B, 1 + j, none⟩).isSome = true
    rw [e1, hW.ch j x hx]
    rfl
  have HS1 : Hid ((Tryd.prog.info? 69).map (·.size) = some L.length) := by show _ = _; rw [hL]; exact Tryd.size69
  have HS2 : Hid ((Tryd.prog.info? 69).map (·.size) = some L.toArray.size) := by show _ = _; rw [List.size_toArray, hL]; exact Tryd.size69
  have HAL : Hid (L.toArray.all (·.oneCell') = true) := all_oneCell_toArray h1
  have HRG : Hid (WA.drew.rangeAt w.heap.size 0 L) := hrg
  have HRG2 : Hid ((WA.setCell ⟨B, 0, none⟩ (.int .i64 tt)).drew.rangeAt w.heap.size 0 L) := World.rangeAt_setCells_apart (w := WA) hrg B 0 [.int .i64 tt] (.inl (by omega))
  clear h hW hb1 hrg h1 hL hWA
  go_enter Tryd.func36, Tryd.ntmps36
  go_upto_region 1 with fail
  rw [HWA.out]
  clear HWA hc
  go_upto_region 3 with fail
  refine wp_region_any (by kernel_rfl) ?_
  change wpAny _ _ _ _ _ _ _ (World.drew _)
  refine wpAny_take (i := 0) (v := ?_) rfl (by kernel_rfl) (by kernel_rfl) (by kernel_rfl) (fun _ _ _ h => h) (Or.inl ⟨by rfl, ?_⟩) ?_
  rotate_left
  · intro w
    go_simp
    with_reducible rfl
  refine wpAny_take (i := 1) (v := ?_) rfl (by kernel_rfl) (by kernel_rfl) (by kernel_rfl) (fun _ _ _ h => h) (Or.inl ⟨by rfl, ?_⟩) ?_
  rotate_left
  · intro w
    go_simp
    with_reducible rfl
  refine wpAny_take (i := 2) (v := ?_) rfl (by kernel_rfl) (by kernel_rfl) (by kernel_rfl) (fun _ _ _ h => h) (Or.inl ⟨by rfl, ?_⟩) ?_
  rotate_left
  · intro w
    go_simp
    with_reducible rfl
  refine wpAny_take (i := 4) (v := ?_) rfl (by kernel_rfl) (by kernel_rfl) (by kernel_rfl) (fun _ _ _ h => h) (Or.inl ⟨by rfl, ?_⟩) ?_
  rotate_left
  · intro w
    go_simp
    with_reducible rfl
  refine wpAny_take (i := 5) (v := ?_) rfl (by kernel_rfl) (by kernel_rfl) (by kernel_rfl) (fun _ _ _ h => h) (Or.inl ⟨by rfl, ?_⟩) ?_
  rotate_left
  · intro w
    go_simp
    with_reducible rfl
  refine wpAny_ready (rs := [3, 6]) (by kernel_rfl) (by simp) ?_
  refine AllReady.cons rfl (fun K hK => ?_) (AllReady.cons rfl (fun K hK => ?_) AllReady.nil)
  · refine step_load_mid (by rfl) 69 _ (by rfl) w.heap.size 0 (by rfl) L _ HRG.out Tryd.underlying69 rfl HS1.out ?_
    refine hK _ _ ?_
    clear hK K
    refine wpAny_ready (rs := [6]) (by kernel_rfl) (by simp) ?_
    refine AllReady.cons rfl (fun K hK => ?_) AllReady.nil
    go_simp
    refine hK _ _ ?_
    clear hK K
    refine wpAny_take (i := 7) (v := ?_) rfl (by kernel_rfl) (by kernel_rfl) (by kernel_rfl) (fun _ _ _ h => h) (Or.inl ⟨by rfl, ?_⟩) ?_
    rotate_left
    · intro w
      go_simp
      with_reducible rfl
    refine wpAny_take (i := 8) (v := ?_) rfl (by kernel_rfl) (by kernel_rfl) (by kernel_rfl) (fun _ _ _ h => h) (Or.inl ⟨by rfl, ?_⟩) ?_
    rotate_left
    · intro w
      go_simp
      with_reducible rfl
    refine wpAny_ready (rs := [9]) (by kernel_rfl) (by simp) ?_
    refine AllReady.cons rfl (fun K hK => ?_) AllReady.nil
    refine step_store_mid (by rfl) 69 _ _ (by rfl) B 1 L.toArray (by rfl) (by rfl) HTH.out HS2.out HAL.out ?_
    refine hK _ _ ?_
    clear hK K
    refine wpAny_done (by kernel_rfl) ?_ _
    go_wp2
    go_ret
    exact ⟨rfl, HE.out⟩
  · go_simp
    refine hK _ _ ?_
    clear hK K
    refine wpAny_ready (rs := [3]) (by kernel_rfl) (by simp) ?_
    refine AllReady.cons rfl (fun K hK => ?_) AllReady.nil
    refine step_load_mid (by rfl) 69 _ (by rfl) w.heap.size 0 (by rfl) L _ HRG2.out Tryd.underlying69 rfl HS1.out ?_
    refine hK _ _ ?_
    clear hK K
    refine wpAny_take (i := 7) (v := ?_) rfl (by kernel_rfl) (by kernel_rfl) (by kernel_rfl) (fun _ _ _ h => h) (Or.inl ⟨by rfl, ?_⟩) ?_
    rotate_left
    · intro w
      go_simp
      with_reducible rfl
    refine wpAny_take (i := 8) (v := ?_) rfl (by kernel_rfl) (by kernel_rfl) (by kernel_rfl) (fun _ _ _ h => h) (Or.inl ⟨by rfl, ?_⟩) ?_
    rotate_left
    · intro w
      go_simp
      with_reducible rfl
    refine wpAny_ready (rs := [9]) (by kernel_rfl) (by simp) ?_
    refine AllReady.cons rfl (fun K hK => ?_) AllReady.nil
    refine step_store_mid (by rfl) 69 _ _ (by rfl) B 1 L.toArray (by rfl) (by rfl) HTH.out HS2.out HAL.out ?_
    refine hK _ _ ?_
    clear hK K
    refine wpAny_done (by kernel_rfl) ?_ _
    go_wp2
    go_ret
    exact ⟨rfl, HE.out⟩
end Go.Proofs.YtgmobjdjojffgaaDoor
