/- Shards: Install, walked. -/
import Derived.Test.YtgmobjdjojffgaaDoorSdS
namespace Go.Proofs.YtgmobjdjojffgaaDoor
open Go.RowKit
attribute [local go_sem ↓] Go.wp_at_zero Go.wp_at_succ

set_option maxRecDepth 20000 in
theorem Install_state {w : World} {B : Nat} {s : Sh} {T : Nat} {v : Value} (h : ShAt w B s T v) (h1 : s.st ≠ 3) (t : List UInt8) : Calls Tryd.prog 18 #[.pointer (some ⟨B, 0, none⟩), .string (bs t)] w fun e W' => e = .returned (.int .i64 7) ∧ W' = w := by
  have hS := Status_any h
  have hne : (s.st != 3) = true := by simpa using h1
  clear h h1
  go_enter Tryd.func18, Tryd.ntmps18
  go_wp2_with (first | (go_at_call 21; refine hS.mono ?_; clear hS; rintro e w1 ⟨rfl, h9⟩; subst h9))
  go_ret
  exact ⟨rfl, rfl⟩
/-- A variable of holdings, laid. -/
theorem var_lay (w1 : World) {Z L : List Value} (hZ : Z.length = 25) (hL : L.length = 25) : (w1.alloc (.cells Z.toArray 69)).there w1.heap.size 0 L.toArray.size ∧ ((w1.alloc (.cells Z.toArray 69)).setCells w1.heap.size 0 L).rangeAt w1.heap.size 0 L ∧ Below w1.heap.size w1 ((w1.alloc (.cells Z.toArray 69)).setCells w1.heap.size 0 L) ∧ ((w1.alloc (.cells Z.toArray 69)).setCells w1.heap.size 0 L).heap.size = w1.heap.size + 1 := by
  obtain ⟨a, b, c⟩ := res_lay (w := w1) (W := w1.alloc (.cells Z.toArray 69)) hZ (Below.refl _ _) L hL
  obtain ⟨m1, _⟩ := setCells_more w1.heap.size L 0 (w1.alloc (.cells Z.toArray 69))
  exact ⟨a, b, c, by rw [m1]; simp⟩
set_option maxRecDepth 20000 in
set_option maxHeartbeats 1000000 in
theorem Install_bad {w : World} (he : Env w) {B : Nat} {s : Sh} {T : Nat} {v : Value} (h : ShAt w B s T v) (h1 : s.st = 3) (t : List UInt8) (ht : t.length ≤ 1000000) (hn : loadC t = none) : Calls Tryd.prog 18 #[.pointer (some ⟨B, 0, none⟩), .string (bs t)] w fun e W' => e = .returned (.int .i64 4) ∧ Below w.heap.size w W' := by
  have hz := Tryd.zero69
  have hS := Status_any h
  rw [h1] at hS
  have hD := loadC_any t w ht he
  rw [hn] at hD
  have hZ : (Value.pointer none :: C24).length = 25 := by rw [List.length_cons, C24_len]
  have HA : Hid ((Value.pointer none :: C24).toArray.all (·.oneCell') = true) := all_oneCell_toArray (hcs_one sh0 0)
  have HS : Hid ((Tryd.prog.info? 69).map (·.size) = some (Value.pointer none :: C24).toArray.size) := by show _ = _; rw [List.size_toArray, hZ]; exact Tryd.size69
  have HV : Hid (∀ w1 : World, (w1.alloc (.cells (Value.pointer none :: C24).toArray 69)).there w1.heap.size 0 (Value.pointer none :: C24).toArray.size ∧ ((w1.alloc (.cells (Value.pointer none :: C24).toArray 69)).setCells w1.heap.size 0 (Value.pointer none :: C24)).rangeAt w1.heap.size 0 (Value.pointer none :: C24) ∧ Below w1.heap.size w1 ((w1.alloc (.cells (Value.pointer none :: C24).toArray 69)).setCells w1.heap.size 0 (Value.pointer none :: C24)) ∧ ((w1.alloc (.cells (Value.pointer none :: C24).toArray 69)).setCells w1.heap.size 0 (Value.pointer none :: C24)).heap.size = w1.heap.size + 1) := fun w1 => var_lay w1 hZ hZ
  have hD2 : Calls Tryd.prog 28 #[.string (bs t)] w fun e W' => e = .returned (.tuple #[.agg (.pointer none :: C24).toArray, .int .i64 4]) ∧ Below w.heap.size w W' := hD
  clear hD
  obtain ⟨C, hC⟩ : ∃ C, C24 = C := ⟨_, rfl⟩
  rw [hC] at hz hD2 HA HS HV
  clear hC h h1 hn hZ he ht
  go_enter Tryd.func18, Tryd.ntmps18
  go_wp2_with (first
    | (go_at_call 21; refine hS.mono ?_; clear hS; rintro e w1 ⟨rfl, h9⟩; subst h9)
    | (go_at_call 28; refine hD2.mono ?_; clear hD2; rintro e w1 ⟨rfl, hb⟩; have hv := HV.out w1)
    | (refine wpList_store_mid rfl 69 _ _ rfl w1.heap.size 0 (Value.pointer none :: C).toArray rfl rfl hv.1 HS.out HA.out ?_))
  go_ret
  exact ⟨rfl, hb.trans (hv.2.2.1.mono hb.size)⟩
/-- Behind Install. -/
def InPost (w : World) (B : Nat) (l : List Rw) (c : Nat → La) (W' : World) : Prop := ∃ T v, ShAt W' B ⟨1, l, c⟩ T v ∧ w.heap.size ≤ T ∧ (∀ k, v.ownBlock = some k → w.heap.size ≤ k) ∧ Mv B w W'
theorem in_end {w W : World} {B T : Nat} {s : Sh} {T0 : Nat} {v0 v : Value} {l : List Rw} {c : Nat → La} (h : ShAt w B s T0 v0) (hb : Below w.heap.size w W) (hT : TabAt W T l v) (hTB : w.heap.size ≤ T) (hO : ∀ k, v.ownBlock = some k → w.heap.size ≤ k) :
    InPost w B l c (((W.setCell ⟨B, 0, none⟩ (.int .i64 1)).drew).setCells B 1 (.pointer (some ⟨T, 0, none⟩) :: ccs c)) := by
  have hW := h.on hb
  have hlt := h.lt
  have hl : Laid W B 1 (hcs ⟨1, l, c⟩ T) (((W.setCell ⟨B, 0, none⟩ (.int .i64 1)).drew).setCells B 1 (hcs ⟨1, l, c⟩ T)) := laid_end hW (below_drew (Below.refl _ _)) 1 (hcs_len _ _)
  exact ⟨T, v, Laid.sh (s' := ⟨1, l, c⟩) hl hW.lt (fun _ => ⟨hT, by omega, fun k e => by have := hO k e; omega⟩) (fun e => by cases e), hTB, hO, (Mv.of_below hb B).trans hl.mv⟩
set_option maxRecDepth 20000 in
set_option maxHeartbeats 1000000 in
theorem Install_ok {w : World} (he : Env w) {B : Nat} {s : Sh} {T0 : Nat} {v0 : Value} (h : ShAt w B s T0 v0) (h1 : s.st = 3) (t : List UInt8) (ht : t.length ≤ 1000000) (l : List Rw) (c : Nat → La) (hn : loadC t = some (l, c)) : Calls Tryd.prog 18 #[.pointer (some ⟨B, 0, none⟩), .string (bs t)] w fun e W' => e = .returned (.int .i64 0) ∧ InPost w B l c W' := by
  have hz := Tryd.zero69
  have hS := Status_any h
  rw [h1] at hS
  have hD := loadC_any t w ht he
  rw [hn] at hD
  have hZ : (Value.pointer none :: C24).length = 25 := by rw [List.length_cons, C24_len]
  have hlt := h.lt
  have HA : Hid (∀ T, (Value.pointer (some ⟨T, 0, none⟩) :: ccs c).toArray.all (·.oneCell') = true) := fun T => all_oneCell_toArray (hcs_one ⟨1, [], c⟩ T)
  have HS : Hid (∀ T, (Tryd.prog.info? 69).map (·.size) = some (Value.pointer (some ⟨T, 0, none⟩) :: ccs c).toArray.size) := fun T => by rw [List.size_toArray, List.length_cons, ccs_len]; exact Tryd.size69
  have HSl : Hid (∀ T, (Tryd.prog.info? 69).map (·.size) = some (Value.pointer (some ⟨T, 0, none⟩) :: ccs c).length) := fun T => by rw [List.length_cons, ccs_len]; exact Tryd.size69
  have HV : Hid (∀ (w1 : World) (T : Nat), (w1.alloc (.cells (Value.pointer none :: C24).toArray 69)).there w1.heap.size 0 (Value.pointer (some ⟨T, 0, none⟩) :: ccs c).toArray.size ∧ ((w1.alloc (.cells (Value.pointer none :: C24).toArray 69)).setCells w1.heap.size 0 (Value.pointer (some ⟨T, 0, none⟩) :: ccs c)).rangeAt w1.heap.size 0 (Value.pointer (some ⟨T, 0, none⟩) :: ccs c) ∧ Below w1.heap.size w1 ((w1.alloc (.cells (Value.pointer none :: C24).toArray 69)).setCells w1.heap.size 0 (Value.pointer (some ⟨T, 0, none⟩) :: ccs c)) ∧ ((w1.alloc (.cells (Value.pointer none :: C24).toArray 69)).setCells w1.heap.size 0 (Value.pointer (some ⟨T, 0, none⟩) :: ccs c)).heap.size = w1.heap.size + 1) := fun w1 T => var_lay w1 hZ (by rw [List.length_cons, ccs_len])
  have hD2 : Calls Tryd.prog 28 #[.string (bs t)] w fun e W' => ∃ T v, e = .returned (.tuple #[.agg (.pointer (some ⟨T, 0, none⟩) :: ccs c).toArray, .int .i64 0]) ∧ w.heap.size ≤ T ∧ TabAt W' T l v ∧ (∀ k, v.ownBlock = some k → w.heap.size ≤ k) ∧ Below w.heap.size w W' := hD
  have HSh : Hid (∀ W, Below w.heap.size w W → ShAt W B s T0 v0) := fun W hb => h.on hb
  have HEnd : Hid (∀ W T v, Below w.heap.size w W → TabAt W T l v → w.heap.size ≤ T → (∀ k, v.ownBlock = some k → w.heap.size ≤ k) → InPost w B l c (((W.setCell ⟨B, 0, none⟩ (.int .i64 1)).drew).setCells B 1 (.pointer (some ⟨T, 0, none⟩) :: ccs c))) := fun W T v hb hT hTB hO => in_end h hb hT hTB hO
  clear hD
  obtain ⟨C, hC⟩ : ∃ C, C24 = C := ⟨_, rfl⟩
  rw [hC] at hz HV
  obtain ⟨K, hK⟩ : ∃ K, ccs c = K := ⟨_, rfl⟩
  have HKL : Hid (K.length = 24) := by show _ = _; rw [← hK]; exact ccs_len c
  rw [hK] at HA HS HSl HV hD2 HEnd
  clear hC h hn hZ he ht hK
  go_enter Tryd.func18, Tryd.ntmps18
  go_upto_region 4 with (first
    | (go_at_call 21; refine hS.mono ?_; clear hS; rintro e w9 ⟨rfl, h9⟩; subst w9)
    | (go_at_call 28; refine hD2.mono ?_; clear hD2; rintro e w1 ⟨T, v, rfl, hTB, hTab, hOwn, hb⟩; have hv := HV.out w1 T)
    | (refine wpList_store_mid rfl 69 _ _ rfl w1.heap.size 0 (Value.pointer (some ⟨T, 0, none⟩) :: K).toArray rfl rfl hv.1 (HS.out T) (HA.out T) ?_))
  have hbA := hb.trans (hv.2.2.1.mono hb.size)
  have hrg := hv.2.1
  have hTabA := hTab.on hv.2.2.1
  obtain ⟨L, hL⟩ : ∃ L, Value.pointer (some ⟨T, 0, none⟩) :: K = L := ⟨_, rfl⟩
  have HLL : Hid (L.length = 25) := by show _ = _; rw [← hL, List.length_cons, HKL.out]
  obtain ⟨WA, hWA⟩ : ∃ W, (w1.alloc (.cells (Value.pointer none :: C).toArray 69)).setCells w1.heap.size 0 (Value.pointer (some ⟨T, 0, none⟩) :: K) = W := ⟨_, rfl⟩
  rw [hWA] at hbA hrg hTabA ⊢
  have HE : Hid (InPost w B l c (((WA.setCell ⟨B, 0, none⟩ (.int .i64 1)).drew).setCells B 1 L)) := by
    rw [← hL]
    exact HEnd.out WA T v hbA hTabA hTB hOwn
  rw [hL] at hrg ⊢
  have hW := HSh.out _ hbA
  obtain ⟨N1, hN1⟩ : ∃ N, w1.heap.size = N := ⟨_, rfl⟩
  have hNB : N1 ≠ B := by have := hb.size; omega
  rw [hN1] at hrg ⊢
  have hcA : WA.cell? ⟨B, 0, none⟩ = some (.int .i64 3) := by rw [hW.c0, h1]
  have hfA : WA.frozen? ⟨B, 0, none⟩ = false := hW.fz 0
  have HTH : Hid ((WA.setCell ⟨B, 0, none⟩ (.int .i64 1)).drew.there B 1 L.toArray.size) := fun j hj => by
    have e1 : (WA.setCell ⟨B, 0, none⟩ (.int .i64 1)).cell? ⟨B, 1 + j, none⟩ = WA.cell? ⟨B, 1 + j, none⟩ := World.cell?_setCells_out B [.int .i64 1] 0 _ ⟨B, 1 + j, none⟩ (fun _ _ => .inr (by simp))
    have e2 : (WA.setCell ⟨B, 0, none⟩ (.int .i64 1)).frozen? ⟨B, 1 + j, none⟩ = WA.frozen? ⟨B, 1 + j, none⟩ := World.frozen?_setCells B [.int .i64 1] 0 _ ⟨B, 1 + j, none⟩
    have hj' : j < 25 := by simpa [HLL.out] using hj
    obtain ⟨x, hx⟩ : ∃ x, (hcs s T0)[j]? = some x := ⟨_, List.getElem?_eq_getElem (by rw [hcs_len]; exact hj')⟩
    refine ⟨?_, e2.trans (hW.fz _)⟩
    show ((WA.setCell ⟨B, 0, none⟩ (.int .i64 1)).cell? ⟨B, 1 + j, none⟩).isSome = true
    rw [e1, hW.ch j x hx]
    rfl
  have HS1 : Hid ((Tryd.prog.info? 69).map (·.size) = some L.length) := by
    rw [← hL]
    exact HSl.out T
  have HS2 : Hid ((Tryd.prog.info? 69).map (·.size) = some L.toArray.size) := by
    rw [← hL]
    exact HS.out T
  have HAL : Hid (L.toArray.all (·.oneCell') = true) := by
    rw [← hL]
    exact HA.out T
  have HRG : Hid (WA.drew.rangeAt N1 0 L) := hrg
  have HRG2 : Hid ((WA.setCell ⟨B, 0, none⟩ (.int .i64 1)).drew.rangeAt N1 0 L) := World.rangeAt_setCells_apart (w := WA) hrg B 0 [.int .i64 1] (.inl hNB)
  clear hrg hW hbA hTabA hTab hv hWA hL hTB hOwn HSh HEnd HV HSl HS HA
  go_upto_region 6 with fail
  refine wp_region_any (by kernel_rfl) ?_
  change wpAny _ _ _ _ _ _ _ (World.drew _)
  refine wpAny_take (i := 0) (v := ?_) rfl (by kernel_rfl) (by kernel_rfl) (by kernel_rfl) (fun _ _ _ h => h) (Or.inl ⟨by rfl, ?_⟩) ?_
  rotate_left
  · intro w
    go_simp
    with_reducible rfl
  refine wpAny_take (i := 1) (v := ?_) rfl (by kernel_rfl) (by kernel_rfl) (by kernel_rfl) (fun _ _ _ h => h) (Or.inl ⟨by rfl, ?_⟩) ?_
  rotate_left
  · intro w
    go_simp
    with_reducible rfl
  refine wpAny_take (i := 3) (v := ?_) rfl (by kernel_rfl) (by kernel_rfl) (by kernel_rfl) (fun _ _ _ h => h) (Or.inl ⟨by rfl, ?_⟩) ?_
  rotate_left
  · intro w
    go_simp
    with_reducible rfl
  refine wpAny_take (i := 4) (v := ?_) rfl (by kernel_rfl) (by kernel_rfl) (by kernel_rfl) (fun _ _ _ h => h) (Or.inl ⟨by rfl, ?_⟩) ?_
  rotate_left
  · intro w
    go_simp
    with_reducible rfl
  refine wpAny_ready (rs := [2, 5]) (by kernel_rfl) (by simp) ?_
  refine AllReady.cons rfl (fun K hK => ?_) (AllReady.cons rfl (fun K hK => ?_) AllReady.nil)
  · refine step_load_mid (by rfl) 69 _ (by rfl) N1 0 (by rfl) L _ HRG.out Tryd.underlying69 rfl HS1.out ?_
    refine hK _ _ ?_
    clear hK K
    refine wpAny_ready (rs := [5]) (by kernel_rfl) (by simp) ?_
    refine AllReady.cons rfl (fun K hK => ?_) AllReady.nil
    go_simp
    refine hK _ _ ?_
    clear hK K
    refine wpAny_take (i := 6) (v := ?_) rfl (by kernel_rfl) (by kernel_rfl) (by kernel_rfl) (fun _ _ _ h => h) (Or.inl ⟨by rfl, ?_⟩) ?_
    rotate_left
    · intro w
      go_simp
      with_reducible rfl
    refine wpAny_take (i := 7) (v := ?_) rfl (by kernel_rfl) (by kernel_rfl) (by kernel_rfl) (fun _ _ _ h => h) (Or.inl ⟨by rfl, ?_⟩) ?_
    rotate_left
    · intro w
      go_simp
      with_reducible rfl
    refine wpAny_ready (rs := [8]) (by kernel_rfl) (by simp) ?_
    refine AllReady.cons rfl (fun K hK => ?_) AllReady.nil
    refine step_store_mid (by rfl) 69 _ _ (by rfl) B 1 L.toArray (by rfl) (by rfl) HTH.out HS2.out HAL.out ?_
    refine hK _ _ ?_
    clear hK K
    refine wpAny_done (by kernel_rfl) ?_ _
    go_wp2
    go_ret
    exact ⟨rfl, HE.out⟩
  · go_simp
    refine hK _ _ ?_
    clear hK K
    refine wpAny_ready (rs := [2]) (by kernel_rfl) (by simp) ?_
    refine AllReady.cons rfl (fun K hK => ?_) AllReady.nil
    refine step_load_mid (by rfl) 69 _ (by rfl) N1 0 (by rfl) L _ HRG2.out Tryd.underlying69 rfl HS1.out ?_
    refine hK _ _ ?_
    clear hK K
    refine wpAny_take (i := 6) (v := ?_) rfl (by kernel_rfl) (by kernel_rfl) (by kernel_rfl) (fun _ _ _ h => h) (Or.inl ⟨by rfl, ?_⟩) ?_
    rotate_left
    · intro w
      go_simp
      with_reducible rfl
    refine wpAny_take (i := 7) (v := ?_) rfl (by kernel_rfl) (by kernel_rfl) (by kernel_rfl) (fun _ _ _ h => h) (Or.inl ⟨by rfl, ?_⟩) ?_
    rotate_left
    · intro w
      go_simp
      with_reducible rfl
    refine wpAny_ready (rs := [8]) (by kernel_rfl) (by simp) ?_
    refine AllReady.cons rfl (fun K hK => ?_) AllReady.nil
    refine step_store_mid (by rfl) 69 _ _ (by rfl) B 1 L.toArray (by rfl) (by rfl) HTH.out HS2.out HAL.out ?_
    refine hK _ _ ?_
    clear hK K
    refine wpAny_done (by kernel_rfl) ?_ _
    go_wp2
    go_ret
    exact ⟨rfl, HE.out⟩
end Go.Proofs.YtgmobjdjojffgaaDoor
