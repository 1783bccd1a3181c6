/- Chains: Next, walked. -/
import Derived.Test.YtcehmaegnfelhaaChN
import Derived.Test.YtcehmaegnfelhaaChO
namespace Go.Proofs.Ytcehmaegnfelhaa
open Go.RowKit
attribute [local go_sem ↓] Go.wp_at_zero Go.wp_at_succ

/-- Next's error. -/
def nxE (num : Int) (ns os : List Int) (k g s : Int) : Int :=
  if okC num ns os = true then (if isCmd k g s = true then (if fitsB k g s ns os = true then (if num = 1099511627776 then 151 else 0) else 150) else 1) else 4
/-- What a command that fits is. -/
def okK (k g s : Nat) (gs : List Nat) : Prop := 1 ≤ g ∧ g ≤ 4 ∧ (k = 1 ∧ gs.contains g = false ∧ s = 0 ∨ k = 2 ∧ gs.contains g = true ∧ 1 < gs.length ∧ s = 0 ∨ k = 3 ∧ gs.contains g = true ∧ s < 4)
def NxOk (num : Int) (ns os : List Int) (k g s : Int) (w : World) (x : Value) (W' : World) : Prop :=
  ∃ (gs o : List Nat) (K G S : Nat) (v : Value) (p q r t : Nat), ns = zi gs ∧ os = zi o ∧ gs ∈ subs0 ∧ o ∈ owners0 gs ∧ k = K ∧ g = G ∧ s = S ∧ okK K G S gs ∧ 0 ≤ num ∧ num < 1099511627776 ∧ x = .agg (cf (num + 1) v p q r t) ∧ Il W' v (zi (nG K G gs)) ∧ [p, q, r, t] = nO K G S gs o ∧ Fr w.heap.size v ∧ Below w.heap.size w W'
theorem Try.size42 : (Try.prog.info? 42).map (·.size) = some 3 := by kernel_rfl
theorem cmd_of {k g s : Int} {gs : List Nat} {os : List Int} (hc : isCmd k g s = true) (hf : fitsB k g s (zi gs) os = true) : ∃ K G S : Nat, k = K ∧ g = G ∧ s = S ∧ okK K G S gs := by
  unfold isCmd at hc
  simp only [Bool.and_eq_true] at hc
  obtain ⟨⟨h1, h2⟩, h3⟩ := hc
  have h1 := wi_t h1
  have h2 := wi_t h2
  have h3 := wi_t h3
  obtain ⟨K, rfl⟩ : ∃ K : Nat, k = K := ⟨k.toNat, by omega⟩
  obtain ⟨G, rfl⟩ : ∃ G : Nat, g = G := ⟨g.toNat, by omega⟩
  obtain ⟨S, rfl⟩ : ∃ S : Nat, s = S := ⟨s.toNat, by omega⟩
  refine ⟨K, G, S, rfl, rfl, rfl, by omega, by omega, ?_⟩
  unfold fitsB at hf
  rw [isIn_zi, zi_len] at hf
  have : K = 1 ∨ K = 2 ∨ K = 3 := by omega
  rcases this with rfl | rfl | rfl
  · rw [if_pos (show ((1 : Nat) : Int) = 1 from rfl)] at hf
    rw [if_neg (by decide)] at h3
    exact .inl ⟨rfl, by simpa using hf, by omega⟩
  · rw [if_neg (by decide), if_pos (show ((2 : Nat) : Int) = 2 from rfl)] at hf
    rw [if_neg (by decide)] at h3
    simp only [Bool.and_eq_true, decide_eq_true_eq] at hf
    exact .inr (.inl ⟨rfl, hf.1, hf.2, by omega⟩)
  · rw [if_neg (by decide), if_neg (by decide)] at hf
    rw [if_pos (show ((3 : Nat) : Int) = 3 from rfl)] at h3
    simp only [Bool.and_eq_true] at hf
    exact .inr (.inr ⟨rfl, hf.1, by omega⟩)
theorem done_any (num : Int) (hn0 : 0 ≤ num) (hn1 : num < 1099511627776) (gv : Value) (gs : List Nat) (a b c d k g s : Nat) (w : World) (hu : Il w gv (zi gs)) (hg : gs ∈ subs0) (ho : [a, b, c, d] ∈ owners0 gs) (hk : okK k g s gs) :
    Calls Try.prog 33 #[.agg (cf num gv a b c d), .agg #[.int .i64 k, .int .i64 g, .int .i64 s]] w fun e W' => ∃ (v : Value) (p q r t : Nat), e = .returned (.agg (cf (num + 1) v p q r t)) ∧ Il W' v (zi (nG k g gs)) ∧ [p, q, r, t] = nO k g s gs [a, b, c, d] ∧ Fr w.heap.size v ∧ Below w.heap.size w W' := by
  obtain ⟨h1, h4, ⟨rfl, h5, _⟩ | ⟨rfl, h5, h6, _⟩ | ⟨rfl, h5, h6⟩⟩ := hk
  · exact done_join num hn0 hn1 gv gs a b c d g s w hu hg ho h1 h4 h5
  · exact done_leave num hn0 hn1 gv gs a b c d g s w hu hg ho h1 h4 h5 h6
  · exact done_move num hn0 hn1 gv gs a b c d g s w hu hg h6
theorem keepB {k : Nat} {args : Array Value} {v : Value} {W0 W : World} (hC : Calls Try.prog k args W fun e W' => e = .returned v ∧ Below W.heap.size W W') (hW : Below W0.heap.size W0 W) : Calls Try.prog k args W fun e W' => e = .returned v ∧ Below W0.heap.size W0 W' := by
  refine hC.mono ?_
  rintro e W' ⟨rfl, hb⟩
  exact ⟨rfl, hW.trans (hb.mono hW.size)⟩
theorem Il_keep {w : World} {v : Value} {ns : List Int} {b : Nat} {L : List Value} {o : Nat} (h : Il w v ns) (hk : ∀ k, v.ownBlock = some k → b < k) : Il (w.setCells b o L) v ns := by
  rcases h with h | ⟨b0, o0, cp, rfl, hlt, hc⟩
  · exact .inl h
  · refine .inr ⟨b0, o0, cp, rfl, by rw [blk_size]; exact hlt, fun i n hn => ?_⟩
    have := hk b0 rfl
    exact (World.cell?_of_block (a := ⟨b0, o0 + i, none⟩) (blk_far (show b0 ≠ b by omega) _ _ _)).trans (hc i n hn)
set_option maxRecDepth 20000 in
set_option maxHeartbeats 4000000 in
theorem Next_form (num : Int) (gv : Value) (ns : List Int) (a b c d k g s : Int) (w : World) (hu : Il w gv ns) (hl : ns.length ≤ 1000) (h1 : okC num ns [a, b, c, d] = false) :
    Calls Try.prog 24 #[.agg (cf num gv a b c d), .agg #[.int .i64 k, .int .i64 g, .int .i64 s]] w fun e W' => e = .returned (.tuple #[.agg (cf 0 (.slice none 0 0) 0 0 0 0), .int .i64 4]) ∧ Below w.heap.size w W' := by
  obtain ⟨W0, hW0⟩ : ∃ W, ((w.alloc (.cells (cf num gv a b c d) 50)).alloc (.cells #[.int .i64 k, .int .i64 g, .int .i64 s] 42)).alloc (.cells (cf 0 (.slice none 0 0) 0 0 0 0) 50) = W := ⟨_, rfl⟩
  have hb0 : Below w.heap.size w W0 := by
    rw [← hW0]
    exact (((Below.refl _ w).alloc (Nat.le_refl _) _).alloc (by simp) _).alloc (by simp; omega) _
  have hsz : W0.heap.size = w.heap.size + 3 := by rw [← hW0]; simp
  have r0 : W0.heap[w.heap.size]? = some (.cells (cf num gv a b c d) 50) := by
    rw [← hW0]
    exact ((Below.heap_alloc _ _ _ (by simp; omega)).trans (Below.heap_alloc _ _ _ (by simp))).trans (heap_alloc_new _ _)
  have r1 : W0.heap[w.heap.size + 1]? = some (.cells #[.int .i64 k, .int .i64 g, .int .i64 s] 42) := by
    rw [← hW0]
    refine (Below.heap_alloc _ _ _ (by simp)).trans ?_
    have := heap_alloc_new (w.alloc (.cells (cf num gv a b c d) 50)) (.cells #[.int .i64 k, .int .i64 g, .int .i64 s] 42)
    rwa [show (w.alloc (.cells (cf num gv a b c d) 50)).heap.size = w.heap.size + 1 by simp] at this
  have r2 : W0.heap[w.heap.size + 2]? = some (.cells (cf 0 (.slice none 0 0) 0 0 0 0) 50) := by
    rw [← hW0]
    have := heap_alloc_new ((w.alloc (.cells (cf num gv a b c d) 50)).alloc (.cells #[.int .i64 k, .int .i64 g, .int .i64 s] 42)) (.cells (cf 0 (.slice none 0 0) 0 0 0 0) 50)
    rwa [show ((w.alloc (.cells (cf num gv a b c d) 50)).alloc (.cells #[.int .i64 k, .int .i64 g, .int .i64 s] 42)).heap.size = w.heap.size + 2 by simp] at this
  have K0 : Hid (∀ W, Below W0.heap.size W0 W → W.rangeAt w.heap.size 0 (cfL num gv a b c d)) := fun W h => blk_range (L := cfL num gv a b c d) ((h.block _ (by omega)).trans r0)
  have K1 : Hid (∀ W, Below W0.heap.size W0 W → W.rangeAt (w.heap.size + 1) 0 [.int .i64 k, .int .i64 g, .int .i64 s]) := fun W h => blk_range (L := [.int .i64 k, .int .i64 g, .int .i64 s]) ((h.block _ (by omega)).trans r1)
  have K2 : Hid (∀ W, Below W0.heap.size W0 W → W.heap[w.heap.size + 2]? = some (.cells (cf 0 (.slice none 0 0) 0 0 0 0) 50)) := fun W h => (h.block _ (by omega)).trans r2
  have K3 : Hid (∀ W, Below W0.heap.size W0 W → W.cell? ⟨w.heap.size, 0, none⟩ = some (.int .i64 num)) := fun W h => cellB ((h.block _ (by omega)).trans r0) 0 _ rfl
  have hu0 := hu.next hb0
  have hs0 : Below W0.heap.size W0 W0 := Below.refl _ _
  have hC := Check_any num gv ns a b c d W0 hu0 hl
  have hI := fun W => isCommand_any k g s W
  have hF := fun (hs : k ≠ 1 → k ≠ 2 → 0 ≤ s ∧ s < 4) W (h : Below W0.heap.size W0 W) => fits_any num gv ns a b c d k g s W (hu0.next h) hl hs
  have HU : Hid (Il W0 gv ns) := hu0
  have HB : Hid (Below w.heap.size w W0) := hb0
  have HV : Hid (((w.alloc (.cells (cf num gv a b c d) 50)).alloc (.cells #[.int .i64 k, .int .i64 g, .int .i64 s] 42)).alloc (.cells (cf 0 (.slice none 0 0) 0 0 0 0) 50) = W0) := hW0
  have HSZ : Hid (W0.heap.size = w.heap.size + 3) := hsz
  obtain ⟨pa, pc, rfl⟩ := hu.slice
  clear hW0 hb0 hsz r0 r1 r2 hu hu0
  rw [if_neg (by rw [h1]; simp)] at hC
  clear hI hF h1
  go_enter Try.func24, Try.ntmps24
  go_upto_region 1 with fail
  rw [HV.out]
  clear HV
  go_wp2_with (first
    | (refine wpList_load_mid rfl 50 _ rfl w.heap.size 0 rfl (cfL num (.slice pa ns.length pc) a b c d) _ (K0.out _ (by assumption)) Try.underlying50 rfl Try.size50 ?_)
    | (refine wpList_load_mid rfl 42 _ rfl (w.heap.size + 1) 0 rfl [.int .i64 k, .int .i64 g, .int .i64 s] _ (K1.out _ (by assumption)) Try.underlying42 rfl Try.size42 ?_)
    | (go_at_call 29; refine (keepB hC hs0).mono ?_; rintro e w1 ⟨rfl, hb1⟩)
    | (refine wpList_store_mid rfl 50 _ _ rfl (w.heap.size + 2) 0 (cf 0 (.slice none 0 0) 0 0 0 0) rfl rfl (blk_there (K2.out _ (by assumption)) 0 6 (Nat.le_refl _)) Try.size50 (cf_ones _ _ _ _ _ _ _ _) ?_))
  have k4 := blk_range (blk_set (K2.out _ hb1) (L := cfL 0 (.slice none 0 0) 0 0 0 0) rfl)
  exact bodyPost_ret (v := .tuple #[.agg (cf 0 (.slice none 0 0) 0 0 0 0), .int .i64 4]) (results_two rfl rfl rfl (res25 k4 rfl)) rfl ⟨rfl, blk_below (by omega) _ _ _ (HB.out.trans (hb1.mono HB.out.size))⟩
set_option maxRecDepth 20000 in
set_option maxHeartbeats 4000000 in
theorem Next_arg (num : Int) (gv : Value) (ns : List Int) (a b c d k g s : Int) (w : World) (hu : Il w gv ns) (hl : ns.length ≤ 1000) (h1 : okC num ns [a, b, c, d] = true) (h2 : isCmd k g s = false) :
    Calls Try.prog 24 #[.agg (cf num gv a b c d), .agg #[.int .i64 k, .int .i64 g, .int .i64 s]] w fun e W' => e = .returned (.tuple #[.agg (cf 0 (.slice none 0 0) 0 0 0 0), .int .i64 1]) ∧ Below w.heap.size w W' := by
  obtain ⟨W0, hW0⟩ : ∃ W, ((w.alloc (.cells (cf num gv a b c d) 50)).alloc (.cells #[.int .i64 k, .int .i64 g, .int .i64 s] 42)).alloc (.cells (cf 0 (.slice none 0 0) 0 0 0 0) 50) = W := ⟨_, rfl⟩
  have hb0 : Below w.heap.size w W0 := by
    rw [← hW0]
    exact (((Below.refl _ w).alloc (Nat.le_refl _) _).alloc (by simp) _).alloc (by simp; omega) _
  have hsz : W0.heap.size = w.heap.size + 3 := by rw [← hW0]; simp
  have r0 : W0.heap[w.heap.size]? = some (.cells (cf num gv a b c d) 50) := by
    rw [← hW0]
    exact ((Below.heap_alloc _ _ _ (by simp; omega)).trans (Below.heap_alloc _ _ _ (by simp))).trans (heap_alloc_new _ _)
  have r1 : W0.heap[w.heap.size + 1]? = some (.cells #[.int .i64 k, .int .i64 g, .int .i64 s] 42) := by
    rw [← hW0]
    refine (Below.heap_alloc _ _ _ (by simp)).trans ?_
    have := heap_alloc_new (w.alloc (.cells (cf num gv a b c d) 50)) (.cells #[.int .i64 k, .int .i64 g, .int .i64 s] 42)
    rwa [show (w.alloc (.cells (cf num gv a b c d) 50)).heap.size = w.heap.size + 1 by simp] at this
  have r2 : W0.heap[w.heap.size + 2]? = some (.cells (cf 0 (.slice none 0 0) 0 0 0 0) 50) := by
    rw [← hW0]
    have := heap_alloc_new ((w.alloc (.cells (cf num gv a b c d) 50)).alloc (.cells #[.int .i64 k, .int .i64 g, .int .i64 s] 42)) (.cells (cf 0 (.slice none 0 0) 0 0 0 0) 50)
    rwa [show ((w.alloc (.cells (cf num gv a b c d) 50)).alloc (.cells #[.int .i64 k, .int .i64 g, .int .i64 s] 42)).heap.size = w.heap.size + 2 by simp] at this
  have K0 : Hid (∀ W, Below W0.heap.size W0 W → W.rangeAt w.heap.size 0 (cfL num gv a b c d)) := fun W h => blk_range (L := cfL num gv a b c d) ((h.block _ (by omega)).trans r0)
  have K1 : Hid (∀ W, Below W0.heap.size W0 W → W.rangeAt (w.heap.size + 1) 0 [.int .i64 k, .int .i64 g, .int .i64 s]) := fun W h => blk_range (L := [.int .i64 k, .int .i64 g, .int .i64 s]) ((h.block _ (by omega)).trans r1)
  have K2 : Hid (∀ W, Below W0.heap.size W0 W → W.heap[w.heap.size + 2]? = some (.cells (cf 0 (.slice none 0 0) 0 0 0 0) 50)) := fun W h => (h.block _ (by omega)).trans r2
  have K3 : Hid (∀ W, Below W0.heap.size W0 W → W.cell? ⟨w.heap.size, 0, none⟩ = some (.int .i64 num)) := fun W h => cellB ((h.block _ (by omega)).trans r0) 0 _ rfl
  have hu0 := hu.next hb0
  have hs0 : Below W0.heap.size W0 W0 := Below.refl _ _
  have hC := Check_any num gv ns a b c d W0 hu0 hl
  have hI := fun W => isCommand_any k g s W
  have hF := fun (hs : k ≠ 1 → k ≠ 2 → 0 ≤ s ∧ s < 4) W (h : Below W0.heap.size W0 W) => fits_any num gv ns a b c d k g s W (hu0.next h) hl hs
  have HU : Hid (Il W0 gv ns) := hu0
  have HB : Hid (Below w.heap.size w W0) := hb0
  have HV : Hid (((w.alloc (.cells (cf num gv a b c d) 50)).alloc (.cells #[.int .i64 k, .int .i64 g, .int .i64 s] 42)).alloc (.cells (cf 0 (.slice none 0 0) 0 0 0 0) 50) = W0) := hW0
  have HSZ : Hid (W0.heap.size = w.heap.size + 3) := hsz
  obtain ⟨pa, pc, rfl⟩ := hu.slice
  clear hW0 hb0 hsz r0 r1 r2 hu hu0
  rw [if_pos h1] at hC
  rw [h2] at hI
  clear hF h1 h2
  go_enter Try.func24, Try.ntmps24
  go_upto_region 1 with fail
  rw [HV.out]
  clear HV
  go_wp2_with (first
    | (refine wpList_load_mid rfl 50 _ rfl w.heap.size 0 rfl (cfL num (.slice pa ns.length pc) a b c d) _ (K0.out _ (by assumption)) Try.underlying50 rfl Try.size50 ?_)
    | (refine wpList_load_mid rfl 42 _ rfl (w.heap.size + 1) 0 rfl [.int .i64 k, .int .i64 g, .int .i64 s] _ (K1.out _ (by assumption)) Try.underlying42 rfl Try.size42 ?_)
    | (go_at_call 29; refine (keepB hC hs0).mono ?_; rintro e w1 ⟨rfl, hb1⟩)
    | (go_at_call 31; refine (keepB (hI _) hb1).mono ?_; rintro e w2 ⟨rfl, hb2⟩)
    | (refine wpList_store_mid rfl 50 _ _ rfl (w.heap.size + 2) 0 (cf 0 (.slice none 0 0) 0 0 0 0) rfl rfl (blk_there (K2.out _ (by assumption)) 0 6 (Nat.le_refl _)) Try.size50 (cf_ones _ _ _ _ _ _ _ _) ?_))
  have k4 := blk_range (blk_set (K2.out _ hb2) (L := cfL 0 (.slice none 0 0) 0 0 0 0) rfl)
  exact bodyPost_ret (v := .tuple #[.agg (cf 0 (.slice none 0 0) 0 0 0 0), .int .i64 1]) (results_two rfl rfl rfl (res25 k4 rfl)) rfl ⟨rfl, blk_below (by omega) _ _ _ (HB.out.trans (hb2.mono HB.out.size))⟩
set_option maxRecDepth 20000 in
set_option maxHeartbeats 4000000 in
theorem Next_group (num : Int) (gv : Value) (ns : List Int) (a b c d k g s : Int) (w : World) (hu : Il w gv ns) (hl : ns.length ≤ 1000) (h1 : okC num ns [a, b, c, d] = true) (h2 : isCmd k g s = true) (h3 : fitsB k g s ns [a, b, c, d] = false) :
    Calls Try.prog 24 #[.agg (cf num gv a b c d), .agg #[.int .i64 k, .int .i64 g, .int .i64 s]] w fun e W' => e = .returned (.tuple #[.agg (cf 0 (.slice none 0 0) 0 0 0 0), .int .i64 150]) ∧ Below w.heap.size w W' := by
  obtain ⟨W0, hW0⟩ : ∃ W, ((w.alloc (.cells (cf num gv a b c d) 50)).alloc (.cells #[.int .i64 k, .int .i64 g, .int .i64 s] 42)).alloc (.cells (cf 0 (.slice none 0 0) 0 0 0 0) 50) = W := ⟨_, rfl⟩
  have hb0 : Below w.heap.size w W0 := by
    rw [← hW0]
    exact (((Below.refl _ w).alloc (Nat.le_refl _) _).alloc (by simp) _).alloc (by simp; omega) _
  have hsz : W0.heap.size = w.heap.size + 3 := by rw [← hW0]; simp
  have r0 : W0.heap[w.heap.size]? = some (.cells (cf num gv a b c d) 50) := by
    rw [← hW0]
    exact ((Below.heap_alloc _ _ _ (by simp; omega)).trans (Below.heap_alloc _ _ _ (by simp))).trans (heap_alloc_new _ _)
  have r1 : W0.heap[w.heap.size + 1]? = some (.cells #[.int .i64 k, .int .i64 g, .int .i64 s] 42) := by
    rw [← hW0]
    refine (Below.heap_alloc _ _ _ (by simp)).trans ?_
    have := heap_alloc_new (w.alloc (.cells (cf num gv a b c d) 50)) (.cells #[.int .i64 k, .int .i64 g, .int .i64 s] 42)
    rwa [show (w.alloc (.cells (cf num gv a b c d) 50)).heap.size = w.heap.size + 1 by simp] at this
  have r2 : W0.heap[w.heap.size + 2]? = some (.cells (cf 0 (.slice none 0 0) 0 0 0 0) 50) := by
    rw [← hW0]
    have := heap_alloc_new ((w.alloc (.cells (cf num gv a b c d) 50)).alloc (.cells #[.int .i64 k, .int .i64 g, .int .i64 s] 42)) (.cells (cf 0 (.slice none 0 0) 0 0 0 0) 50)
    rwa [show ((w.alloc (.cells (cf num gv a b c d) 50)).alloc (.cells #[.int .i64 k, .int .i64 g, .int .i64 s] 42)).heap.size = w.heap.size + 2 by simp] at this
  have K0 : Hid (∀ W, Below W0.heap.size W0 W → W.rangeAt w.heap.size 0 (cfL num gv a b c d)) := fun W h => blk_range (L := cfL num gv a b c d) ((h.block _ (by omega)).trans r0)
  have K1 : Hid (∀ W, Below W0.heap.size W0 W → W.rangeAt (w.heap.size + 1) 0 [.int .i64 k, .int .i64 g, .int .i64 s]) := fun W h => blk_range (L := [.int .i64 k, .int .i64 g, .int .i64 s]) ((h.block _ (by omega)).trans r1)
  have K2 : Hid (∀ W, Below W0.heap.size W0 W → W.heap[w.heap.size + 2]? = some (.cells (cf 0 (.slice none 0 0) 0 0 0 0) 50)) := fun W h => (h.block _ (by omega)).trans r2
  have K3 : Hid (∀ W, Below W0.heap.size W0 W → W.cell? ⟨w.heap.size, 0, none⟩ = some (.int .i64 num)) := fun W h => cellB ((h.block _ (by omega)).trans r0) 0 _ rfl
  have hu0 := hu.next hb0
  have hs0 : Below W0.heap.size W0 W0 := Below.refl _ _
  have hC := Check_any num gv ns a b c d W0 hu0 hl
  have hI := fun W => isCommand_any k g s W
  have hF := fun (hs : k ≠ 1 → k ≠ 2 → 0 ≤ s ∧ s < 4) W (h : Below W0.heap.size W0 W) => fits_any num gv ns a b c d k g s W (hu0.next h) hl hs
  have HU : Hid (Il W0 gv ns) := hu0
  have HB : Hid (Below w.heap.size w W0) := hb0
  have HV : Hid (((w.alloc (.cells (cf num gv a b c d) 50)).alloc (.cells #[.int .i64 k, .int .i64 g, .int .i64 s] 42)).alloc (.cells (cf 0 (.slice none 0 0) 0 0 0 0) 50) = W0) := hW0
  have HSZ : Hid (W0.heap.size = w.heap.size + 3) := hsz
  obtain ⟨pa, pc, rfl⟩ := hu.slice
  clear hW0 hb0 hsz r0 r1 r2 hu hu0
  rw [if_pos h1] at hC
  have hss : k ≠ 1 → k ≠ 2 → 0 ≤ s ∧ s < 4 := by
    intro e1 e2
    unfold isCmd at h2
    simp only [Bool.and_eq_true] at h2
    obtain ⟨⟨h7, _⟩, h8⟩ := h2
    have h7 := wi_t h7
    rw [if_pos (by omega)] at h8
    have h8 := wi_t h8
    omega
  rw [h2] at hI
  rw [h3] at hF
  clear h1 h2 h3
  go_enter Try.func24, Try.ntmps24
  go_upto_region 1 with fail
  rw [HV.out]
  clear HV
  go_wp2_with (first
    | (refine wpList_load_mid rfl 50 _ rfl w.heap.size 0 rfl (cfL num (.slice pa ns.length pc) a b c d) _ (K0.out _ (by assumption)) Try.underlying50 rfl Try.size50 ?_)
    | (refine wpList_load_mid rfl 42 _ rfl (w.heap.size + 1) 0 rfl [.int .i64 k, .int .i64 g, .int .i64 s] _ (K1.out _ (by assumption)) Try.underlying42 rfl Try.size42 ?_)
    | (go_at_call 29; refine (keepB hC hs0).mono ?_; rintro e w1 ⟨rfl, hb1⟩)
    | (go_at_call 31; refine (keepB (hI _) hb1).mono ?_; rintro e w2 ⟨rfl, hb2⟩)
    | (go_at_call 32; refine (keepB (hF hss _ hb2) hb2).mono ?_; rintro e w3 ⟨rfl, hb3⟩; have z1 := K3.out _ hb3)
    | (refine wpList_store_mid rfl 50 _ _ rfl (w.heap.size + 2) 0 (cf 0 (.slice none 0 0) 0 0 0 0) rfl rfl (blk_there (K2.out _ (by assumption)) 0 6 (Nat.le_refl _)) Try.size50 (cf_ones _ _ _ _ _ _ _ _) ?_))
  have k4 := blk_range (blk_set (K2.out _ hb3) (L := cfL 0 (.slice none 0 0) 0 0 0 0) rfl)
  exact bodyPost_ret (v := .tuple #[.agg (cf 0 (.slice none 0 0) 0 0 0 0), .int .i64 150]) (results_two rfl rfl rfl (res25 k4 rfl)) rfl ⟨rfl, blk_below (by omega) _ _ _ (HB.out.trans (hb3.mono HB.out.size))⟩
set_option maxRecDepth 20000 in
set_option maxHeartbeats 4000000 in
theorem Next_last (num : Int) (gv : Value) (ns : List Int) (a b c d k g s : Int) (w : World) (hu : Il w gv ns) (hl : ns.length ≤ 1000) (h1 : okC num ns [a, b, c, d] = true) (h2 : isCmd k g s = true) (h3 : fitsB k g s ns [a, b, c, d] = true) (h4 : num = 1099511627776) :
    Calls Try.prog 24 #[.agg (cf num gv a b c d), .agg #[.int .i64 k, .int .i64 g, .int .i64 s]] w fun e W' => e = .returned (.tuple #[.agg (cf 0 (.slice none 0 0) 0 0 0 0), .int .i64 151]) ∧ Below w.heap.size w W' := by
  obtain ⟨W0, hW0⟩ : ∃ W, ((w.alloc (.cells (cf num gv a b c d) 50)).alloc (.cells #[.int .i64 k, .int .i64 g, .int .i64 s] 42)).alloc (.cells (cf 0 (.slice none 0 0) 0 0 0 0) 50) = W := ⟨_, rfl⟩
  have hb0 : Below w.heap.size w W0 := by
    rw [← hW0]
    exact (((Below.refl _ w).alloc (Nat.le_refl _) _).alloc (by simp) _).alloc (by simp; omega) _
  have hsz : W0.heap.size = w.heap.size + 3 := by rw [← hW0]; simp
  have r0 : W0.heap[w.heap.size]? = some (.cells (cf num gv a b c d) 50) := by
    rw [← hW0]
    exact ((Below.heap_alloc _ _ _ (by simp; omega)).trans (Below.heap_alloc _ _ _ (by simp))).trans (heap_alloc_new _ _)
  have r1 : W0.heap[w.heap.size + 1]? = some (.cells #[.int .i64 k, .int .i64 g, .int .i64 s] 42) := by
    rw [← hW0]
    refine (Below.heap_alloc _ _ _ (by simp)).trans ?_
    have := heap_alloc_new (w.alloc (.cells (cf num gv a b c d) 50)) (.cells #[.int .i64 k, .int .i64 g, .int .i64 s] 42)
    rwa [show (w.alloc (.cells (cf num gv a b c d) 50)).heap.size = w.heap.size + 1 by simp] at this
  have r2 : W0.heap[w.heap.size + 2]? = some (.cells (cf 0 (.slice none 0 0) 0 0 0 0) 50) := by
    rw [← hW0]
    have := heap_alloc_new ((w.alloc (.cells (cf num gv a b c d) 50)).alloc (.cells #[.int .i64 k, .int .i64 g, .int .i64 s] 42)) (.cells (cf 0 (.slice none 0 0) 0 0 0 0) 50)
    rwa [show ((w.alloc (.cells (cf num gv a b c d) 50)).alloc (.cells #[.int .i64 k, .int .i64 g, .int .i64 s] 42)).heap.size = w.heap.size + 2 by simp] at this
  have K0 : Hid (∀ W, Below W0.heap.size W0 W → W.rangeAt w.heap.size 0 (cfL num gv a b c d)) := fun W h => blk_range (L := cfL num gv a b c d) ((h.block _ (by omega)).trans r0)
  have K1 : Hid (∀ W, Below W0.heap.size W0 W → W.rangeAt (w.heap.size + 1) 0 [.int .i64 k, .int .i64 g, .int .i64 s]) := fun W h => blk_range (L := [.int .i64 k, .int .i64 g, .int .i64 s]) ((h.block _ (by omega)).trans r1)
  have K2 : Hid (∀ W, Below W0.heap.size W0 W → W.heap[w.heap.size + 2]? = some (.cells (cf 0 (.slice none 0 0) 0 0 0 0) 50)) := fun W h => (h.block _ (by omega)).trans r2
  have K3 : Hid (∀ W, Below W0.heap.size W0 W → W.cell? ⟨w.heap.size, 0, none⟩ = some (.int .i64 num)) := fun W h => cellB ((h.block _ (by omega)).trans r0) 0 _ rfl
  have hu0 := hu.next hb0
  have hs0 : Below W0.heap.size W0 W0 := Below.refl _ _
  have hC := Check_any num gv ns a b c d W0 hu0 hl
  have hI := fun W => isCommand_any k g s W
  have hF := fun (hs : k ≠ 1 → k ≠ 2 → 0 ≤ s ∧ s < 4) W (h : Below W0.heap.size W0 W) => fits_any num gv ns a b c d k g s W (hu0.next h) hl hs
  have HU : Hid (Il W0 gv ns) := hu0
  have HB : Hid (Below w.heap.size w W0) := hb0
  have HV : Hid (((w.alloc (.cells (cf num gv a b c d) 50)).alloc (.cells #[.int .i64 k, .int .i64 g, .int .i64 s] 42)).alloc (.cells (cf 0 (.slice none 0 0) 0 0 0 0) 50) = W0) := hW0
  have HSZ : Hid (W0.heap.size = w.heap.size + 3) := hsz
  obtain ⟨pa, pc, rfl⟩ := hu.slice
  clear hW0 hb0 hsz r0 r1 r2 hu hu0
  rw [if_pos h1] at hC
  have hss : k ≠ 1 → k ≠ 2 → 0 ≤ s ∧ s < 4 := by
    intro e1 e2
    unfold isCmd at h2
    simp only [Bool.and_eq_true] at h2
    obtain ⟨⟨h7, _⟩, h8⟩ := h2
    have h7 := wi_t h7
    rw [if_pos (by omega)] at h8
    have h8 := wi_t h8
    omega
  rw [h2] at hI
  rw [h3] at hF
  have hq : (num == 1099511627776) = true := by simp [h4]
  clear h1 h2 h3 h4
  go_enter Try.func24, Try.ntmps24
  go_upto_region 1 with fail
  rw [HV.out]
  clear HV
  go_wp2_with (first
    | (refine wpList_load_mid rfl 50 _ rfl w.heap.size 0 rfl (cfL num (.slice pa ns.length pc) a b c d) _ (K0.out _ (by assumption)) Try.underlying50 rfl Try.size50 ?_)
    | (refine wpList_load_mid rfl 42 _ rfl (w.heap.size + 1) 0 rfl [.int .i64 k, .int .i64 g, .int .i64 s] _ (K1.out _ (by assumption)) Try.underlying42 rfl Try.size42 ?_)
    | (go_at_call 29; refine (keepB hC hs0).mono ?_; rintro e w1 ⟨rfl, hb1⟩)
    | (go_at_call 31; refine (keepB (hI _) hb1).mono ?_; rintro e w2 ⟨rfl, hb2⟩)
    | (go_at_call 32; refine (keepB (hF hss _ hb2) hb2).mono ?_; rintro e w3 ⟨rfl, hb3⟩; have z1 := K3.out _ hb3)
    | (refine wpList_store_mid rfl 50 _ _ rfl (w.heap.size + 2) 0 (cf 0 (.slice none 0 0) 0 0 0 0) rfl rfl (blk_there (K2.out _ (by assumption)) 0 6 (Nat.le_refl _)) Try.size50 (cf_ones _ _ _ _ _ _ _ _) ?_))
  have k4 := blk_range (blk_set (K2.out _ hb3) (L := cfL 0 (.slice none 0 0) 0 0 0 0) rfl)
  exact bodyPost_ret (v := .tuple #[.agg (cf 0 (.slice none 0 0) 0 0 0 0), .int .i64 151]) (results_two rfl rfl rfl (res25 k4 rfl)) rfl ⟨rfl, blk_below (by omega) _ _ _ (HB.out.trans (hb3.mono HB.out.size))⟩
set_option maxRecDepth 20000 in
set_option maxHeartbeats 4000000 in
theorem Next_ok (num : Int) (gv : Value) (ns : List Int) (a b c d k g s : Int) (w : World) (hu : Il w gv ns) (hl : ns.length ≤ 1000) (h1 : okC num ns [a, b, c, d] = true) (h2 : isCmd k g s = true) (h3 : fitsB k g s ns [a, b, c, d] = true) (h4 : num ≠ 1099511627776) :
    Calls Try.prog 24 #[.agg (cf num gv a b c d), .agg #[.int .i64 k, .int .i64 g, .int .i64 s]] w fun e W' => ∃ x, e = .returned (.tuple #[x, .int .i64 0]) ∧ NxOk num ns [a, b, c, d] k g s w x W' := by
  obtain ⟨W0, hW0⟩ : ∃ W, ((w.alloc (.cells (cf num gv a b c d) 50)).alloc (.cells #[.int .i64 k, .int .i64 g, .int .i64 s] 42)).alloc (.cells (cf 0 (.slice none 0 0) 0 0 0 0) 50) = W := ⟨_, rfl⟩
  have hb0 : Below w.heap.size w W0 := by
    rw [← hW0]
    exact (((Below.refl _ w).alloc (Nat.le_refl _) _).alloc (by simp) _).alloc (by simp; omega) _
  have hsz : W0.heap.size = w.heap.size + 3 := by rw [← hW0]; simp
  have r0 : W0.heap[w.heap.size]? = some (.cells (cf num gv a b c d) 50) := by
    rw [← hW0]
    exact ((Below.heap_alloc _ _ _ (by simp; omega)).trans (Below.heap_alloc _ _ _ (by simp))).trans (heap_alloc_new _ _)
  have r1 : W0.heap[w.heap.size + 1]? = some (.cells #[.int .i64 k, .int .i64 g, .int .i64 s] 42) := by
    rw [← hW0]
    refine (Below.heap_alloc _ _ _ (by simp)).trans ?_
    have := heap_alloc_new (w.alloc (.cells (cf num gv a b c d) 50)) (.cells #[.int .i64 k, .int .i64 g, .int .i64 s] 42)
    rwa [show (w.alloc (.cells (cf num gv a b c d) 50)).heap.size = w.heap.size + 1 by simp] at this
  have r2 : W0.heap[w.heap.size + 2]? = some (.cells (cf 0 (.slice none 0 0) 0 0 0 0) 50) := by
    rw [← hW0]
    have := heap_alloc_new ((w.alloc (.cells (cf num gv a b c d) 50)).alloc (.cells #[.int .i64 k, .int .i64 g, .int .i64 s] 42)) (.cells (cf 0 (.slice none 0 0) 0 0 0 0) 50)
    rwa [show ((w.alloc (.cells (cf num gv a b c d) 50)).alloc (.cells #[.int .i64 k, .int .i64 g, .int .i64 s] 42)).heap.size = w.heap.size + 2 by simp] at this
  have K0 : Hid (∀ W, Below W0.heap.size W0 W → W.rangeAt w.heap.size 0 (cfL num gv a b c d)) := fun W h => blk_range (L := cfL num gv a b c d) ((h.block _ (by omega)).trans r0)
  have K1 : Hid (∀ W, Below W0.heap.size W0 W → W.rangeAt (w.heap.size + 1) 0 [.int .i64 k, .int .i64 g, .int .i64 s]) := fun W h => blk_range (L := [.int .i64 k, .int .i64 g, .int .i64 s]) ((h.block _ (by omega)).trans r1)
  have K2 : Hid (∀ W, Below W0.heap.size W0 W → W.heap[w.heap.size + 2]? = some (.cells (cf 0 (.slice none 0 0) 0 0 0 0) 50)) := fun W h => (h.block _ (by omega)).trans r2
  have K3 : Hid (∀ W, Below W0.heap.size W0 W → W.cell? ⟨w.heap.size, 0, none⟩ = some (.int .i64 num)) := fun W h => cellB ((h.block _ (by omega)).trans r0) 0 _ rfl
  have hu0 := hu.next hb0
  have hs0 : Below W0.heap.size W0 W0 := Below.refl _ _
  have hC := Check_any num gv ns a b c d W0 hu0 hl
  have hI := fun W => isCommand_any k g s W
  have hF := fun (hs : k ≠ 1 → k ≠ 2 → 0 ≤ s ∧ s < 4) W (h : Below W0.heap.size W0 W) => fits_any num gv ns a b c d k g s W (hu0.next h) hl hs
  have HU : Hid (Il W0 gv ns) := hu0
  have HB : Hid (Below w.heap.size w W0) := hb0
  have HV : Hid (((w.alloc (.cells (cf num gv a b c d) 50)).alloc (.cells #[.int .i64 k, .int .i64 g, .int .i64 s] 42)).alloc (.cells (cf 0 (.slice none 0 0) 0 0 0 0) 50) = W0) := hW0
  have HSZ : Hid (W0.heap.size = w.heap.size + 3) := hsz
  obtain ⟨pa, pc, rfl⟩ := hu.slice
  clear hW0 hb0 hsz r0 r1 r2 hu hu0
  rw [if_pos h1] at hC
  have hss : k ≠ 1 → k ≠ 2 → 0 ≤ s ∧ s < 4 := by
    intro e1 e2
    unfold isCmd at h2
    simp only [Bool.and_eq_true] at h2
    obtain ⟨⟨h7, _⟩, h8⟩ := h2
    have h7 := wi_t h7
    rw [if_pos (by omega)] at h8
    have h8 := wi_t h8
    omega
  rw [h2] at hI
  rw [h3] at hF
  obtain ⟨gs, hg, hns, o, ho, hos, hn0, hn1⟩ := okC_all h1
  obtain ⟨K, G, S, hK, hG, hS, hok⟩ := cmd_of (gs := gs) (os := [a, b, c, d]) h2 (by rw [← hns]; exact h3)
  obtain ⟨a', b', c', d', rfl⟩ := four_of ((conf_of hg).2.2 o ho).1
  have hos' : [a, b, c, d] = [(a' : Int), b', c', d'] := hos
  injection hos' with ea hos'
  injection hos' with eb hos'
  injection hos' with ec hos'
  injection hos' with ed _
  have hD : ∀ W, Below W0.heap.size W0 W → Calls Try.prog 33 #[.agg (cf num (.slice pa ns.length pc) a b c d), .agg #[.int .i64 k, .int .i64 g, .int .i64 s]] W fun e W' => ∃ (v : Value) (p q r t : Nat), e = .returned (.agg (cf (num + 1) v p q r t)) ∧ Il W' v (zi (nG K G gs)) ∧ [p, q, r, t] = nO K G S gs [a', b', c', d'] ∧ Fr W.heap.size v ∧ Below W.heap.size W W' := by
    intro W h
    rw [ea, eb, ec, ed, hK, hG, hS]
    exact done_any num hn0 (by omega) _ gs a' b' c' d' K G S W (by rw [← hns]; exact HU.out.next h) hg ho hok
  have HX : Hid (ns = zi gs ∧ [a, b, c, d] = zi [a', b', c', d'] ∧ gs ∈ subs0 ∧ [a', b', c', d'] ∈ owners0 gs ∧ k = K ∧ g = G ∧ s = S ∧ okK K G S gs ∧ 0 ≤ num ∧ num < 1099511627776) := ⟨hns, hos, hg, ho, hK, hG, hS, hok, hn0, by omega⟩
  have hq : (num == 1099511627776) = false := by simp [h4]
  clear h1 h2 h3 h4 hns hos hg ho hK hG hS hok hn0 hn1 ea eb ec ed
  go_enter Try.func24, Try.ntmps24
  go_upto_region 1 with fail
  rw [HV.out]
  clear HV
  go_wp2_with (first
    | (refine wpList_load_mid rfl 50 _ rfl w.heap.size 0 rfl (cfL num (.slice pa ns.length pc) a b c d) _ (K0.out _ (by assumption)) Try.underlying50 rfl Try.size50 ?_)
    | (refine wpList_load_mid rfl 42 _ rfl (w.heap.size + 1) 0 rfl [.int .i64 k, .int .i64 g, .int .i64 s] _ (K1.out _ (by assumption)) Try.underlying42 rfl Try.size42 ?_)
    | (go_at_call 29; refine (keepB hC hs0).mono ?_; rintro e w1 ⟨rfl, hb1⟩)
    | (go_at_call 31; refine (keepB (hI _) hb1).mono ?_; rintro e w2 ⟨rfl, hb2⟩)
    | (go_at_call 32; refine (keepB (hF hss _ hb2) hb2).mono ?_; rintro e w3 ⟨rfl, hb3⟩; have z1 := K3.out _ hb3)
    | (go_at_call 33; refine (hD _ hb3).mono ?_; rintro e w4 ⟨v, p, q, r, t, rfl, j1, j2, j3, j4⟩; have hil := j1; obtain ⟨va, vc, rfl⟩ := j1.slice; have hb4 := hb3.trans (j4.mono hb3.size); have HJ : Hid (_ ∧ _ ∧ _ ∧ _) := ⟨hil, j2, j3, j4⟩; clear hil j1 j2 j3 j4)
    | (refine wpList_store_mid rfl 50 _ _ rfl (w.heap.size + 2) 0 (cf (num + 1) (.slice va (zi (nG K G gs)).length vc) p q r t) rfl rfl (blk_there (K2.out _ hb4) 0 6 (Nat.le_refl _)) Try.size50 (cf_ones _ _ _ _ _ _ _ _) ?_))
  obtain ⟨hil, j2, j3, j4⟩ := HJ.out
  have k4 := blk_range (blk_set (K2.out _ hb4) (L := cfL (num + 1) (.slice va (zi (nG K G gs)).length vc) p q r t) rfl)
  obtain ⟨y1, y2, y3, y4, y5, y6, y7, y8, y9, y10⟩ := HX.out
  have hsz := HSZ.out
  have hbs := hb3.size
  exact bodyPost_ret (v := .tuple #[.agg (cf (num + 1) (.slice va (zi (nG K G gs)).length vc) p q r t), .int .i64 0]) (results_two rfl rfl rfl (res25 k4 rfl)) rfl ⟨_, rfl, gs, [a', b', c', d'], K, G, S, _, p, q, r, t, y1, y2, y3, y4, y5, y6, y7, y8, y9, y10, rfl, Il_keep hil (fun k hk => by have := j3 k hk; omega), j2, fun k hk => by have := j3 k hk; omega, blk_below (by omega) _ _ _ (HB.out.trans (hb4.mono HB.out.size))⟩
end Go.Proofs.Ytcehmaegnfelhaa
