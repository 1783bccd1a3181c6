/- Contents: load of what is none, walked. -/
import Derived.Test.YtgmobjdjojffgaaDoorSdP
import Derived.Test.YtgmobjdjojffgaaDoorSdK
namespace Go.Proofs.YtgmobjdjojffgaaDoor
section
open Go.RowKit
attribute [local go_sem ↓] Go.wp_at_zero Go.wp_at_succ

theorem results_cell {P : Program} {fn : Func} {tmps : Array Value} {w : World} {a k : Nat} {t : TypeId} {b : Addr} {v u : Value} (hr : fn.results = #[.cell a t, .tmp k]) (ha : tmps.getD a undef = .pointer (some b)) (hu : tmps.getD k undef = u) (hv : (loadVar t b).run P w = .ok v w) :
    (results fn tmps).run P w = .ok (.tuple #[v, u]) w := by
  subst hu
  have e : (asAddr (tmps.getD a undef)).run P w = .ok b w := by rw [ha]; rfl
  simp only [results, hr]
  simp only [List.mapM_toArray, List.mapM_cons, List.mapM_nil, Sem.run_bind, Sem.run_map, e, hv, Result.andThen_ok, Sem.run_pure]
  rfl
theorem res69 {W : World} {R : Nat} {L : List Value} (h : W.rangeAt R 0 L) (hl : L.length = 25) : (loadVar 69 ⟨R, 0, none⟩).run Tryd.prog W = .ok (.agg L.toArray) W :=
  run_loadVar_mid W R 0 69 L _ h Tryd.underlying69 rfl (by rw [hl]; exact Tryd.size69)
/-- The result's block, whatever came behind it. -/
theorem res_lay {w W : World} {Z : List Value} (hZ : Z.length = 25) (hb : Below (w.alloc (.cells Z.toArray 69)).heap.size (w.alloc (.cells Z.toArray 69)) W) :
    ∀ L : List Value, L.length = 25 → W.there w.heap.size 0 L.toArray.size ∧ (W.setCells w.heap.size 0 L).rangeAt w.heap.size 0 L ∧ Below w.heap.size w (W.setCells w.heap.size 0 L) := by
  have hblk : W.heap[w.heap.size]? = some (.cells Z.toArray 69) := (hb.block _ (by simp)).trans (heap_alloc_new w _)
  have hth : W.there w.heap.size 0 25 := fun j hj => ⟨by rw [Nat.zero_add, cellB hblk j _ (Array.getElem?_eq_getElem (by simpa [hZ] using hj))]; rfl, frozenB hblk _⟩
  have hb1 : Below w.heap.size w (w.alloc (.cells Z.toArray 69)) := (Below.refl _ _).alloc (Nat.le_refl _) _
  exact fun L hL => ⟨by (have e : L.toArray.size = 25 := (by simp [hL])); rw [e]; exact hth, World.rangeAt_setCells_same W _ 0 L (by rw [hL]; exact hth), below_sets (hb1.trans (hb.mono hb1.size)) (Nat.le_refl _) _ _⟩
abbrev WR (w : World) (Z : List Value) : World := w.alloc (.cells Z.toArray 69)
set_option maxRecDepth 20000 in
set_option maxHeartbeats 1000000 in
theorem loadC_bad1 (s : List UInt8) (w : World) (hs : s.length ≤ 1000000) (he : Env w) (hbad : ¬ (good s ∧ (texts s).length % 4 = 1)) :
    Calls Tryd.prog 28 #[.string (bs s)] w fun e W' => e = .returned (.tuple #[.agg (.pointer none :: C24).toArray, .int .i64 4]) ∧ Below w.heap.size w W' := by
  have hz := Tryd.zero69
  have hZ : (Value.pointer none :: C24).length = 25 := by rw [List.length_cons, C24_len]
  have HA : Hid ((Value.pointer none :: C24).toArray.all (·.oneCell') = true) := all_oneCell_toArray (hcs_one sh0 0)
  have hU := Unpack_any s (WR w (.pointer none :: C24)) hs (he.next ((Below.refl _ _).alloc (Nat.le_refl _) _))
  have HL : Hid (∀ W, Below (WR w (.pointer none :: C24)).heap.size (WR w (.pointer none :: C24)) W → ∀ L : List Value, L.length = 25 → W.there w.heap.size 0 L.toArray.size ∧ (W.setCells w.heap.size 0 L).rangeAt w.heap.size 0 L ∧ Below w.heap.size w (W.setCells w.heap.size 0 L)) := fun W hb => res_lay hZ hb
  obtain ⟨C, hC⟩ : ∃ C, C24 = C := ⟨_, rfl⟩
  rw [hC] at hz hZ HA hU HL
  rw [hC]
  have HS : Hid ((Tryd.prog.info? 69).map (·.size) = some (Value.pointer none :: C).toArray.size) := by show _ = _; rw [List.size_toArray, hZ]; exact Tryd.size69
  have HZ : Hid (_) := hZ
  clear hC hZ he hs
  have hcase : errOf s = 4 ∨ (errOf s = 0 ∧ (((texts s).length : Int) % 4 != 1) = true) := by
    by_cases hg : good s
    · refine .inr ⟨if_pos hg, ?_⟩
      have : ¬ (texts s).length % 4 = 1 := fun h => hbad ⟨hg, h⟩
      simp
      omega
    · exact .inl (if_neg hg)
  clear hbad
  obtain ⟨L, hL⟩ : ∃ L, texts s = L := ⟨_, rfl⟩
  rw [hL] at hU hcase
  obtain ⟨E, hE⟩ : ∃ E, errOf s = E := ⟨_, rfl⟩
  rw [hE] at hU hcase
  clear hE hL
  rcases hcase with rfl | ⟨rfl, hm⟩
  all_goals
    go_enter Tryd.func28, Tryd.ntmps28
    go_wp2_with (first
      | (go_at_call 24; refine hU.mono ?_; clear hU; rintro e w1 ⟨v, rfl, hown, hb1⟩; obtain ⟨va, vc, rfl⟩ := owns_slice hown; have HB : Hid (_) := HL.out _ hb1 _ HZ.out)
      | (refine wpList_store_mid rfl 69 _ _ rfl w.heap.size 0 (Value.pointer none :: C).toArray rfl rfl HB.out.1 HS.out HA.out ?_))
    obtain ⟨_, k1, k2⟩ := HB.out
    have k3 := res69 k1 HZ.out
    exact bodyPost_ret (v := .tuple #[.agg (Value.pointer none :: C).toArray, .int .i64 4]) (results_cell rfl rfl rfl k3) rfl ⟨rfl, k2⟩
end
section
open Go.RowKit
attribute [local go_sem ↓] Go.wp_at_zero Go.wp_at_succ

theorem text_small {s t : List UInt8} (h : t ∈ texts s) : t.length ≤ s.length := by
  unfold texts at h
  split at h
  · have hs : s ≠ [] := by
      rintro rfl
      rw [items_nil] at h
      cases h
    have := items_tot hs
    have h2 : t.length ≤ tot ((items s).map (·.1)) := by
      obtain ⟨a, b, e⟩ := List.append_of_mem h
      rw [e, tot_append, tot_cons]
      omega
    omega
  · cases h
/-- What load gives. -/
def LcPost (w : World) (x : Option (List Rw × (Nat → La))) (e : Ending) (W' : World) : Prop :=
  match x with
  | none => e = .returned (.tuple #[.agg (.pointer none :: C24).toArray, .int .i64 4]) ∧ Below w.heap.size w W'
  | some (l, c) => ∃ T v, e = .returned (.tuple #[.agg (.pointer (some ⟨T, 0, none⟩) :: ccs c).toArray, .int .i64 0]) ∧ w.heap.size ≤ T ∧ TabAt W' T l v ∧ (∀ k, v.ownBlock = some k → w.heap.size ≤ k) ∧ Below w.heap.size w W'
/-- The holding that load makes. -/
structure Lh (wt : World) (T : Nat) (c : Nat → La) (wr : World) : Prop where
  rng : wr.rangeAt wt.heap.size 0 (.pointer (some ⟨T, 0, none⟩) :: ccs c)
  fz : ∀ j, wr.frozen? ⟨wt.heap.size, j, none⟩ = false
  lt : wt.heap.size < wr.heap.size
  below : Below wt.heap.size wt wr
theorem Lh.on {wt wr W : World} {T : Nat} {c : Nat → La} (h : Lh wt T c wr) (hb : Below wr.heap.size wr W) : Lh wt T c W :=
  ⟨fun j x hx => (hb.cell (p := ⟨wt.heap.size, 0 + j, none⟩) h.lt).trans (h.rng j x hx), fun j => (hb.frozen (p := ⟨wt.heap.size, j, none⟩) h.lt).trans (h.fz j), Nat.lt_of_lt_of_le h.lt hb.size, h.below.trans (hb.mono (Nat.le_of_lt h.lt))⟩
theorem Lh.cc {wt wr : World} {T : Nat} {c : Nat → La} (h : Lh wt T c wr) {i : Nat} (hi : i < 8) : wr.cell? ⟨wt.heap.size, 1 + i * 3, none⟩ = some (.int .i64 (c i).1) ∧ wr.cell? ⟨wt.heap.size, 1 + i * 3 + 1, none⟩ = some (.int .i64 (c i).2.1) ∧ wr.cell? ⟨wt.heap.size, 1 + i * 3 + 2, none⟩ = some (.string (bs (c i).2.2)) := by
  obtain ⟨a, b, d⟩ := ccs_at c i hi
  have h0 := h.rng (i * 3 + 1) _ (by simpa using a)
  have h1 := h.rng (i * 3 + 1 + 1) _ (by simpa using b)
  have h2 := h.rng (i * 3 + 2 + 1) _ (by simpa using d)
  rw [show 0 + (i * 3 + 1) = 1 + i * 3 by omega] at h0
  rw [show 0 + (i * 3 + 1 + 1) = 1 + i * 3 + 1 by omega] at h1
  rw [show 0 + (i * 3 + 2 + 1) = 1 + i * 3 + 2 by omega] at h2
  exact ⟨h0, h1, h2⟩
theorem Lh.set {wt wr : World} {T : Nat} {c : Nat → La} (h : Lh wt T c wr) {n : Nat} (hn : n < 8) (x : La) : Lh wt T (updC c n x) (wr.setCells wt.heap.size (1 + n * 3) [.int .i64 x.1, .int .i64 x.2.1, .string (bs x.2.2)]) := by
  obtain ⟨m1, m2, m3, m4⟩ := setCells_more wt.heap.size [Value.int .i64 x.1, .int .i64 x.2.1, .string (bs x.2.2)] (1 + n * 3) wr
  refine ⟨fun j y hy => ?_, fun j => ?_, by rw [m1]; exact h.lt, below_sets h.below (Nat.le_refl _) _ _⟩
  · rw [Nat.zero_add]
    have hold : ∀ j' y', (Value.pointer (some ⟨T, 0, none⟩) :: ccs c)[j']? = some y' → wr.cell? ⟨wt.heap.size, j', none⟩ = some y' := fun j' y' e => by have := h.rng j' y' e; rwa [Nat.zero_add] at this
    match j with
    | 0 =>
      rw [World.cell?_setCells_out wt.heap.size _ (1 + n * 3) wr ⟨wt.heap.size, 0, none⟩ (fun _ _ => .inl (by simp; omega))]
      exact hold 0 y hy
    | j + 1 =>
      have hy' : (ccs (updC c n x))[j]? = some y := by simpa using hy
      have hj : j < 24 := by have := (List.getElem?_eq_some_iff.1 hy').1; rw [ccs_len] at this; omega
      by_cases hr : j < n * 3 ∨ n * 3 + 3 ≤ j
      · rw [World.cell?_setCells_out wt.heap.size _ (1 + n * 3) wr ⟨wt.heap.size, j + 1, none⟩ (fun _ _ => by simp; omega)]
        rw [ccs_old c x hj hr] at hy'
        exact hold (j + 1) y (by simpa using hy')
      · have e : j = n * 3 + (j - n * 3) := by omega
        rw [e, ccs_new c hn x (by omega)] at hy'
        have hth : wr.there wt.heap.size (1 + n * 3) 3 := fun i hi => by
          refine ⟨?_, h.fz _⟩
          obtain ⟨z, hz⟩ : ∃ z, (ccs c)[n * 3 + i]? = some z := ⟨_, List.getElem?_eq_getElem (by rw [ccs_len]; omega)⟩
          have := hold (n * 3 + i + 1) z (by simpa using hz)
          rw [show n * 3 + i + 1 = 1 + n * 3 + i by omega] at this
          rw [this]
          rfl
        have := World.rangeAt_setCells_same wr wt.heap.size (1 + n * 3) [.int .i64 x.1, .int .i64 x.2.1, .string (bs x.2.2)] hth (j - n * 3) y hy'
        rw [show j + 1 = 1 + n * 3 + (j - n * 3) by omega]
        exact this
  · rw [World.frozen?_setCells]
    exact h.fz j
theorem Lh.new (wt : World) (T : Nat) : (∀ L : List Value, L.length = 25 → (wt.alloc (.cells (.pointer none :: C24).toArray 69)).there wt.heap.size 0 L.toArray.size) ∧ Lh wt T (fun _ => la0) ((wt.alloc (.cells (.pointer none :: C24).toArray 69)).setCells wt.heap.size 0 (.pointer (some ⟨T, 0, none⟩) :: C24)) := by
  have hZ : (Value.pointer none :: C24).length = 25 := by rw [List.length_cons, C24_len]
  have hZ2 : (Value.pointer (some ⟨T, 0, none⟩) :: C24).length = 25 := by rw [List.length_cons, C24_len]
  have h := res_lay (w := wt) (W := wt.alloc (.cells (.pointer none :: C24).toArray 69)) hZ (Below.refl _ _)
  obtain ⟨h1, h2, h3⟩ := h _ hZ2
  obtain ⟨m1, _⟩ := setCells_more wt.heap.size (Value.pointer (some ⟨T, 0, none⟩) :: C24) 0 (wt.alloc (.cells (.pointer none :: C24).toArray 69))
  exact ⟨fun L hL => (h L hL).1, h2, fun j => by rw [World.frozen?_setCells]; exact frozenB (heap_alloc_new wt _) j, by rw [m1]; simp, h3⟩
set_option maxRecDepth 20000 in
set_option maxHeartbeats 1000000 in
theorem loadC_bad2 (s : List UInt8) (w : World) (hs : s.length ≤ 1000000) (he : Env w) (hg : good s) (hm4 : (texts s).length % 4 = 1) (hn : loadR ((texts s).headD []) = none) :
    Calls Tryd.prog 28 #[.string (bs s)] w fun e W' => e = .returned (.tuple #[.agg (.pointer none :: C24).toArray, .int .i64 4]) ∧ Below w.heap.size w W' := by
  have hz := Tryd.zero69
  have hZ : (Value.pointer none :: C24).length = 25 := by rw [List.length_cons, C24_len]
  have HA : Hid ((Value.pointer none :: C24).toArray.all (·.oneCell') = true) := all_oneCell_toArray (hcs_one sh0 0)
  have he1 := he.next ((Below.refl w.heap.size w).alloc (Nat.le_refl _) (.cells (Value.pointer none :: C24).toArray 69))
  have hU := Unpack_any s (WR w (.pointer none :: C24)) hs he1
  rw [show errOf s = 0 from if_pos hg] at hU
  have HL : Hid (∀ W, Below (WR w (.pointer none :: C24)).heap.size (WR w (.pointer none :: C24)) W → ∀ L : List Value, L.length = 25 → W.there w.heap.size 0 L.toArray.size ∧ (W.setCells w.heap.size 0 L).rangeAt w.heap.size 0 L ∧ Below w.heap.size w (W.setCells w.heap.size 0 L)) := fun W hb => res_lay hZ hb
  obtain ⟨a, r, hL⟩ : ∃ a r, texts s = a :: r := by
    cases e : texts s with
    | nil => rw [e] at hm4; simp at hm4
    | cons a r => exact ⟨a, r, rfl⟩
  have ha : a.length ≤ 1000000 := Nat.le_trans (text_small (by rw [hL]; exact List.mem_cons_self ..)) hs
  have HT : Hid (∀ W, Below (WR w (.pointer none :: C24)).heap.size (WR w (.pointer none :: C24)) W → Calls Tryd.prog 43 #[.string (bs a)] W fun e W' => e = .returned (.tuple #[.pointer none, .int .i64 4]) ∧ Below W.heap.size W W') := fun W hb => by
    have := Load_any a W ha (he1.next hb)
    rw [hL] at hn
    rw [show loadR a = none from hn] at this
    exact this
  have hm : (((texts s).length : Int) % 4 != 1) = false := by simp; omega
  have h0 : (texts s)[0]? = some a := by rw [hL]; rfl
  have hp : (0 : Int) < ((texts s).length : Int) := by rw [hL]; simp
  have hp2 : 0 < (texts s).length := by rw [hL]; simp
  obtain ⟨C, hC⟩ : ∃ C, C24 = C := ⟨_, rfl⟩
  rw [hC] at hz hZ HA hU HL HT
  rw [hC]
  have HS : Hid ((Tryd.prog.info? 69).map (·.size) = some (Value.pointer none :: C).toArray.size) := by show _ = _; rw [List.size_toArray, hZ]; exact Tryd.size69
  have HZ : Hid (_) := hZ
  clear hL hn hm4
  obtain ⟨L, hL⟩ : ∃ L, texts s = L := ⟨_, rfl⟩
  rw [hL] at hU hm h0 hp hp2
  clear hC hZ he hs he1 hL hg
  go_enter Tryd.func28, Tryd.ntmps28
  go_wp2_with (first
    | (go_at_call 24; refine hU.mono ?_; clear hU; rintro e w1 ⟨v, rfl, hown, hb1⟩; obtain ⟨va, vc, rfl⟩ := owns_slice hown; obtain ⟨b, o, rfl, hb0, hcc⟩ := (Sl.of_owns hown).at2 h0; have c0 := hcc 0 _ h0; rw [Nat.add_zero] at c0; have ht := HT.out _ hb1; clear hown hcc HT)
    | (go_at_call 43; refine ht.mono ?_; clear ht; rintro e w2 ⟨rfl, hb2⟩; have HB : Hid (_) := HL.out _ (hb1.trans (hb2.mono hb1.size)) _ HZ.out)
    | (refine wpList_store_mid rfl 69 _ _ rfl w.heap.size 0 (Value.pointer none :: C).toArray rfl rfl HB.out.1 HS.out HA.out ?_))
  obtain ⟨_, k1, k2⟩ := HB.out
  have k3 := res69 k1 HZ.out
  exact bodyPost_ret (v := .tuple #[.agg (Value.pointer none :: C).toArray, .int .i64 4]) (results_cell rfl rfl rfl k3) rfl ⟨rfl, k2⟩
end
end Go.Proofs.YtgmobjdjojffgaaDoor
