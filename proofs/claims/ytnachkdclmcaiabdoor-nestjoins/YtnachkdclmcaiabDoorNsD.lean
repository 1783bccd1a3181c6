import Derived.Test.YtnachkdclmcaiabDoorNsC
namespace Go.Proofs.YtnachkdclmcaiabDoor
open Go.RowKit Go.Shelf
attribute [local go_sem] Oper.semAt_some

/-- Is a text that of a list that is not empty? -/
def isL (s : List UInt8) : Bool := decide (s ≠ [] ∧ good s)
theorem bad_of' {s : List UInt8} {pre : List It} (h : pre.map (·.1) <+: items s) (h0 : ∃ x ∈ pre, x.1.2 ≠ 0) : isL s = false := by
  obtain ⟨x, hx, hne⟩ := h0
  have := (bad_of h hx hne).1
  simp [isL, this]

set_option maxRecDepth 100000 in
set_option maxHeartbeats 2000000 in
theorem isList_any (s : List UInt8) (w : World) (hs : s.length ≤ 140737488355328) (he : Env w) :
    Calls Tryd.prog 22 #[.string (bs s)] w fun e W' => e = .returned (.bool (isL s)) ∧ Below w.heap.size w W' := by
  have hsz := he.size
  refine (callsIn_wide (n := 3)).1 ?_
  obtain ⟨n, hn⟩ : ∃ n, n = 3 := ⟨_, rfl⟩
  rw [← hn]
  have h1 : 1 ≤ n := by omega
  refine callsIn_of_wp_marks Tryd.func22 rfl trivial ?_ rfl
  simp only [Tryd.ntmps22, List.size_toArray, List.length_cons, List.length_nil, Nat.reduceAdd, Nat.reduceSub, Array.replicate_succ, Array.replicate_zero, List.push_toArray, List.append_toArray, List.nil_append, List.cons_append]
  gi_wp2
  refine ⟨trivial, (callsIn_wide.2 (texts_any _ _)).mono ?_⟩
  rintro e w' ⟨rfl, rfl⟩
  gi_wp2
  have b0 := Boxed.new w 4 (.bool false)
  have b3 := Boxed.new (w.alloc (.cells #[.bool false] 4)) 9 (.string (bs s))
  simp only [World.size_alloc] at b3
  have hB0 : Below w.heap.size w ((w.alloc (.cells #[.bool false] 4)).alloc (.cells #[.string (bs s)] 9)) := ((Below.refl _ w).alloc (Nat.le_refl _) _).alloc (by simp) _
  have heN := he.next hB0
  refine wpIn_rangeFunc_ownG rfl h1 (gf := 31) (lb := #[.pointer (some ⟨w.heap.size + 1, 0, none⟩)]) rfl trivial (enters_of Tryd.func31 (by kernel_rfl) rfl)
    (texts_stops (n - 1) (by omega) (w.heap.size + 1) w.heap.size hsz s (by omega) _ (by simp) b3.cell heN) belowK_t (belowK_b (by simp; omega)) (Below.refl _ _) (fun _ => rfl)
    (fun pre W => (Boxed W w.heap.size 4 (.bool false) ∧ ∀ x ∈ pre, x.1.2 = 0) ∧ Below w.heap.size w W)
    (fun c pre W => ((c = .ret ∧ ∃ x ∈ pre, x.1.2 ≠ 0) ∧ Boxed W w.heap.size 4 (.bool false)) ∧ Below w.heap.size w W)
    (OwnFrom.and (OwnFrom.and (Own.from (boxed_own _ _ _) _) (ownFrom_pure _ _)) (ownFrom_below (Nat.le_refl _) (by simp; omega)))
    (fun c => OwnFrom.and (OwnFrom.and (ownFrom_pure _ _) (Own.from (boxed_own _ _ _) _)) (ownFrom_below (Nat.le_refl _) (by simp; omega)))
    ⟨⟨b0.alloc _, by simp⟩, hB0⟩
    (fun x => { tmps := #[.string (bs s), undef, .pointer (some ⟨w.heap.size, 0, none⟩), undef, .int .i64 x.1.2, .string (bs s), .func (.func 31) #[] #[.pointer (some ⟨w.heap.size + 1, 0, none⟩)], .string (bs x.1.1), .int .i64 x.1.2, undef, undef, undef, undef], defers := [] }) ?assign ?body ?done ?stop
  case assign =>
    intro l x W K hK
    gi_wp2
    exact hK
  case body =>
    rintro l pre x W ⟨⟨hb0, hpre⟩, hB⟩ hlt
    have hc0 := hb0.cell
    have hf0 := hb0.frozen
    by_cases hx0 : x.1.2 = 0
    · have hq : (x.1.2 != 0) = false := by simp [hx0]
      gi_wp2
      refine ⟨KeepsFrom.refl _ _, Below.refl _ _, ⟨hb0, ?_⟩, hB⟩
      intro y hy
      rcases List.mem_append.1 hy with h | h
      · exact hpre y h
      · rw [List.mem_singleton.1 h]; exact hx0
    · have hq : (x.1.2 != 0) = true := by simp [hx0]
      gi_wp2
      have hmem : x ∈ pre ++ [x] := by simp
      refine ⟨(KeepsOthers.setCell _ _ _).from _, ⟨⟨rfl, x, hmem, hx0⟩, hb0.set _⟩, hB.setCell (p := ⟨w.heap.size, 0, none⟩) (Nat.le_refl _) _⟩
  case done =>
    rintro D ys W hD hS ⟨⟨hb0, hpre⟩, hB⟩ hK
    have hc0 := hb0.cell
    have hf0 := hb0.frozen
    have hg := good_of hS hpre
    obtain ⟨bv, hbv⟩ : ∃ bv : Bool, isL s = bv := ⟨_, rfl⟩
    have hE : (bs s).toList.isEmpty = !bv := by
      rw [ByteArray.toList_eq, bs_list, ← hbv, isL]
      cases s <;> simp [hg]
    have hD4 : w.heap.size + 2 ≤ D := by simp only [World.size_alloc] at hD; omega
    cases bv
    · gi_wp2
      have hK2 := (KeepsOthers.setCell W ⟨w.heap.size, 0, none⟩ (.bool false)).same D _ hK rfl
      have k0 := ((hb0.set (.bool false)).kept (grownBy_putObj' _ D (.deferred none)) (by simp; omega)).cell
      have hBB := (hB.setCell (p := ⟨w.heap.size, 0, none⟩) (Nat.le_refl _) (.bool false)).trans (belowK_b (w := w) (Nat.le_refl _) _ D _ (.deferred none) (by omega) hK2 rfl rfl)
      refine ⟨by simp, .inl ⟨_, _, rfl, run_takeDeferred hK2, ?_⟩⟩
      refine ⟨.bool false, ?_, by rw [hbv], hBB⟩
      simp [results, Tryd.f22, go_sem, k0]
    · gi_wp2
      have hK2 := (KeepsOthers.setCell W ⟨w.heap.size, 0, none⟩ (.bool true)).same D _ hK rfl
      have k0 := ((hb0.set (.bool true)).kept (grownBy_putObj' _ D (.deferred none)) (by simp; omega)).cell
      have hBB := (hB.setCell (p := ⟨w.heap.size, 0, none⟩) (Nat.le_refl _) (.bool true)).trans (belowK_b (w := w) (Nat.le_refl _) _ D _ (.deferred none) (by omega) hK2 rfl rfl)
      refine ⟨by simp, .inl ⟨_, _, rfl, run_takeDeferred hK2, ?_⟩⟩
      refine ⟨.bool true, ?_, by rw [hbv], hBB⟩
      simp [results, Tryd.f22, go_sem, k0]
  case stop =>
    rintro D c pre W hD hSp ⟨⟨⟨rfl, hx⟩, hb0⟩, hB⟩ hK
    have hc0 := hb0.cell
    have hbv := bad_of' hSp hx
    gi_wp2
    have hD4 : w.heap.size + 2 ≤ D := by simp only [World.size_alloc] at hD; omega
    have k0 := (hb0.kept (grownBy_putObj' _ D (.deferred none)) (by simp; omega)).cell
    have hBB := hB.trans (belowK_b (w := w) (Nat.le_refl _) _ D _ (.deferred none) (by omega) hK rfl rfl)
    refine ⟨by simp, .inl ⟨_, _, rfl, run_takeDeferred hK, ?_⟩⟩
    refine ⟨.bool false, ?_, by rw [hbv], hBB⟩
    simp [results, Tryd.f22, go_sem, k0]
end Go.Proofs.YtnachkdclmcaiabDoor
