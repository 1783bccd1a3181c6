import Derived.Test.YtmkjcfakopbdhaaGreatDoorNsB
namespace Go.Proofs.YtmkjcfakopbdhaaGreatDoor
open Go.RowKit Go.Shelf
attribute [local go_sem] Oper.semAt_some

theorem items_err {s : List UInt8} : ∀ x ∈ items s, x.2 = 0 ∨ x.2 = 4 := by
  induction h : s.length using Nat.strongRecOn generalizing s with
  | _ k ih =>
    intro x hx
    by_cases h0 : s = []
    · subst h0; rw [items_nil] at hx; cases hx
    · cases hf : firstL 19 s with
      | none => rw [items_none h0 hf] at hx; simp at hx; exact .inr (by rw [hx])
      | some ab =>
        obtain ⟨a, b⟩ := ab
        rw [items_some h0 hf] at hx
        have := first_len hf
        rcases List.mem_cons.1 hx with rfl | hx
        · exact .inl rfl
        · exact ih b.length (by omega) rfl x hx
theorem items_count {s : List UInt8} : (items s).length ≤ s.length := by
  induction h : s.length using Nat.strongRecOn generalizing s with
  | _ k ih =>
    by_cases h0 : s = []
    · subst h0; rw [items_nil]; simp
    · cases hf : firstL 19 s with
      | none =>
        rw [items_none h0 hf]
        have : 0 < s.length := List.length_pos_iff.2 h0
        simp only [List.length_cons, List.length_nil]; omega
      | some ab =>
        obtain ⟨a, b⟩ := ab
        rw [items_some h0 hf]
        have := first_len hf
        have := ih b.length (by omega) rfl
        simp only [List.length_cons]
        omega

/-- Is a text that of a list? -/
def goodB (s : List UInt8) : Bool := decide (∀ x ∈ items s, x.2 = 0)
abbrev good (s : List UInt8) : Prop := goodB s = true
theorem good_iff {s : List UInt8} : good s ↔ ∀ x ∈ items s, x.2 = 0 := decide_eq_true_iff
/-- The list that a text is; the empty one where it is none. -/
def texts (s : List UInt8) : List (List UInt8) := if good s then (items s).map (·.1) else []
def errOf (s : List UInt8) : Int := if good s then 0 else 4

/-- Texts as cells. -/
def strs (l : List (List UInt8)) : List Value := l.map fun t => .string (bs t)

theorem Tryz.info9 : (Tryz.prog.info? 9).map (fun i => (i.zero, i.size, i.bytes)) = some (some (.string ⟨#[]⟩), 1, 16) := by kernel_rfl

theorem owns_sliceN {w : World} {base n : Nat} {e : TypeId} {s : Nat} {v : Value} {xs : List Value} (h : w.ownsRow base e s v n xs) : ∃ a cap, v = .slice a n cap := by
  rcases h.2 with ⟨rfl, rfl⟩ | ⟨g, cap, cur, rfl, _⟩
  · exact ⟨none, 0, rfl⟩
  · exact ⟨_, cap, rfl⟩
theorem strs_len (l : List (List UInt8)) : (strs l).length = l.length := by simp [strs]
theorem good_of {s : List UInt8} {ys : List It} (h : ys.map (·.1) = items s) (h0 : ∀ x ∈ ys, x.1.2 = 0) : good s := by
  refine good_iff.2 ?_
  intro x hx
  rw [← h] at hx
  obtain ⟨y, hy, rfl⟩ := List.mem_map.1 hx
  exact h0 y hy
theorem texts_of {s : List UInt8} {ys : List It} (h : ys.map (·.1) = items s) (h0 : ∀ x ∈ ys, x.1.2 = 0) : texts s = ys.map (·.1.1) := by
  rw [texts, if_pos (good_of h h0), ← h, List.map_map]
  rfl
theorem bad_of {s : List UInt8} {pre : List It} (h : pre.map (·.1) <+: items s) {x : It} (hx : x ∈ pre) (hne : x.1.2 ≠ 0) : ¬ good s ∧ x.1.2 = 4 := by
  have hm : x.1 ∈ items s := h.subset (List.mem_map_of_mem hx)
  refine ⟨fun hg => hne (good_iff.1 hg _ hm), ?_⟩
  rcases items_err _ hm with h | h
  · exact absurd h hne
  · exact h

set_option maxRecDepth 100000 in
set_option maxHeartbeats 2000000 in
theorem Unpack_any (s : List UInt8) (w : World) (hs : s.length ≤ 1000000) (he : Env w) :
    Calls Tryz.prog 19 #[.string (bs s)] w fun e W' => ∃ v, e = .returned (.tuple #[v, .int .i64 (errOf s)]) ∧ W'.ownsRow w.heap.size 9 1 v (texts s).length (strs (texts s)) ∧ Below w.heap.size w W' := by
  have hcount := items_count (s := s)
  have hsz := he.size
  refine (callsIn_wide (n := 3)).1 ?_
  obtain ⟨n, hn⟩ : ∃ n, n = 3 := ⟨_, rfl⟩
  rw [← hn]
  have h1 : 1 ≤ n := by omega
  obtain ⟨i0, hi, hz0, hz1, hz2⟩ := info_parts Tryz.info9
  refine callsIn_of_wp_marks Tryz.func19 rfl trivial ?_ rfl
  simp only [Tryz.ntmps19, List.size_toArray, List.length_cons, List.length_nil, Nat.reduceAdd, Nat.reduceSub, Array.replicate_succ, Array.replicate_zero, List.push_toArray, List.append_toArray, List.nil_append, List.cons_append]
  gi_wp2
  refine ⟨trivial, (callsIn_wide.2 (texts_any _ _)).mono ?_⟩
  rintro e w' ⟨rfl, rfl⟩
  gi_wp2
  have b0 := Boxed.new w 49 (.slice none 0 0)
  have b1 := Boxed.new (w.alloc (.cells #[.slice none 0 0] 49)) 28 (.int .i64 0)
  have b2 := Boxed.new ((w.alloc (.cells #[.slice none 0 0] 49)).alloc (.cells #[.int .i64 0] 28)) 49 (.slice none 0 0)
  have b3 := Boxed.new (((w.alloc (.cells #[.slice none 0 0] 49)).alloc (.cells #[.int .i64 0] 28)).alloc (.cells #[.slice none 0 0] 49)) 9 (.string (bs s))
  simp only [World.size_alloc] at b1 b2 b3
  have hB0 : Below w.heap.size w ((((w.alloc (.cells #[.slice none 0 0] 49)).alloc (.cells #[.int .i64 0] 28)).alloc (.cells #[.slice none 0 0] 49)).alloc (.cells #[.string (bs s)] 9)) := ((((Below.refl _ w).alloc (Nat.le_refl _) _).alloc (by simp) _).alloc (by simp; omega) _).alloc (by simp; omega) _
  have heN := he.next hB0
  refine wpIn_rangeFunc_ownG rfl h1 (gf := 53) (lb := #[.pointer (some ⟨w.heap.size + 1 + 1 + 1, 0, none⟩)]) rfl trivial (enters_of Tryz.func53 (by kernel_rfl) rfl)
    (texts_stops (n - 1) (by omega) (w.heap.size + 1 + 1 + 1) w.heap.size hsz s (by omega) _ (by simp) b3.cell heN) belowK_t (belowK_b (by simp; omega)) (Below.refl _ _) (fun _ => rfl)
    (fun pre W => ((∃ v, Boxed W (w.heap.size + 1 + 1) 49 v ∧ W.ownsRow w.heap.size 9 1 v pre.length (strs (pre.map (·.1.1))) ∧ True) ∧ (Boxed W w.heap.size 49 (.slice none 0 0) ∧ (Boxed W (w.heap.size + 1) 28 (.int .i64 0) ∧ ∀ x ∈ pre, x.1.2 = 0))) ∧ Below w.heap.size w W)
    (fun c pre W => ((c = .ret ∧ ∃ x ∈ pre, x.1.2 ≠ 0) ∧ (Boxed W w.heap.size 49 (.slice none 0 0) ∧ (∃ x ∈ pre, x.1.2 ≠ 0 ∧ Boxed W (w.heap.size + 1) 28 (.int .i64 x.1.2)))) ∧ Below w.heap.size w W)
    (OwnFrom.and (OwnFrom.and (Own.from (holdsRow_own w.heap.size (w.heap.size + 1 + 1) 49 9 1 (fun (pre : List It) => pre.length) (fun (pre : List It) => strs (pre.map (·.1.1))) (fun _ _ => True)) _) (OwnFrom.and (Own.from (boxed_own _ _ _) _) (OwnFrom.and (Own.from (boxed_own _ _ _) _) (ownFrom_pure _ _)))) (ownFrom_below (Nat.le_refl _) (by simp; omega)))
    (fun c => OwnFrom.and (OwnFrom.and (ownFrom_pure _ _) (OwnFrom.and (Own.from (boxed_own _ _ _) _) (fun s X Y row hs hg hr => by
      obtain ⟨x, hx, hne, hb⟩ := hs
      exact ⟨x, hx, hne, (Own.from (boxed_own (β := Unit) (w.heap.size + 1) 28 (fun _ => .int .i64 x.1.2)) _) () X Y row hb hg hr⟩))) (ownFrom_below (Nat.le_refl _) (by simp; omega)))
    ⟨⟨⟨_, b2.alloc _, World.ownsRow_nil _ _ _ _, trivial⟩, ((b0.alloc _).alloc _).alloc _, (b1.alloc _).alloc _, by simp⟩, hB0⟩
    (fun x => { tmps := #[.string (bs s), undef, .pointer (some ⟨w.heap.size, 0, none⟩), .pointer (some ⟨w.heap.size + 1, 0, none⟩), .pointer (some ⟨w.heap.size + 1 + 1, 0, none⟩), .string (bs x.1.1), .int .i64 x.1.2, .string (bs s), .func (.func 53) #[] #[.pointer (some ⟨w.heap.size + 1 + 1 + 1, 0, none⟩)], .string (bs x.1.1), .int .i64 x.1.2, undef, undef, undef, undef, undef, undef, undef, undef], defers := [] }) ?assign ?body ?done ?stop
  case assign =>
    intro l x W K hK
    gi_wp2
    exact hK
  case body =>
    rintro l pre x W ⟨⟨⟨v, hv, hrow, _⟩, hb0, hb1, hpre⟩, hB⟩ hlt
    have hc := hv.cell
    have hc0 := hb0.cell
    have hf0 := hb0.frozen
    have hc1 := hb1.cell
    have hf1 := hb1.frozen
    by_cases hx0 : x.1.2 = 0
    · have hq : (x.1.2 != 0) = false := by simp [hx0]
      have hml : pre.length + 1 ≤ maxLen := by unfold maxLen; omega
      gi_wp2_with (gi_at_builtin; refine wpListIn_append_own _ rfl _ _ 49 rfl w.heap.size 9 i0 (.string ⟨#[]⟩) 1 16 Tryz.underlying49 hi hz0 hz1 hz2 rfl (by decide) _ _ _ rfl (hrow.alloc _) ⟨W.heap.size, 0, none⟩ 1 1 [.string (bs x.1.1)] rfl rfl (cell_one_new _ _ _) (by simp [Value.oneCell']) hml (by omega) (by have := hB.size; simp; omega) ?_; intro v' w1 hown' hgrow _; obtain ⟨g', cap', rfl⟩ := ownsRow_succ hown'; obtain ⟨hv1, hv2, hr2, hk2, hb2⟩ := hv.appended (by decide) hrow hB.size (by omega) hown' hgrow; have hc1' := hv1.cell; have hf1' := hv1.frozen)
      have hnr0 : some w.heap.size ≠ v.ownBlock := hb0.not_row (by decide) hrow
      have hnr1 : some (w.heap.size + 1) ≠ v.ownBlock := hb1.not_row (by decide) hrow
      refine ⟨hk2.from _, hb2, ⟨⟨_, hv2, ?_, trivial⟩, ((hb0.alloc _).kept hgrow hnr0).other (by omega) _, ((hb1.alloc _).kept hgrow hnr1).other (by omega) _, ?_⟩, hB.trans hb2⟩
      · have e1 : strs ((pre ++ [x]).map (·.1.1)) = strs (pre.map (·.1.1)) ++ [.string (bs x.1.1)] := by simp [strs]
        rw [e1, List.length_append]
        exact hr2
      · intro y hy
        rcases List.mem_append.1 hy with h | h
        · exact hpre y h
        · rw [List.mem_singleton.1 h]; exact hx0
    · have hq : (x.1.2 != 0) = true := by simp [hx0]
      gi_wp2
      have hmem : x ∈ pre ++ [x] := by simp
      refine ⟨((KeepsOthers.setCell _ _ _).trans (KeepsOthers.setCell _ _ _)).from _, ⟨⟨rfl, x, hmem, hx0⟩, (hb0.set _).other (by omega) _, x, hmem, hx0, (hb1.other (by omega) _).set _⟩, (hB.setCell (p := ⟨w.heap.size, 0, none⟩) (Nat.le_refl _) _).setCell (p := ⟨w.heap.size + 1, 0, none⟩) (by simp) _⟩
  case done =>
    rintro D ys W hD hS ⟨⟨⟨v, hv, hrow, _⟩, hb0, hb1, hpre⟩, hB⟩ hK
    obtain ⟨va, vc, rfl⟩ := owns_sliceN hrow
    have hc := hv.cell
    have hc0 := hb0.cell
    have hf0 := hb0.frozen
    have hc1 := hb1.cell
    have hf1 := hb1.frozen
    gi_wp2
    have hD4 : w.heap.size + 4 ≤ D := by simp only [World.size_alloc] at hD; omega
    have hK2 := ((KeepsOthers.setCell W ⟨w.heap.size, 0, none⟩ (.slice va ys.length vc)).trans (KeepsOthers.setCell _ ⟨w.heap.size + 1, 0, none⟩ (.int .i64 0))).same D _ hK rfl
    have k0 := (((hb0.set (.slice va ys.length vc)).other (B' := w.heap.size + 1) (by omega) (.int .i64 0)).kept (grownBy_putObj' _ D (.deferred none)) (by simp; omega)).cell
    have k1 := (((hb1.other (B' := w.heap.size) (by omega) (.slice va ys.length vc)).set (.int .i64 0)).kept (grownBy_putObj' _ D (.deferred none)) (by simp; omega)).cell
    have hnr0 := hb0.not_row (by decide) hrow
    have hnr1 := hb1.not_row (by decide) hrow
    have r2 := ownsRow_putObj ((hrow.kept (grownBy_setCell' W w.heap.size (.slice va ys.length vc)) (.inr (Ne.symm hnr0))).kept (grownBy_setCell' _ (w.heap.size + 1) (.int .i64 0)) (.inr (Ne.symm hnr1))) (.deferred none) hK2 rfl
    have hBB := ((hB.setCell (p := ⟨w.heap.size, 0, none⟩) (Nat.le_refl _) (.slice va ys.length vc)).setCell (p := ⟨w.heap.size + 1, 0, none⟩) (by simp) (.int .i64 0)).trans (belowK_b (w := w) (Nat.le_refl _) _ D _ (.deferred none) (by omega) hK2 rfl rfl)
    refine ⟨by simp, .inl ⟨_, _, rfl, run_takeDeferred hK2, ?_⟩⟩
    refine ⟨.tuple #[.slice va ys.length vc, .int .i64 0], ?_, .slice va ys.length vc, ?_, ?_, hBB⟩
    · simp [results, Tryz.f19, go_sem, k0, k1]
    · rw [errOf, if_pos (good_of hS hpre)]
    · rw [texts_of hS hpre, List.length_map]
      exact r2
  case stop =>
    rintro D c pre W hD hSp ⟨⟨⟨rfl, _⟩, hb0, x, hx, hne, hb1⟩, hB⟩ hK
    have hc0 := hb0.cell
    have hc1 := hb1.cell
    obtain ⟨hng, hx4⟩ := bad_of hSp hx hne
    rw [hx4] at hb1 hc1
    gi_wp2
    have hD4 : w.heap.size + 4 ≤ D := by simp only [World.size_alloc] at hD; omega
    have k0 := (hb0.kept (grownBy_putObj' _ D (.deferred none)) (by simp; omega)).cell
    have k1 := (hb1.kept (grownBy_putObj' _ D (.deferred none)) (by simp; omega)).cell
    have hBB := hB.trans (belowK_b (w := w) (Nat.le_refl _) _ D _ (.deferred none) (by omega) hK rfl rfl)
    refine ⟨by simp, .inl ⟨_, _, rfl, run_takeDeferred hK, ?_⟩⟩
    refine ⟨.tuple #[.slice none 0 0, .int .i64 4], ?_, .slice none 0 0, ?_, ?_, hBB⟩
    · simp [results, Tryz.f19, go_sem, k0, k1]
    · rw [errOf, if_neg hng]
    · rw [texts, if_neg hng]
      exact World.ownsRow_nil _ _ _ _
end Go.Proofs.YtmkjcfakopbdhaaGreatDoor
