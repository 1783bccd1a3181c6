import Derived.Test.YtnachkdclmcaiabDoorNsD
namespace Go.Proofs.YtnachkdclmcaiabDoor
open Go.RowKit Go.Shelf
attribute [local go_sem] Oper.semAt_some

/-- v is a slice of just these texts. -/
def Sl (w : World) (v : Value) (l : List (List UInt8)) : Prop :=
  (l = [] ∧ ∃ a c, v = .slice a 0 c) ∨ ∃ b o cap, v = .slice (some ⟨b, o, none⟩) l.length cap ∧ b < w.heap.size ∧ ∀ (i : Nat) t, l[i]? = some t → w.cell? ⟨b, o + i, none⟩ = some (.string (bs t))
theorem Sl.below {w w' : World} {v : Value} {l : List (List UInt8)} (h : Sl w v l) {B : Nat} (hb : Below B w w') (hB : w.heap.size ≤ B) : Sl w' v l := by
  rcases h with h | ⟨b, o, cap, rfl, hlt, h⟩
  · exact .inl h
  · exact .inr ⟨b, o, cap, rfl, Nat.lt_of_lt_of_le hlt hb.size, fun i t ht => (hb.cell (p := ⟨b, o + i, none⟩) (by show b < B; omega)).trans (h i t ht)⟩
theorem Sl.slice {w : World} {v : Value} {l : List (List UInt8)} (h : Sl w v l) : ∃ a c, v = .slice a l.length c := by
  rcases h with ⟨rfl, a, c, rfl⟩ | ⟨b, o, cap, rfl, _⟩
  · exact ⟨a, c, rfl⟩
  · exact ⟨_, _, rfl⟩
theorem Sl.of_owns {w : World} {v : Value} {l : List (List UInt8)} {base : Nat} (h : w.ownsRow base 9 1 v l.length (strs l)) : Sl w v l := by
  obtain ⟨hl, h⟩ := h
  rcases h with ⟨rfl, h0⟩ | ⟨g, cap, cur, rfl, hb, hh, h1, h2, h3, h4⟩
  · exact .inl ⟨List.length_eq_zero_iff.1 h0, none, 0, rfl⟩
  · refine .inr ⟨g, 0, cap, rfl, (Array.getElem?_eq_some_iff.1 hh).1, fun i t ht => ?_⟩
    have hi : i < l.length := (List.getElem?_eq_some_iff.1 ht).1
    have e : (cur.toList.take (l.length * 1))[i]? = some (.string (bs t)) := by rw [h4]; simp [strs, ht]
    rw [List.getElem?_take_of_lt (by omega)] at e
    simp [World.cell?, hh]
    simpa using e

def mark (D : Nat) : Deferred := { target := .collected D, args := #[] }
theorem leaves_marks {F : Fence} {n : Nat} {P : Program} {fn : Func} {tmps : Array Value} {R : Ending → World → Prop} (J : World → Prop) : ∀ (ds : List Nat) (W : World), ds.Nodup → (∀ D ∈ ds, W.heap[D]? = some (.deferred (some []))) → J W →
    (∀ W' D, D ∈ ds → J W' → W'.heap[D]? = some (.deferred (some [])) → J (W'.putObj D (.deferred none))) → (∀ W', J W' → LeavesIn F n P fn tmps R [] .returning W') → LeavesInM F n P fn tmps R (ds.map mark) .returning W
  | [], W, _, _, hJ, _, hend => hend W hJ
  | D :: ds, W, hnd, hK, hJ, hst, hend => by
    obtain ⟨hn1, hn2⟩ := List.nodup_cons.1 hnd
    have hKD := hK D (by simp)
    refine ⟨by simp, .inl ⟨D, _, rfl, run_takeDeferred hKD, ?_⟩⟩
    refine leaves_marks J ds _ hn2 (fun E hE => ?_) (hst W D (by simp) hJ hKD) (fun W' E hE => hst W' E (by simp [hE])) hend
    have hne : D ≠ E := fun e => hn1 (by rw [e]; exact hE)
    exact (World.putObj_heap_other (by first | exact hne | exact hne.symm)).trans (hK E (by simp [hE]))

/-- The lists that stand in lists. -/
def innerL (l : List (List UInt8)) : List (List UInt8) := l.flatMap fun s => ((items s).map (·.1)).filter isL

theorem inner_take (l : List (List UInt8)) (i : Nat) (t : List UInt8) (h : l[i]? = some t) : innerL (l.take (i + 1)) = innerL (l.take i) ++ ((items t).map (·.1)).filter isL := by
  rw [List.take_add_one, h]
  simp [innerL]
theorem inner_count (l : List (List UInt8)) : (innerL l).length ≤ (l.map List.length).sum := by
  induction l with
  | nil => simp [innerL]
  | cons a l ih =>
    have h1 : innerL (a :: l) = ((items a).map (·.1)).filter isL ++ innerL l := by simp [innerL]
    have h2 : (((items a).map (·.1)).filter isL).length ≤ ((items a).map (·.1)).length := List.length_filter_le _ _
    have h3 := items_count (s := a)
    rw [List.length_map] at h2
    rw [h1, List.length_append, List.map_cons, List.sum_cons]
    omega
theorem sum_take (l : List (List UInt8)) (i : Nat) (t : List UInt8) (h : l[i]? = some t) : ((l.take i).map List.length).sum + t.length ≤ (l.map List.length).sum := by
  obtain ⟨hi, rfl⟩ := List.getElem?_eq_some_iff.1 h
  conv => rhs; rw [← List.take_append_drop i l, List.drop_eq_getElem_cons hi]
  simp only [List.map_append, List.map_cons, List.sum_append, List.sum_cons]
  omega
theorem keeps_of_below {B : Nat} {W W' : World} (h : Below W.heap.size W W') : KeepsFrom B W W' := ⟨h.size, fun k _ _ hk _ => (h.block k (Array.getElem?_eq_some_iff.1 hk).1).trans hk⟩
def left9 (N : Nat) (a : Act) : Nat := match a.tmps.getD 9 undef with
  | .int _ i => N - i.toNat
  | _ => 0
theorem left9_lt (N i : Nat) (hi : i < N) (a b : Act) (ha : a.tmps.getD 9 undef = .int .i64 ((i : Int) + 1)) (hb : b.tmps.getD 9 undef = .int .i64 (i : Int)) : left9 N a < left9 N b := by
  simp only [left9, ha, hb]
  omega
theorem own_kept {w w' : World} {base n : Nat} {e : TypeId} {s : Nat} {v : Value} {xs : List Value} (h : w.ownsRow base e s v n xs) (hb : Below w.heap.size w w') : w'.ownsRow base e s v n xs := by
  refine h.kept (grown_of_below hb) ?_
  rcases h.2 with ⟨rfl, _⟩ | ⟨g, cap, cur, rfl, _⟩
  · exact .inl rfl
  · exact .inr (by simp [Value.ownBlock])

set_option maxRecDepth 100000 in
set_option maxHeartbeats 2000000 in
theorem inner_any (l : List (List UInt8)) (v : Value) (w : World) (hl : (l.map List.length).sum ≤ 1000000) (hll : l.length ≤ 1000000) (he : Env w) (hv : Sl w v l) :
    Calls Tryd.prog 23 #[v] w fun e W' => ∃ u, e = .returned u ∧ W'.ownsRow w.heap.size 9 1 u (innerL l).length (strs (innerL l)) ∧ Below w.heap.size w W' := by
  have hsz := he.size
  refine (callsIn_wide (n := 3)).1 ?_
  obtain ⟨n, hn⟩ : ∃ n, n = 3 := ⟨_, rfl⟩
  rw [← hn]
  have h1 : 1 ≤ n := by omega
  have h2 : 1 ≤ n - 1 := by omega
  have h3 : 1 ≤ n - 1 - 1 := by omega
  clear hn
  obtain ⟨i0, hi, hz0, hz1, hz2⟩ := info_parts Tryd.info9
  obtain ⟨va, vc, rfl⟩ := hv.slice
  refine callsIn_of_wp_marks Tryd.func23 rfl trivial ?_ rfl
  simp only [Tryd.ntmps23, List.size_toArray, List.length_cons, List.length_nil, Nat.reduceAdd, Nat.reduceSub, Array.replicate_succ, Array.replicate_zero, List.push_toArray, List.append_toArray, List.nil_append, List.cons_append]
  gi_wp2
  have b0 := Boxed.new w 22 (.slice none 0 0)
  refine wpIn_loop (fun a W => ∃ (i : Nat) (ds : List Nat) (u5 u10 u11 u12 u13 u14 u23 : Value),
      a = { tmps := #[.slice va l.length vc, undef, .slice none 0 0, .pointer (some ⟨w.heap.size, 0, none⟩), undef, u5, undef, .slice va l.length vc, .int .i64 l.length, .int .i64 i, u10, u11, u12, u13, u14, undef, undef, undef, undef, undef, undef, undef, undef, u23, undef], defers := ds.map mark } ∧
      i ≤ l.length ∧ Below w.heap.size w W ∧ ds.Nodup ∧ (∀ D ∈ ds, w.heap.size + 1 ≤ D ∧ W.heap[D]? = some (.deferred (some []))) ∧
      ∃ u, Boxed W w.heap.size 22 u ∧ W.ownsRow w.heap.size 9 1 u (innerL (l.take i)).length (strs (innerL (l.take i)))) (fun a _ => left9 l.length a) ?_ ?_
  · exact ⟨0, [], undef, undef, undef, undef, undef, undef, undef, rfl, Nat.zero_le _, (Below.refl _ w).alloc (Nat.le_refl _) _, List.nodup_nil, by simp, _, b0, World.ownsRow_nil _ _ _ _⟩
  · rintro a W ⟨i, ds, u5, u10, u11, u12, u13, u14, u23, rfl, hil, hB, hnd, hK, u, hb, hrow⟩
    obtain ⟨ua, uc, rfl⟩ := owns_slice hrow
    have hc := hb.cell
    by_cases hi1 : i = l.length
    · subst hi1
      rw [List.take_length] at hrow hb hc
      gi_wp2
      refine leaves_marks (fun W' => W'.ownsRow w.heap.size 9 1 (.slice ua (innerL l).length uc) (innerL l).length (strs (innerL l)) ∧ Below w.heap.size w W') ds W hnd (fun D hD => (hK D hD).2) ⟨hrow, hB⟩ ?_ ?_
      · rintro W' D hD ⟨r1, r2⟩ hkD
        have := (hK D hD).1
        exact ⟨ownsRow_putObj r1 _ hkD rfl, r2.trans (belowK_b (w := w) (Nat.le_refl _) _ D _ (.deferred none) (by omega) hkD rfl rfl)⟩
      · rintro W' ⟨r1, r2⟩
        refine ⟨_, results_tmp rfl _ _ _, .slice ua (innerL l).length uc, rfl, r1, r2⟩
    · have hi2 : i < l.length := by omega
      obtain ⟨t, ht⟩ : ∃ t, l[i]? = some t := ⟨_, List.getElem?_eq_getElem hi2⟩
      have hsum := sum_take l i t ht
      have hcnt := inner_count (l.take i)
      have htake := inner_take l i t ht
      have hcount := items_count (s := t)
      rcases hv.below hB (Nat.le_refl _) with ⟨rfl, _⟩ | ⟨vb, vo, vcap, hve, _, hvc⟩
      · cases ht
      injection hve with hva _ hvcap
      subst hva hvcap
      have hct := hvc i t ht
      clear ht hvc
      gi_wp2
      refine ⟨trivial, (callsIn_wide.2 (texts_any _ _)).mono ?_⟩
      rintro e w' ⟨rfl, rfl⟩
      gi_wp2
      have bN := Boxed.new W 9 (.string (bs t))
      have hB1 := hB.alloc hB.size (.cells #[.string (bs t)] 9)
      have heN := he.next hB1
      have hBW : w.heap.size < W.heap.size := hb.lt
      refine wpIn_rangeFunc_ownG rfl h1 (gf := 31) (lb := #[.pointer (some ⟨W.heap.size, 0, none⟩)]) rfl trivial (enters_of Tryd.func31 (by kernel_rfl) rfl)
        (texts_stops (n - 1) (by omega) W.heap.size w.heap.size hsz t (by omega) _ (by simp) bN.cell heN) belowK_t (belowK_b (by simp; omega)) (Below.refl _ _) (fun _ => rfl)
        (fun pre W' => ((∃ v, Boxed W' w.heap.size 22 v ∧ W'.ownsRow w.heap.size 9 1 v ((innerL (l.take i)).length + ((pre.map (·.1.1)).filter isL).length) (strs (innerL (l.take i) ++ (pre.map (·.1.1)).filter isL)) ∧ True) ∧ (∀ D ∈ ds, W'.heap[D]? = some (.deferred (some [])))) ∧ Below w.heap.size w W')
        (fun _ _ _ => False)
        (OwnFrom.and (OwnFrom.and (Own.from (holdsRow_own w.heap.size w.heap.size 22 9 1 (fun (pre : List It) => (innerL (l.take i)).length + ((pre.map (·.1.1)).filter isL).length) (fun (pre : List It) => strs (innerL (l.take i) ++ (pre.map (·.1.1)).filter isL)) (fun _ _ => True)) _) (fun s X Y row hs hg hr D hD => by
          have h0 := hs D hD
          have hDW : D < W.heap.size := (Array.getElem?_eq_some_iff.1 (hK D hD).2).1
          refine (hg.block D (Array.getElem?_eq_some_iff.1 h0).1 (fun e' => ?_)).trans h0
          have := (hr D e'.symm).1
          simp only [World.size_alloc] at this
          omega)) (ownFrom_below (Nat.le_refl _) (by simp; omega)))
        (fun _ _ _ _ _ hs _ _ => hs)
        ⟨⟨⟨_, hb.alloc _, by simpa using hrow.alloc _, trivial⟩, fun D hD => (Below.heap_alloc W _ D (Array.getElem?_eq_some_iff.1 (hK D hD).2).1).trans (hK D hD).2⟩, hB1⟩
        (fun x => { tmps := #[.slice (some ⟨vb, vo, none⟩) l.length vc, undef, .slice none 0 0, .pointer (some ⟨w.heap.size, 0, none⟩), undef, .string (bs t), .string (bs x.1.1), .slice (some ⟨vb, vo, none⟩) l.length vc, .int .i64 l.length, .int .i64 i, .bool true, .pointer (some ⟨vb, vo + i, none⟩), .string (bs t), .string (bs t), .func (.func 31) #[] #[.pointer (some ⟨W.heap.size, 0, none⟩)], .string (bs x.1.1), .int .i64 x.1.2, undef, undef, undef, undef, undef, undef, u23, undef], defers := [] }) ?assign ?body ?done ?stop
      case assign =>
        intro l x W K hK
        gi_wp2
        exact hK
      case body =>
        rintro l' pre x W' ⟨⟨⟨v, hv2, hrow2, _⟩, hK2⟩, hB2⟩ hlt
        gi_wp2
        refine ⟨trivial, (CallsIn.inRound l' (callsIn_wide.2 (isList_any x.1.1 W' x.2 (he.next hB2)))).mono ?_⟩
        rintro e W1 ⟨rfl, hb1⟩
        have hv3 := hv2.kept (grown_of_below hb1) (by simp)
        have hrow3 := own_kept hrow2 hb1
        have hB3 := hB2.trans (hb1.mono hB2.size)
        have hK3 : ∀ D ∈ ds, W1.heap[D]? = some (.deferred (some [])) := fun D hD => (hb1.block D (Array.getElem?_eq_some_iff.1 (hK2 D hD)).1).trans (hK2 D hD)
        have hkf : KeepsFrom (W.alloc (.cells #[.string (bs t)] 9)).heap.size W' W1 := keeps_of_below hb1
        have hc3 := hv3.cell
        cases hx : isL x.1.1 with
        | false =>
          gi_wp2
          have e1 : ((pre ++ [x]).map (·.1.1)).filter isL = (pre.map (·.1.1)).filter isL := by simp [hx]
          refine ⟨hkf, hb1.mono hB2.size, ⟨⟨v, hv3, ?_, trivial⟩, hK3⟩, hB3⟩
          rw [e1]
          exact hrow3
        | true =>
          have e1 : ((pre ++ [x]).map (·.1.1)).filter isL = (pre.map (·.1.1)).filter isL ++ [x.1.1] := by simp [hx]
          have hfl : ((pre.map (·.1.1)).filter isL).length ≤ pre.length := by
            have := List.length_filter_le isL (pre.map (·.1.1))
            rw [List.length_map] at this
            exact this
          obtain ⟨k, hk⟩ : ∃ k, (innerL (l.take i)).length + ((pre.map (·.1.1)).filter isL).length = k := ⟨_, rfl⟩
          rw [hk] at hrow3 hrow2
          have hml : k + 1 ≤ maxLen := by unfold maxLen; omega
          have hk6 : (k + 1) * 16 ≤ 140737488355328 := by omega
          gi_wp2_with (gi_at_builtin; refine wpListIn_append_own _ rfl _ _ 22 rfl w.heap.size 9 i0 (.string ⟨#[]⟩) 1 16 Tryd.underlying22 hi hz0 hz1 hz2 rfl (by decide) _ _ _ rfl (hrow3.alloc _) ⟨W1.heap.size, 0, none⟩ 1 1 [.string (bs x.1.1)] rfl rfl (cell_one_new _ _ _) (by simp [Value.oneCell']) hml hk6 (by have := hB3.size; simp; omega) ?_; intro v' w1 hown' hgrow _; obtain ⟨g', cap', rfl⟩ := ownsRow_succ hown'; obtain ⟨hv4, hv5, hr5, hk5, hb5⟩ := hv3.appended (by decide) hrow3 hB3.size (Nat.le_refl _) hown' hgrow; have hc4 := hv4.cell; have hf4 := hv4.frozen)
          refine ⟨hkf.trans (hk5.from _), (hb1.mono hB2.size).trans hb5, ⟨⟨_, hv5, ?_, trivial⟩, fun D hD => hk5.same D _ (hK3 D hD) rfl⟩, hB3.trans hb5⟩
          have e2 : strs (innerL (l.take i) ++ ((pre ++ [x]).map (·.1.1)).filter isL) = strs (innerL (l.take i) ++ (pre.map (·.1.1)).filter isL) ++ [.string (bs x.1.1)] := by rw [e1]; simp [strs]
          rw [e2, e1, List.length_append, ← Nat.add_assoc, hk]
          exact hr5
      case done =>
        rintro D ys W2 hD hS ⟨⟨⟨v, hv2, hrow2, _⟩, hK2⟩, hB2⟩ hKD
        have hc2 := hv2.cell
        have hDD : W.heap.size + 1 ≤ D := by simpa using hD
        clear hD
        have hnew : D ∉ ds := fun hm => absurd (Array.getElem?_eq_some_iff.1 (hK D hm).2).1 (Nat.not_lt.2 (Nat.le_of_succ_le hDD))
        have hK4 : ∀ E ∈ D :: ds, w.heap.size + 1 ≤ E ∧ W2.heap[E]? = some (.deferred (some [])) := by
          intro E hE
          rcases List.mem_cons.1 hE with rfl | hE
          · exact ⟨Nat.le_trans hBW (Nat.le_of_succ_le hDD), hKD⟩
          · exact ⟨(hK E hE).1, hK2 E hE⟩
        have hrow5 : W2.ownsRow w.heap.size 9 1 v (innerL (l.take (i + 1))).length (strs (innerL (l.take (i + 1)))) := by
          have e1 : ys.map (·.1.1) = (items t).map (·.1) := by rw [← hS, List.map_map]; rfl
          rw [e1] at hrow2
          rw [htake, List.length_append]
          exact hrow2
        clear hrow2 hK2
        gi_wp2
        refine ⟨⟨i + 1, D :: ds, _, _, _, _, _, _, _, by rw [Int.natCast_succ]; rfl, hi2, hB2, List.nodup_cons.2 ⟨hnew, hnd⟩, hK4, v, hv2, hrow5⟩, ?_⟩
        exact left9_lt l.length i hi2 _ _ rfl rfl
      case stop =>
        rintro D c pre W _ _ h _
        exact h.elim
end Go.Proofs.YtnachkdclmcaiabDoor
