/- The law SealNames, walked (for names of up to four million bytes). -/
import Derived.Test.YtoniohmceaflnaaDoorPtC
namespace Go.Proofs.YtoniohmceaflnaaDoor
section
open Go.RowKit Go.Shelf
attribute [local go_sem] Oper.semAt_some
set_option maxRecDepth 100000 in
set_option maxHeartbeats 2000000 in
theorem Unpack_big (s : List UInt8) (w : World) (hs : s.length ≤ 4000000) (he : Env w) :
    Calls Tryd.prog 38 #[.string (bs s)] w fun e W' => ∃ v, e = .returned (.tuple #[v, .int .i64 (errOf s)]) ∧ W'.ownsRow w.heap.size 9 1 v (texts s).length (strs (texts s)) ∧ Below w.heap.size w W' := by
  have hcount := items_count (s := s)
  have hsz := he.size
  refine (callsIn_wide (n := 3)).1 ?_
  obtain ⟨n, hn⟩ : ∃ n, n = 3 := ⟨_, rfl⟩
  rw [← hn]
  have h1 : 1 ≤ n := by omega
  obtain ⟨i0, hi, hz0, hz1, hz2⟩ := info_parts Tryd.info9
  refine callsIn_of_wp_marks Tryd.func38 rfl trivial ?_ rfl
  simp only [Tryd.ntmps38, List.size_toArray, List.length_cons, List.length_nil, Nat.reduceAdd, Nat.reduceSub, Array.replicate_succ, Array.replicate_zero, List.push_toArray, List.append_toArray, List.nil_append, List.cons_append]
  gi_wp2
  refine ⟨trivial, (callsIn_wide.2 (texts_any _ _)).mono ?_⟩
  rintro e w' ⟨rfl, rfl⟩
  gi_wp2
  have b0 := Boxed.new w 75 (.slice none 0 0)
  have b1 := Boxed.new (w.alloc (.cells #[.slice none 0 0] 75)) 24 (.int .i64 0)
  have b2 := Boxed.new ((w.alloc (.cells #[.slice none 0 0] 75)).alloc (.cells #[.int .i64 0] 24)) 75 (.slice none 0 0)
  have b3 := Boxed.new (((w.alloc (.cells #[.slice none 0 0] 75)).alloc (.cells #[.int .i64 0] 24)).alloc (.cells #[.slice none 0 0] 75)) 9 (.string (bs s))
  simp only [World.size_alloc] at b1 b2 b3
  have hB0 : Below w.heap.size w ((((w.alloc (.cells #[.slice none 0 0] 75)).alloc (.cells #[.int .i64 0] 24)).alloc (.cells #[.slice none 0 0] 75)).alloc (.cells #[.string (bs s)] 9)) := ((((Below.refl _ w).alloc (Nat.le_refl _) _).alloc (by simp) _).alloc (by simp; omega) _).alloc (by simp; omega) _
  have heN := he.next hB0
  refine wpIn_rangeFunc_ownG rfl h1 (gf := 62) (lb := #[.pointer (some ⟨w.heap.size + 1 + 1 + 1, 0, none⟩)]) rfl trivial (enters_of Tryd.func62 (by kernel_rfl) rfl)
    (texts_stops (n - 1) (by omega) (w.heap.size + 1 + 1 + 1) w.heap.size hsz s (by omega) _ (by simp) b3.cell heN) belowK_t (belowK_b (by simp; omega)) (Below.refl _ _) (fun _ => rfl)
    (fun pre W => ((∃ v, Boxed W (w.heap.size + 1 + 1) 75 v ∧ W.ownsRow w.heap.size 9 1 v pre.length (strs (pre.map (·.1.1))) ∧ True) ∧ (Boxed W w.heap.size 75 (.slice none 0 0) ∧ (Boxed W (w.heap.size + 1) 24 (.int .i64 0) ∧ ∀ x ∈ pre, x.1.2 = 0))) ∧ Below w.heap.size w W)
    (fun c pre W => ((c = .ret ∧ ∃ x ∈ pre, x.1.2 ≠ 0) ∧ (Boxed W w.heap.size 75 (.slice none 0 0) ∧ (∃ x ∈ pre, x.1.2 ≠ 0 ∧ Boxed W (w.heap.size + 1) 24 (.int .i64 x.1.2)))) ∧ Below w.heap.size w W)
    (OwnFrom.and (OwnFrom.and (Own.from (holdsRow_own w.heap.size (w.heap.size + 1 + 1) 75 9 1 (fun (pre : List It) => pre.length) (fun (pre : List It) => strs (pre.map (·.1.1))) (fun _ _ => True)) _) (OwnFrom.and (Own.from (boxed_own _ _ _) _) (OwnFrom.and (Own.from (boxed_own _ _ _) _) (ownFrom_pure _ _)))) (ownFrom_below (Nat.le_refl _) (by simp; omega)))
    (fun c => OwnFrom.and (OwnFrom.and (ownFrom_pure _ _) (OwnFrom.and (Own.from (boxed_own _ _ _) _) (fun s X Y row hs hg hr => by
      obtain ⟨x, hx, hne, hb⟩ := hs
      exact ⟨x, hx, hne, (Own.from (boxed_own (β := Unit) (w.heap.size + 1) 24 (fun _ => .int .i64 x.1.2)) _) () X Y row hb hg hr⟩))) (ownFrom_below (Nat.le_refl _) (by simp; omega)))
    ⟨⟨⟨_, b2.alloc _, World.ownsRow_nil _ _ _ _, trivial⟩, ((b0.alloc _).alloc _).alloc _, (b1.alloc _).alloc _, by simp⟩, hB0⟩
    (fun x => { tmps := #[.string (bs s), undef, .pointer (some ⟨w.heap.size, 0, none⟩), .pointer (some ⟨w.heap.size + 1, 0, none⟩), .pointer (some ⟨w.heap.size + 1 + 1, 0, none⟩), .string (bs x.1.1), .int .i64 x.1.2, .string (bs s), .func (.func 62) #[] #[.pointer (some ⟨w.heap.size + 1 + 1 + 1, 0, none⟩)], .string (bs x.1.1), .int .i64 x.1.2, undef, undef, undef, undef, undef, undef, undef, undef], defers := [] }) ?assign ?body ?done ?stop
  case assign =>
    intro l x W K hK
    gi_wp2
    exact hK
  case body =>
    rintro l pre x W ⟨⟨⟨v, hv, hrow, _⟩, hb0, hb1, hpre⟩, hB⟩ hlt
    have hc := hv.cell
    have hc0 := hb0.cell
    have hf0 := hb0.frozen
    have hc1 := hb1.cell
    have hf1 := hb1.frozen
    by_cases hx0 : x.1.2 = 0
    · have hq : (x.1.2 != 0) = false := by simp [hx0]
      have hml : pre.length + 1 ≤ maxLen := by unfold maxLen; omega
      gi_wp2_with (gi_at_builtin; refine wpListIn_append_own _ rfl _ _ 75 rfl w.heap.size 9 i0 (.string ⟨#[]⟩) 1 16 Tryd.underlying75 hi hz0 hz1 hz2 rfl (by decide) _ _ _ rfl (hrow.alloc _) ⟨W.heap.size, 0, none⟩ 1 1 [.string (bs x.1.1)] rfl rfl (cell_one_new _ _ _) (by simp [Value.oneCell']) hml (by omega) (by have := hB.size; simp; omega) ?_; intro v' w1 hown' hgrow _; obtain ⟨g', cap', rfl⟩ := ownsRow_succ hown'; obtain ⟨hv1, hv2, hr2, hk2, hb2⟩ := hv.appended (by decide) hrow hB.size (by omega) hown' hgrow; have hc1' := hv1.cell; have hf1' := hv1.frozen)
      have hnr0 : some w.heap.size ≠ v.ownBlock := hb0.not_row (by decide) hrow
      have hnr1 : some (w.heap.size + 1) ≠ v.ownBlock := hb1.not_row (by decide) hrow
      refine ⟨hk2.from _, hb2, ⟨⟨_, hv2, ?_, trivial⟩, ((hb0.alloc _).kept hgrow hnr0).other (by omega) _, ((hb1.alloc _).kept hgrow hnr1).other (by omega) _, ?_⟩, hB.trans hb2⟩
      · have e1 : strs ((pre ++ [x]).map (·.1.1)) = strs (pre.map (·.1.1)) ++ [.string (bs x.1.1)] := by simp [strs]
        rw [e1, List.length_append]
        exact hr2
      · intro y hy
        rcases List.mem_append.1 hy with h | h
        · exact hpre y h
        · rw [List.mem_singleton.1 h]; exact hx0
    · have hq : (x.1.2 != 0) = true := by simp [hx0]
      gi_wp2
      have hmem : x ∈ pre ++ [x] := by simp
      refine ⟨((KeepsOthers.setCell _ _ _).trans (KeepsOthers.setCell _ _ _)).from _, ⟨⟨rfl, x, hmem, hx0⟩, (hb0.set _).other (by omega) _, x, hmem, hx0, (hb1.other (by omega) _).set _⟩, (hB.setCell (p := ⟨w.heap.size, 0, none⟩) (Nat.le_refl _) _).setCell (p := ⟨w.heap.size + 1, 0, none⟩) (by simp) _⟩
  case done =>
    rintro D ys W hD hS ⟨⟨⟨v, hv, hrow, _⟩, hb0, hb1, hpre⟩, hB⟩ hK
    obtain ⟨va, vc, rfl⟩ := owns_slice hrow
    have hc := hv.cell
    have hc0 := hb0.cell
    have hf0 := hb0.frozen
    have hc1 := hb1.cell
    have hf1 := hb1.frozen
    gi_wp2
    have hD4 : w.heap.size + 4 ≤ D := by simp only [World.size_alloc] at hD; omega
    have hK2 := ((KeepsOthers.setCell W ⟨w.heap.size, 0, none⟩ (.slice va ys.length vc)).trans (KeepsOthers.setCell _ ⟨w.heap.size + 1, 0, none⟩ (.int .i64 0))).same D _ hK rfl
    have k0 := (((hb0.set (.slice va ys.length vc)).other (B' := w.heap.size + 1) (by omega) (.int .i64 0)).kept (grownBy_putObj' _ D (.deferred none)) (by simp; omega)).cell
    have k1 := (((hb1.other (B' := w.heap.size) (by omega) (.slice va ys.length vc)).set (.int .i64 0)).kept (grownBy_putObj' _ D (.deferred none)) (by simp; omega)).cell
    have hnr0 := hb0.not_row (by decide) hrow
    have hnr1 := hb1.not_row (by decide) hrow
    have r2 := ownsRow_putObj ((hrow.kept (grownBy_setCell' W w.heap.size (.slice va ys.length vc)) (.inr (Ne.symm hnr0))).kept (grownBy_setCell' _ (w.heap.size + 1) (.int .i64 0)) (.inr (Ne.symm hnr1))) (.deferred none) hK2 rfl
    have hBB := ((hB.setCell (p := ⟨w.heap.size, 0, none⟩) (Nat.le_refl _) (.slice va ys.length vc)).setCell (p := ⟨w.heap.size + 1, 0, none⟩) (by simp) (.int .i64 0)).trans (belowK_b (w := w) (Nat.le_refl _) _ D _ (.deferred none) (by omega) hK2 rfl rfl)
    refine ⟨by simp, .inl ⟨_, _, rfl, run_takeDeferred hK2, ?_⟩⟩
    refine ⟨.tuple #[.slice va ys.length vc, .int .i64 0], ?_, .slice va ys.length vc, ?_, ?_, hBB⟩
    · simp [results, Tryd.f38, go_sem, k0, k1]
    · rw [errOf, if_pos (good_of hS hpre)]
    · rw [texts_of hS hpre, List.length_map]
      exact r2
  case stop =>
    rintro D c pre W hD hSp ⟨⟨⟨rfl, _⟩, hb0, x, hx, hne, hb1⟩, hB⟩ hK
    have hc0 := hb0.cell
    have hc1 := hb1.cell
    obtain ⟨hng, hx4⟩ := bad_of hSp hx hne
    rw [hx4] at hb1 hc1
    gi_wp2
    have hD4 : w.heap.size + 4 ≤ D := by simp only [World.size_alloc] at hD; omega
    have k0 := (hb0.kept (grownBy_putObj' _ D (.deferred none)) (by simp; omega)).cell
    have k1 := (hb1.kept (grownBy_putObj' _ D (.deferred none)) (by simp; omega)).cell
    have hBB := hB.trans (belowK_b (w := w) (Nat.le_refl _) _ D _ (.deferred none) (by omega) hK rfl rfl)
    refine ⟨by simp, .inl ⟨_, _, rfl, run_takeDeferred hK, ?_⟩⟩
    refine ⟨.tuple #[.slice none 0 0, .int .i64 4], ?_, .slice none 0 0, ?_, ?_, hBB⟩
    · simp [results, Tryd.f38, go_sem, k0, k1]
    · rw [errOf, if_neg hng]
    · rw [texts, if_neg hng]
      exact World.ownsRow_nil _ _ _ _
end
section
open Go.RowKit
attribute [local go_sem ↓] Go.wp_at_zero Go.wp_at_succ
set_option maxRecDepth 20000 in
set_option maxHeartbeats 2000000 in
theorem Party_big (s : List UInt8) (w : World) (hs : s.length ≤ 4000000) (he : Env w) :
    Calls Tryd.prog 11 #[.string (bs s)] w fun e W' => e = .returned (.tuple #[.agg #[.int .i64 (partyG s), .int .i64 (partyN s)], .int .i64 (partyE s)]) ∧ Below w.heap.size w W' := by
  have hb0 : Below w.heap.size w (w.alloc (.cells #[.int .i64 0, .int .i64 0] 23)) := (Below.refl _ w).alloc (Nat.le_refl _) _
  have r0 : (w.alloc (.cells #[.int .i64 0, .int .i64 0] 23)).heap[w.heap.size]? = some (.cells #[.int .i64 0, .int .i64 0] 23) := heap_alloc_new _ _
  have hlp : w.heap.size < (w.alloc (.cells #[.int .i64 0, .int .i64 0] 23)).heap.size := by simp
  have hU := Unpack_big s (w.alloc (.cells #[.int .i64 0, .int .i64 0] 23)) hs (he.next hb0)
  by_cases h2 : (texts s).length = 2
  · have h0 : errOf s = 0 := by
      rcases err_cases s with h | ⟨_, h⟩
      · exact h
      · rw [h] at h2; cases h2
    obtain ⟨a, b, hab⟩ : ∃ a b, texts s = [a, b] := by
      match hT : texts s with
      | [] => rw [hT] at h2; cases h2
      | [_] => rw [hT] at h2; cases h2
      | [a, b] => exact ⟨a, b, rfl⟩
      | _ :: _ :: _ :: _ => rw [hT] at h2; simp at h2
    have hla := texts_mem (s := s) (t := a) (by rw [hab]; simp)
    have hlb := texts_mem (s := s) (t := b) (by rw [hab]; simp)
    have hP : partyL s = party2 (toNumL a) (toNumL b) := by rw [partyL, hab]; rfl
    obtain ⟨PG, hPG⟩ : ∃ x, partyG s = x := ⟨_, rfl⟩
    obtain ⟨PN, hPN⟩ : ∃ x, partyN s = x := ⟨_, rfl⟩
    obtain ⟨PE, hPE⟩ : ∃ x, partyE s = x := ⟨_, rfl⟩
    obtain ⟨A, hA⟩ : ∃ x, tnV a = x := ⟨_, rfl⟩
    obtain ⟨B, hB⟩ : ∃ x, tnV b = x := ⟨_, rfl⟩
    obtain ⟨EA, hEA⟩ : ∃ x, tnE a = x := ⟨_, rfl⟩
    obtain ⟨EB, hEB⟩ : ∃ x, tnE b = x := ⟨_, rfl⟩
    obtain ⟨EN, hEN⟩ : ∃ x, nameE A B = x := ⟨_, rfl⟩
    have hcase : (EA = 0 ∧ EB = 0 ∧ EN = 0 ∧ PE = 0 ∧ PG = A ∧ PN = B) ∨ (PE = 4 ∧ PG = 0 ∧ PN = 0 ∧ (EA = 4 ∨ EA = 0 ∧ (EB = 4 ∨ EB = 0 ∧ EN = 1))) := by
      rw [← hPG, ← hPN, ← hPE, ← hEN, partyG, partyN, partyE, hP, ← hA, ← hB, ← hEA, ← hEB]
      rcases ha : toNumL a with _ | x
      · exact .inr ⟨rfl, rfl, rfl, .inl (tnV_none ha).2⟩
      rcases hb : toNumL b with _ | y
      · exact .inr ⟨rfl, rfl, rfl, .inr ⟨(tnV_some ha).2, .inl (tnV_none hb).2⟩⟩
      rw [(tnV_some ha).1, (tnV_some ha).2, (tnV_some hb).1, (tnV_some hb).2]
      by_cases hp : isP x y
      · exact .inl ⟨rfl, rfl, if_pos hp, by rw [party2, if_pos hp]; rfl, by rw [party2, if_pos hp]; rfl, by rw [party2, if_pos hp]; rfl⟩
      · exact .inr ⟨by rw [party2, if_neg hp]; rfl, by rw [party2, if_neg hp]; rfl, by rw [party2, if_neg hp]; rfl, .inr ⟨rfl, .inr ⟨rfl, if_neg hp⟩⟩⟩
    rw [hPG, hPN, hPE]
    rw [h0, hab] at hU
    clear hPG hPN hPE hP h0 h2 hab
    go_enter Tryd.func11, Tryd.ntmps11
    go_wp2_with fail
    refine hU.mono ?_
    clear hU
    rintro e w1 ⟨v, rfl, hv, hb1⟩
    obtain ⟨vb, vo, vc, rfl, hvl, c0, c1⟩ := (Sl.of_owns (l := [a, b]) hv).cells2
    have hB1 := hb0.trans (hb1.mono hb0.size)
    have r1 := (hb1.block w.heap.size hlp).trans r0
    have hl1 : w.heap.size < w1.heap.size := (Array.getElem?_eq_some_iff.1 r1).1
    have hTa := ToNum_any (bs a) w1 (by rw [bs_size]; omega) (he.next hB1)
    rw [bs_list, hA, hEA] at hTa
    clear hv hb1 r0 hb0 hlp
    go_wp2_with fail
    refine hTa.mono ?_
    clear hTa
    rintro e w2 ⟨rfl, hb2⟩
    have hB2 := hB1.trans (hb2.mono hB1.size)
    have r2 := (hb2.block w.heap.size hl1).trans r1
    have hl2 : w.heap.size < w2.heap.size := (Array.getElem?_eq_some_iff.1 r2).1
    have d1 := (hb2.cell (p := ⟨vb, vo + 1, none⟩) hvl).trans c1
    have hTb := ToNum_any (bs b) w2 (by rw [bs_size]; omega) (he.next hB2)
    rw [bs_list, hB, hEB] at hTb
    clear hb2 c0 c1 r1 hB1
    go_wp2_with fail
    refine hTb.mono ?_
    clear hTb
    rintro e w3 ⟨rfl, hb3⟩
    have hB3 := hB2.trans (hb3.mono hB2.size)
    have r3 := (hb3.block w.heap.size hl2).trans r2
    have hl3 : w.heap.size < w3.heap.size := (Array.getElem?_eq_some_iff.1 r3).1
    have hb4 : Below w3.heap.size w3 (w3.alloc (.cells #[.int .i64 A, .int .i64 B] 23)) := (Below.refl _ _).alloc (Nat.le_refl _) _
    have hB4 := hB3.trans (hb4.mono hB3.size)
    have q4 : (w3.alloc (.cells #[.int .i64 A, .int .i64 B] 23)).heap[w3.heap.size]? = some (.cells #[.int .i64 A, .int .i64 B] 23) := heap_alloc_new _ _
    have r4 := (hb4.block w.heap.size hl3).trans r3
    have hN := Name_any A B (w3.alloc (.cells #[.int .i64 A, .int .i64 B] 23)) (he.next hB4).p
    rw [hEN] at hN
    have hl4 : w3.heap.size < (w3.alloc (.cells #[.int .i64 A, .int .i64 B] 23)).heap.size := by simp
    clear hb3 d1 r2 hB2 hA hB hEA hEB hEN
    go_wp2_with fail
    refine hN.mono ?_
    clear hN
    rintro e w5 ⟨rfl, hb5⟩
    have hB5 := hB4.trans (hb5.mono hB4.size)
    have r5 := (hb5.block w.heap.size (Nat.lt_of_lt_of_le hl3 hb4.size)).trans r4
    have q5 := (hb5.block w3.heap.size hl4).trans q4
    have f0 := frozenB r5 0
    have f1 := frozenB r5 1
    have s0 := cellB r5 0 _ rfl
    have s1 := cellB r5 1 _ rfl
    have x0 := cellB q5 0 _ rfl
    have x1 := cellB q5 1 _ rfl
    clear hb5 r4 q4 hb4 hB4
    rcases hcase with ⟨rfl, rfl, rfl, rfl, rfl, rfl⟩ | ⟨rfl, rfl, rfl, hh⟩
    · go_wp2
      have hr4 := setB (setB r5 0 (.int .i64 PG)) 1 (.int .i64 PN)
      have z0 := cellB hr4 0 (.int .i64 PG) rfl
      have z1 := cellB hr4 1 (.int .i64 PN) rfl
      have hBz := (hB5.setCell (p := ⟨w.heap.size, 0, none⟩) (Nat.le_refl _) (.int .i64 PG)).setCell (p := ⟨w.heap.size, 1, none⟩) (Nat.le_refl _) (.int .i64 PN)
      exact bodyPost_ret (v := .tuple #[.agg #[.int .i64 PG, .int .i64 PN], .int .i64 0]) (by simp [results, Tryd.f11, go_sem, z0, z1]) rfl ⟨rfl, hBz⟩
    · have hr4 := setB (setB r5 0 (.int .i64 0)) 1 (.int .i64 0)
      have z0 := cellB hr4 0 (.int .i64 0) rfl
      have z1 := cellB hr4 1 (.int .i64 0) rfl
      have hBz := (hB5.setCell (p := ⟨w.heap.size, 0, none⟩) (Nat.le_refl _) (.int .i64 0)).setCell (p := ⟨w.heap.size, 1, none⟩) (Nat.le_refl _) (.int .i64 0)
      clear hr4
      rcases hh with rfl | ⟨rfl, rfl | ⟨rfl, rfl⟩⟩
      all_goals
        go_wp2
        exact bodyPost_ret (v := .tuple #[.agg #[.int .i64 0, .int .i64 0], .int .i64 4]) (by simp [results, Tryd.f11, go_sem, z0, z1]) rfl ⟨rfl, hBz⟩
  · have hP : partyL s = none := partyT_not2 h2
    rw [partyG, partyN, partyE, hP]
    simp only [Option.getD_none, Option.isSome_none, Bool.false_eq_true, if_false]
    have hcase : (errOf s = 0 ∧ (((texts s).length : Int) != 2) = true) ∨ (errOf s = 4) := by
      rcases err_cases s with h | ⟨h, _⟩
      · exact .inl ⟨h, by simp; omega⟩
      · exact .inr h
    obtain ⟨ES, hES⟩ : ∃ x, errOf s = x := ⟨_, rfl⟩
    rw [hES] at hU hcase
    obtain ⟨L, hL⟩ : ∃ L, texts s = L := ⟨_, rfl⟩
    rw [hL] at hU hcase
    clear hES hL h2 hP
    go_enter Tryd.func11, Tryd.ntmps11
    go_wp2_with fail
    refine hU.mono ?_
    clear hU
    rintro e w1 ⟨v, rfl, hv, hb1⟩
    obtain ⟨va, vc, rfl⟩ := (Sl.of_owns hv).slice
    have hB1 := hb0.trans (hb1.mono hb0.size)
    have r1 := (hb1.block w.heap.size hlp).trans r0
    have f0 := frozenB r1 0
    have f1 := frozenB r1 1
    have s0 := cellB r1 0 _ rfl
    have s1 := cellB r1 1 _ rfl
    have hr4 := setB (setB r1 0 (.int .i64 0)) 1 (.int .i64 0)
    have z0 := cellB hr4 0 (.int .i64 0) rfl
    have z1 := cellB hr4 1 (.int .i64 0) rfl
    have hBz := (hB1.setCell (p := ⟨w.heap.size, 0, none⟩) (Nat.le_refl _) (.int .i64 0)).setCell (p := ⟨w.heap.size, 1, none⟩) (Nat.le_refl _) (.int .i64 0)
    clear hr4 hv hb1 r0 hb0
    rcases hcase with ⟨rfl, hne⟩ | rfl
    all_goals
      go_wp2
      exact bodyPost_ret (v := .tuple #[.agg #[.int .i64 0, .int .i64 0], .int .i64 4]) (by simp [results, Tryd.f11, go_sem, z0, z1]) rfl ⟨rfl, hBz⟩

set_option maxRecDepth 20000 in
set_option maxHeartbeats 4000000 in
theorem names_any (g n : Int) (s : List UInt8) (w : World) (he : Env w) (hb : EnvB w) (hs : s.length ≤ 4000000) :
    Calls Tryd.prog 3 #[.agg #[.int .i64 g, .int .i64 n], .string (bs s)] w fun e W' => e = .returned (.bool true) ∧ Below w.heap.size w W' := by
  have hb1 : Below w.heap.size w (w.alloc (.cells #[.int .i64 g, .int .i64 n] 23)) := (Below.refl _ w).alloc (Nat.le_refl _) _
  have p0 : (w.alloc (.cells #[.int .i64 g, .int .i64 n] 23)).heap[w.heap.size]? = some (.cells #[.int .i64 g, .int .i64 n] 23) := heap_alloc_new _ _
  have hlp : w.heap.size < (w.alloc (.cells #[.int .i64 g, .int .i64 n] 23)).heap.size := by simp
  have hOne : ∀ W, Below w.heap.size w W → Calls Tryd.prog 13 #[] W fun e W' => e = .returned (.bool true) ∧ Below W.heap.size W W' := fun W hW => one3_any W (he.next hW).p (hb.next hW)
  have hN := Name_any g n (w.alloc (.cells #[.int .i64 g, .int .i64 n] 23)) (he.next hb1).p
  have hrN := fun W => rName_any g n W
  have hP := fun W (h : Env W) => Party_big s W hs h
  have hrP := fun W => rParty_any s W
  have hBk : isP g n → ∀ W, Env W → Calls Tryd.prog 11 #[.string (bs (nameV g n))] W fun e W' => e = .returned (.tuple #[.agg #[.int .i64 g, .int .i64 n], .int .i64 0]) ∧ Below W.heap.size W W' := by
    intro hp W hW
    have hl := name_len g n hp
    rw [show nameV g n = nameL g n from if_pos hp]
    have h := Party_any (nameL g n) W (by omega) hW
    rw [partyG, partyN, partyE, party_name hp] at h
    exact h
  obtain ⟨PG, hPG⟩ : ∃ x, partyG s = x := ⟨_, rfl⟩
  obtain ⟨PN, hPN⟩ : ∃ x, partyN s = x := ⟨_, rfl⟩
  obtain ⟨PE, hPE⟩ : ∃ x, partyE s = x := ⟨_, rfl⟩
  rw [hPG, hPN, hPE] at hP hrP
  have hNc : (nameE g n = 0 ∧ ∀ W, Env W → Calls Tryd.prog 11 #[.string (bs (nameV g n))] W fun e W' => e = .returned (.tuple #[.agg #[.int .i64 g, .int .i64 n], .int .i64 0]) ∧ Below W.heap.size W W') ∨ nameE g n = 1 := by
    by_cases hp : isP g n
    · exact .inl ⟨if_pos hp, hBk hp⟩
    · exact .inr (if_neg hp)
  obtain ⟨NV, hNV⟩ : ∃ x, nameV g n = x := ⟨_, rfl⟩
  obtain ⟨NE, hNE⟩ : ∃ x, nameE g n = x := ⟨_, rfl⟩
  rw [hNV, hNE] at hN hrN hNc
  clear hPG hPN hPE hNV hNE hBk
  have sn := strs_same NV
  rcases hNc with ⟨rfl, hBk⟩ | rfl
  · go_enter Tryd.func3, Tryd.ntmps3
    go_wp2_with fail
    refine hN.mono ?_
    clear hN
    rintro e w1 ⟨rfl, hb2⟩
    have hB1 := hb1.trans (hb2.mono hb1.size)
    have p1 := (hb2.block w.heap.size hlp).trans p0
    have hl1 : w.heap.size < w1.heap.size := (Array.getElem?_eq_some_iff.1 p1).1
    have x0 := cellB p1 0 (.int .i64 g) rfl
    have x1 := cellB p1 1 (.int .i64 n) rfl
    clear hb2 p0 hlp hb1
    go_wp2_with fail
    refine (hrN _).mono ?_
    clear hrN
    rintro e w2 ⟨rfl, hb3⟩
    have hB2 := hB1.trans (hb3.mono hB1.size)
    have p2 := (hb3.block w.heap.size hl1).trans p1
    have hl2 : w.heap.size < w2.heap.size := (Array.getElem?_eq_some_iff.1 p2).1
    clear hb3 p1 x0 x1 hl1 hB1
    go_wp2_with fail
    refine (hP _ (he.next hB2)).mono ?_
    clear hP
    rintro e w3 ⟨rfl, hb4⟩
    have hB3 := hB2.trans (hb4.mono hB2.size)
    have p3 := (hb4.block w.heap.size hl2).trans p2
    have hl3 : w.heap.size < w3.heap.size := (Array.getElem?_eq_some_iff.1 p3).1
    have q3 : (w3.alloc (.cells #[.int .i64 PG, .int .i64 PN] 23)).heap[w3.heap.size]? = some (.cells #[.int .i64 PG, .int .i64 PN] 23) := heap_alloc_new _ _
    have hbx : Below w3.heap.size w3 (w3.alloc (.cells #[.int .i64 PG, .int .i64 PN] 23)) := (Below.refl _ _).alloc (Nat.le_refl _) _
    have hlx : w3.heap.size < (w3.alloc (.cells #[.int .i64 PG, .int .i64 PN] 23)).heap.size := by simp
    clear hb4 p2 hl2 hB2
    go_wp2_with fail
    obtain ⟨W3, hW3⟩ : ∃ W, w3.alloc (.cells #[.int .i64 PG, .int .i64 PN] 23) = W := ⟨_, rfl⟩
    rw [hW3] at hbx q3 hlx ⊢
    clear hW3
    have hBx := hB3.trans (hbx.mono hB3.size)
    have px := (hbx.block w.heap.size hl3).trans p3
    have hlX : w.heap.size < W3.heap.size := Nat.lt_of_lt_of_le hl3 hbx.size
    refine (hrP _).mono ?_
    clear hrP
    rintro e w4 ⟨rfl, hb5⟩
    have hB4 := hBx.trans (hb5.mono hBx.size)
    have p4 := (hb5.block w.heap.size hlX).trans px
    have q4 := (hb5.block w3.heap.size hlx).trans q3
    have hl4 : w.heap.size < w4.heap.size := (Array.getElem?_eq_some_iff.1 p4).1
    have hl4x : w3.heap.size < w4.heap.size := (Array.getElem?_eq_some_iff.1 q4).1
    have y0 := cellB q4 0 (.int .i64 PG) rfl
    have y1 := cellB q4 1 (.int .i64 PN) rfl
    have hby : Below w4.heap.size w4 (w4.alloc (.cells #[.int .i64 PG, .int .i64 PN] 23)) := (Below.refl _ _).alloc (Nat.le_refl _) _
    have hBy := hB4.trans (hby.mono hB4.size)
    have py := (hby.block w.heap.size hl4).trans p4
    clear hb5 px q3 p3 hbx hB3 hBx q4
    go_wp2_with fail
    obtain ⟨W5, hW5⟩ : ∃ W, w4.alloc (.cells #[.int .i64 PG, .int .i64 PN] 23) = W := ⟨_, rfl⟩
    rw [hW5] at hby hBy py ⊢
    clear hW5
    have hl5 : w.heap.size < W5.heap.size := (Array.getElem?_eq_some_iff.1 py).1
    refine (hBk _ (he.next hBy)).mono ?_
    clear hBk
    rintro e w6 ⟨rfl, hb6⟩
    have hB6 := hBy.trans (hb6.mono hBy.size)
    have p6 := (hb6.block w.heap.size hl5).trans py
    have hl6 : w.heap.size < w6.heap.size := (Array.getElem?_eq_some_iff.1 p6).1
    have u0 := cellB p6 0 (.int .i64 g) rfl
    have u1 := cellB p6 1 (.int .i64 n) rfl
    have hB7 := hB6.alloc hB6.size (.cells #[.int .i64 g, .int .i64 n] 23)
    clear y0 y1 hb6 py
    go_wp2_with (go_at_call 13; refine (hOne _ hB7).mono ?_; rintro e w9 ⟨rfl, hb9⟩)
    go_ret
    exact ⟨rfl, hB7.trans (hb9.mono hB7.size)⟩
  · go_enter Tryd.func3, Tryd.ntmps3
    go_wp2_with fail
    refine hN.mono ?_
    clear hN
    rintro e w1 ⟨rfl, hb2⟩
    have hB1 := hb1.trans (hb2.mono hb1.size)
    have p1 := (hb2.block w.heap.size hlp).trans p0
    have hl1 : w.heap.size < w1.heap.size := (Array.getElem?_eq_some_iff.1 p1).1
    have x0 := cellB p1 0 (.int .i64 g) rfl
    have x1 := cellB p1 1 (.int .i64 n) rfl
    clear hb2 p0 hlp hb1
    go_wp2_with fail
    refine (hrN _).mono ?_
    clear hrN
    rintro e w2 ⟨rfl, hb3⟩
    have hB2 := hB1.trans (hb3.mono hB1.size)
    have p2 := (hb3.block w.heap.size hl1).trans p1
    have hl2 : w.heap.size < w2.heap.size := (Array.getElem?_eq_some_iff.1 p2).1
    clear hb3 p1 x0 x1 hl1 hB1
    go_wp2_with fail
    refine (hP _ (he.next hB2)).mono ?_
    clear hP
    rintro e w3 ⟨rfl, hb4⟩
    have hB3 := hB2.trans (hb4.mono hB2.size)
    have p3 := (hb4.block w.heap.size hl2).trans p2
    have hl3 : w.heap.size < w3.heap.size := (Array.getElem?_eq_some_iff.1 p3).1
    have q3 : (w3.alloc (.cells #[.int .i64 PG, .int .i64 PN] 23)).heap[w3.heap.size]? = some (.cells #[.int .i64 PG, .int .i64 PN] 23) := heap_alloc_new _ _
    have hbx : Below w3.heap.size w3 (w3.alloc (.cells #[.int .i64 PG, .int .i64 PN] 23)) := (Below.refl _ _).alloc (Nat.le_refl _) _
    have hlx : w3.heap.size < (w3.alloc (.cells #[.int .i64 PG, .int .i64 PN] 23)).heap.size := by simp
    clear hb4 p2 hl2 hB2
    go_wp2_with fail
    obtain ⟨W3, hW3⟩ : ∃ W, w3.alloc (.cells #[.int .i64 PG, .int .i64 PN] 23) = W := ⟨_, rfl⟩
    rw [hW3] at hbx q3 hlx ⊢
    clear hW3
    have hBx := hB3.trans (hbx.mono hB3.size)
    have px := (hbx.block w.heap.size hl3).trans p3
    have hlX : w.heap.size < W3.heap.size := Nat.lt_of_lt_of_le hl3 hbx.size
    refine (hrP _).mono ?_
    clear hrP
    rintro e w4 ⟨rfl, hb5⟩
    have hB4 := hBx.trans (hb5.mono hBx.size)
    have p4 := (hb5.block w.heap.size hlX).trans px
    have q4 := (hb5.block w3.heap.size hlx).trans q3
    have hl4 : w.heap.size < w4.heap.size := (Array.getElem?_eq_some_iff.1 p4).1
    have hl4x : w3.heap.size < w4.heap.size := (Array.getElem?_eq_some_iff.1 q4).1
    have y0 := cellB q4 0 (.int .i64 PG) rfl
    have y1 := cellB q4 1 (.int .i64 PN) rfl
    have hby : Below w4.heap.size w4 (w4.alloc (.cells #[.int .i64 PG, .int .i64 PN] 23)) := (Below.refl _ _).alloc (Nat.le_refl _) _
    have hBy := hB4.trans (hby.mono hB4.size)
    have py := (hby.block w.heap.size hl4).trans p4
    clear hb5 px q3 p3 hbx hB3 hBx q4
    go_wp2_with fail
    obtain ⟨W5, hW5⟩ : ∃ W, w4.alloc (.cells #[.int .i64 PG, .int .i64 PN] 23) = W := ⟨_, rfl⟩
    rw [hW5] at hby hBy py ⊢
    clear hW5
    refine (hOne W5 hBy).mono ?_
    rintro e w9 ⟨rfl, hb9⟩
    go_wp2
    go_ret
    exact ⟨rfl, hBy.trans (hb9.mono hBy.size)⟩
end
end Go.Proofs.YtoniohmceaflnaaDoor
