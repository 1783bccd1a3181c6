import Derived.Test.YtifalaigfinciaaGreatDoorCtB
import Derived.Deep.AppendLies
namespace Go.Proofs.YtifalaigfinciaaGreatDoor
open Go.RowKit
attribute [local go_sem ↓] Go.wp_at_zero Go.wp_at_succ

theorem cells_new (w : World) (cs : Array Value) (t : TypeId) : ∀ j u, cs.toList[j]? = some u → (w.alloc (.cells cs t)).cell? ((⟨w.heap.size, 0, none⟩ : Addr).add j) = some u := by
  intro j u h
  have hh := heap_alloc_new w (.cells cs t)
  have h2 : cs[j]? = some u := by simpa using h
  have e : (⟨w.heap.size, 0, none⟩ : Addr).add j = ⟨w.heap.size, j, none⟩ := by
    unfold Addr.add
    split
    · rename_i h0; rw [h0]
    · simp
  rw [e]
  unfold World.cell?
  simp only [hh]
  exact h2
theorem owns_below {w : World} {base b2 n : Nat} {e : TypeId} {s : Nat} {v : Value} {xs : List Value} (h : w.ownsRow base e s v n xs) (hb : b2 ≤ base) : w.ownsRow b2 e s v n xs := by
  obtain ⟨hl, h | ⟨g, cap, cur, h1, h2, h3⟩⟩ := h
  · exact ⟨hl, .inl h⟩
  · exact ⟨hl, .inr ⟨g, cap, cur, h1, Nat.le_trans hb h2, h3⟩⟩

theorem tags_len {z : Int} {l : List Tg} (hz : -1 ≤ z) (h : tagsF z l = 0) : (l.length : Int) ≤ 15 - z ∨ l = [] := by
  induction l generalizing z with
  | nil => exact .inr rfl
  | cons t r ih =>
    obtain ⟨n, s⟩ := t
    rw [tagsF] at h
    split at h
    · cases h
    split at h
    · cases h
    split at h
    · cases h
    rename_i h1 h2 h3
    left
    rcases ih (by omega) h with h4 | rfl
    · simp only [List.length_cons]; omega
    · simp only [List.length_cons, List.length_nil]; omega
theorem tags_mem {z : Int} {l : List Tg} (h : tagsF z l = 0) : ∀ t ∈ l, 0 ≤ t.1 ∧ t.1 < 16 ∧ t.2.length = 16 := by
  induction l generalizing z with
  | nil => intro t ht; cases ht
  | cons t r ih =>
    obtain ⟨n, s⟩ := t
    rw [tagsF] at h
    split at h
    · cases h
    split at h
    · cases h
    split at h
    · cases h
    rename_i h1 h2 h3
    intro t ht
    rcases List.mem_cons.1 ht with rfl | ht
    · exact ⟨by show 0 ≤ n; omega, by show n < 16; omega, by show s.length = 16; omega⟩
    · exact ih h t ht
theorem fault_zero {g : Int} {l : List Tg} (h : faultL g l = 0) : 0 ≤ g ∧ g ≤ 4 ∧ l.length ≤ 16 ∧ ∀ t ∈ l, 0 ≤ t.1 ∧ t.1 < 16 ∧ t.2.length = 16 := by
  unfold faultL at h
  split at h
  · cases h
  · rename_i hg
    refine ⟨by omega, by omega, ?_, tags_mem h⟩
    rcases tags_len (by decide) h with h1 | rfl
    · omega
    · simp

/-- A certificate's list of texts. -/
def tagL (l : List Tg) : List (List UInt8) := l.flatMap fun t => [Lib.itoa t.1, t.2]
def encL (x : List UInt8) (g : Int) (l : List Tg) : List (List UInt8) := [x, Lib.itoa g] ++ tagL l
def encV (x : List UInt8) (g : Int) (l : List Tg) : List UInt8 := if faultL g l = 0 then packL (encL x g l) else []
theorem tagL_len (l : List Tg) : (tagL l).length = 2 * l.length := by
  induction l with
  | nil => rfl
  | cons t r ih => simp only [tagL, List.flatMap_cons, List.length_append, List.length_cons, List.length_nil] at ih ⊢; omega
theorem tagL_take (l : List Tg) (k : Nat) (t : Tg) (h : l[k]? = some t) : tagL (l.take (k + 1)) = tagL (l.take k) ++ [Lib.itoa t.1, t.2] := by
  rw [List.take_add_one, h]; simp [tagL]
theorem tagL_tot (l : List Tg) (h : ∀ t ∈ l, 0 ≤ t.1 ∧ t.1 < 16 ∧ t.2.length = 16) : tot (tagL l) ≤ 19 * l.length := by
  induction l with
  | nil => simp [tagL, tot]
  | cons t r ih =>
    have h1 := h t (by simp)
    have h2 := itoa_len2 t.1 (by omega) (by omega)
    have h3 := ih (fun t ht => h t (by simp [ht]))
    have e : tagL (t :: r) = [Lib.itoa t.1, t.2] ++ tagL r := rfl
    rw [e, tot_append]
    simp only [tot, List.map_cons, List.map_nil, List.sum_cons, List.sum_nil, List.length_cons] at h3 ⊢
    omega
theorem enc_tot (x : List UInt8) (g : Int) (l : List Tg) (hx : x.length ≤ 500000) (h : faultL g l = 0) : tot (encL x g l) ≤ 1000000 ∧ (encL x g l).length ≤ 34 := by
  obtain ⟨h1, h2, h3, h4⟩ := fault_zero h
  have h5 := tagL_tot l h4
  have h6 := itoa_len2 g (by omega) (by omega)
  rw [encL, tot_append, List.length_append, tagL_len]
  simp only [tot, List.map_cons, List.map_nil, List.sum_cons, List.sum_nil, List.length_cons, List.length_nil] at h5 ⊢
  omega

set_option maxRecDepth 20000 in
set_option maxHeartbeats 2000000 in
theorem Encode_any (x : List UInt8) (g : Int) (l : List Tg) (v : Value) (w : World) (hx : x.length ≤ 500000) (hll : l.length ≤ 140737488355328) (he : EnvP w) (hv : Tl w v l) :
    Calls Tryz.prog 25 #[.agg #[.string (bs x), .int .i64 g, v]] w fun e W' => e = .returned (.tuple #[.string (bs (encV x g l)), .int .i64 (faultL g l)]) ∧ Below w.heap.size w W' := by
  obtain ⟨va, vc, rfl⟩ := hv.slice
  have hB0 : Below w.heap.size w (w.alloc (.cells #[.string (bs x), .int .i64 g, .slice va l.length vc] 24)) := (Below.refl _ w).alloc (Nat.le_refl _) _
  have hc0 := cells_new w #[.string (bs x), .int .i64 g, .slice va l.length vc] 24
  have c0 : (w.alloc (.cells #[.string (bs x), .int .i64 g, .slice va l.length vc] 24)).cell? ⟨w.heap.size, 0, none⟩ = _ := hc0 0 _ rfl
  have c1 : (w.alloc (.cells #[.string (bs x), .int .i64 g, .slice va l.length vc] 24)).cell? ⟨w.heap.size, 1, none⟩ = _ := hc0 1 _ rfl
  have c2 : (w.alloc (.cells #[.string (bs x), .int .i64 g, .slice va l.length vc] 24)).cell? ⟨w.heap.size, 2, none⟩ = _ := hc0 2 _ rfl
  have hsz0 : w.heap.size < (w.alloc (.cells #[.string (bs x), .int .i64 g, .slice va l.length vc] 24)).heap.size := by simp
  have hvB0 := hv.below hB0 (Nat.le_refl _)
  have he0 := he.next hB0
  have hfa := fault_any (bs x) g l _ _ hll hvB0
  by_cases hf : faultL g l = 0
  · have e1 : encV x g l = packL (encL x g l) := if_pos hf
    obtain ⟨ht1, ht2⟩ := enc_tot x g l hx hf
    obtain ⟨g0, g4, hl16, hmem⟩ := fault_zero hf
    rw [hf] at hfa
    rw [e1, hf]
    clear e1 hf hc0
    go_enter Tryz.func25, Tryz.ntmps25
    go_wp2_with fail
    refine hfa.mono ?_
    rintro e w1 ⟨rfl, hb1⟩
    have hB1 := hB0.trans (hb1.mono hB0.size)
    have k0 := (hb1.cell (p := ⟨w.heap.size, 0, none⟩) hsz0).trans c0
    have k1 := (hb1.cell (p := ⟨w.heap.size, 1, none⟩) hsz0).trans c1
    have k2 := (hb1.cell (p := ⟨w.heap.size, 2, none⟩) hsz0).trans c2
    have he1 := he0.next hb1
    have hv1 := hvB0.below hb1 (Nat.le_refl _)
    have hs1 := Nat.lt_of_lt_of_le hsz0 hb1.size
    clear c0 c1 c2 hB0 hvB0 he0 hb1 hsz0 hfa
    have he1d : EnvP w1.drew := ⟨he1.pow, he1.size⟩
    go_wp2_with fail
    go_region_held3 (fun w' => w'.cell? ⟨w.heap.size, 0, none⟩ = some (.string (bs x)) ∧ w'.cell? ⟨w.heap.size, 1, none⟩ = some (.int .i64 g)) (go_keep)
      (first | (go_at_call 22; refine (Num_any g _ (by omega) (by omega) he1d).mono ?_; rintro e w2 ⟨rfl, hb2⟩; have m0 := (hb2.cell (p := ⟨w.heap.size, 0, none⟩) hs1).trans k0; have m1 := (hb2.cell (p := ⟨w.heap.size, 1, none⟩) hs1).trans k1; have m2 := (hb2.cell (p := ⟨w.heap.size, 2, none⟩) hs1).trans k2))
    all_goals
      have hb2' : Below w1.heap.size w1 w2 := ⟨hb2.os, hb2.tape, hb2.output, hb2.size, hb2.block⟩
      have hsB : Below w1.heap.size w1 (w2.alloc (.cells #[.string (bs x), .string (bs (Lib.itoa g))] 9)) := hb2'.alloc hb2'.size _
      have hown0 := owns_new w2 #[.string (bs x), .string (bs (Lib.itoa g))] 9 1 2 rfl (by decide)
      have he3 := he1.next hsB
      have hv3 := hv1.below hsB (Nat.le_refl _)
      have hB3 := hB1.trans (hsB.mono hB1.size)
      have hs3 : w.heap.size < (w2.alloc (.cells #[.string (bs x), .string (bs (Lib.itoa g))] 9)).heap.size := Nat.lt_of_lt_of_le hs1 hsB.size
      have j2 : (w2.alloc (.cells #[.string (bs x), .string (bs (Lib.itoa g))] 9)).cell? ⟨w.heap.size, 2, none⟩ = some (.slice va l.length vc) := (hsB.cell (p := ⟨w.heap.size, 2, none⟩) hs1).trans k2
      have hBo : w1.heap.size ≤ w2.heap.size := hb2'.size
      have hown1 := owns_below hown0 hBo
      obtain ⟨W3, hW3⟩ : ∃ W, w2.alloc (.cells #[.string (bs x), .string (bs (Lib.itoa g))] 9) = W := ⟨_, rfl⟩
      rw [hW3] at hs3 j2 hown1 hsB he3 hv3 hB3 ⊢
      clear hW3 hown0 hb2 hb2' m0 m1 m2 k0 k1 k2 he1d hv3 he3
      go_wp2_with fail
      obtain ⟨O, hO⟩ : ∃ O, w2.heap.size = O := ⟨_, rfl⟩
      rw [hO] at hown1 ⊢
      have hw1s := hs1
      have h1s := hsB.size
      go_loopw [5, 22] (fun d i wr => ∃ (k : Nat), i = .int .i64 k ∧ k ≤ l.length ∧ wr.ownsRow w1.heap.size 9 1 d (2 + 2 * k) (strs ([x, Lib.itoa g] ++ tagL (l.take k))) ∧ Below w1.heap.size w1 wr)
        (fun _ i _ => l.length - (intOf i).toNat)
      case atStart => exact ⟨0, rfl, Nat.zero_le _, by simpa [strs, tagL] using hown1, hsB⟩
      case round =>
        obtain ⟨k, rfl, hk, hown, hB⟩ := hrel
        obtain ⟨sa, sc, rfl⟩ := owns_slice hown
        by_cases hk1 : k = l.length
        · subst hk1
          rw [List.take_length] at hown
          have hel : (encL x g l).length = 2 + 2 * l.length := by rw [encL, List.length_append, tagL_len]; rfl
          have hSl : Sl wr (.slice sa (2 + 2 * l.length) sc) (encL x g l) := Sl.of_owns (by rw [hel]; exact hown)
          have hBw := hB1.trans (hB.mono hB1.size)
          go_wp2_with fail
          refine (Pack_any (encL x g l) _ wr ht1 (by omega) (he1.next hB) hSl).mono ?_
          rintro e w5 ⟨rfl, hb5⟩
          go_wp2
          go_ret2
          exact ⟨rfl, hBw.trans (hb5.mono hBw.size)⟩
        · have hk2 : k < l.length := by omega
          obtain ⟨b, o, rfl, hlt⟩ := hv1.some (by omega)
          obtain ⟨t, ht⟩ : ∃ t, l[k]? = some t := ⟨_, List.getElem?_eq_getElem hk2⟩
          have hvB := hv1.below hB (Nat.le_refl _)
          obtain ⟨hc1, hc2⟩ := hvB.cells ht
          have htk := tagL_take l k t ht
          have htm := hmem t (List.mem_of_getElem? ht)
          obtain ⟨n, s⟩ := t
          obtain ⟨n0, n1, n2⟩ := htm
          simp only at hc1 hc2 n0 n1 n2
          have hst : strs ([x, Lib.itoa g] ++ tagL (l.take (k + 1))) = strs ([x, Lib.itoa g] ++ tagL (l.take k)) ++ [.string (bs (Lib.itoa n)), .string (bs s)] := by rw [htk]; simp [strs]
          have HST : Hid (strs ([x, Lib.itoa g] ++ tagL (l.take (k + 1))) = strs ([x, Lib.itoa g] ++ tagL (l.take k)) ++ [.string (bs (Lib.itoa n)), .string (bs s)]) := hst
          obtain ⟨X, hX⟩ : ∃ X, strs ([x, Lib.itoa g] ++ tagL (l.take k)) = X := ⟨_, rfl⟩
          rw [hX] at hown HST
          have hrs := hB.size
          have hB4 := hB.alloc hB.size (.cells #[.int .i64 n, .string (bs s)] 82)
          have hown4 := hown.alloc (.cells #[.int .i64 n, .string (bs s)] 82)
          have he4 := he1.next hB4
          have he4d : EnvP (wr.alloc (.cells #[.int .i64 n, .string (bs s)] 82)).drew := ⟨he4.pow, he4.size⟩
          have hc4 := cells_new wr #[.int .i64 n, .string (bs s)] 82
          have d0 : (wr.alloc (.cells #[.int .i64 n, .string (bs s)] 82)).cell? ⟨wr.heap.size, 0, none⟩ = some (.int .i64 n) := hc4 0 _ rfl
          have d1 : (wr.alloc (.cells #[.int .i64 n, .string (bs s)] 82)).cell? ⟨wr.heap.size, 1, none⟩ = some (.string (bs s)) := hc4 1 _ rfl
          have hs4 : wr.heap.size < (wr.alloc (.cells #[.int .i64 n, .string (bs s)] 82)).drew.heap.size := by show _ < (wr.alloc _).heap.size; simp
          obtain ⟨i0, hi, hz0, hz1, hz2⟩ := info_parts Tryz.info9
          have hml : 2 + 2 * k + 2 ≤ maxLen := by unfold maxLen; omega
          have hne : some wr.heap.size ≠ (Value.slice sa (2 + 2 * k) sc).ownBlock := fun h => absurd (hown.lt _ h.symm).2 (Nat.lt_irrefl _)
          clear ht htk hst hX hvB hc4
          go_wp2_with fail
          go_region_held3 (fun w' => w'.cell? ⟨wr.heap.size, 0, none⟩ = some (.int .i64 n) ∧ w'.cell? ⟨wr.heap.size, 1, none⟩ = some (.string (bs s))) (go_keep)
            (first
              | (go_at_call 22; refine (Num_any n _ (by omega) (by omega) he4d).mono ?_; rintro e w4 ⟨rfl, hb4⟩; have m0 := (hb4.cell (p := ⟨wr.heap.size, 0, none⟩) hs4).trans d0; have m1 := (hb4.cell (p := ⟨wr.heap.size, 1, none⟩) hs4).trans d1; have hown5 := own_kept (show (wr.alloc (.cells #[.int .i64 n, .string (bs s)] 82)).drew.ownsRow _ _ _ _ _ _ from hown4) hb4; have hown6 := hown5.alloc (.cells #[.string (bs (Lib.itoa n)), .string (bs s)] 9); have hB5 : Below w1.heap.size w1 w4 := hB4.trans (Below.mono ⟨hb4.os, hb4.tape, hb4.output, hb4.size, hb4.block⟩ hB4.size); have hB6 := hB5.alloc hB5.size (.cells #[.string (bs (Lib.itoa n)), .string (bs s)] 9); have hb6s := hB6.size; have hs5 : wr.heap.size < w4.heap.size := Nat.lt_of_lt_of_le hs4 hb4.size; have hB7 := (Below.refl w4.heap.size w4).alloc (Nat.le_refl _) (.cells #[.string (bs (Lib.itoa n)), .string (bs s)] 9); have q0 := (hB7.cell (p := ⟨wr.heap.size, 0, none⟩) hs5).trans m0; have q1 := (hB7.cell (p := ⟨wr.heap.size, 1, none⟩) hs5).trans m1; have hs6 : wr.heap.size < (w4.alloc (.cells #[.string (bs (Lib.itoa n)), .string (bs s)] 9)).heap.size := Nat.lt_of_lt_of_le hs5 hB7.size)
              | (refine step_append_lies _ (by rfl) _ _ 55 (by rfl) w1.heap.size 9 i0 (.string ⟨#[]⟩) 1 16 Tryz.underlying55 hi hz0 hz1 hz2 rfl (by decide) _ (2 + 2 * k) X (by rfl) hown6 ⟨w4.heap.size, 0, none⟩ 2 2 [.string (bs (Lib.itoa n)), .string (bs s)] (by rfl) rfl (cells_new w4 #[.string (bs (Lib.itoa n)), .string (bs s)] 9) (by simp [Value.oneCell']) (by decide) hml (by omega) hb6s _ rfl ?_; intro ga ca w6 hown7 hgrow hat hlt6; have r0 := (hgrow.cell_far ⟨wr.heap.size, 0, none⟩ hs6 hne).trans q0; have r1 := (hgrow.cell_far ⟨wr.heap.size, 1, none⟩ hs6 hne).trans q1))
          all_goals
            have hB8 := hB6.grown hgrow hb6s (fun q hq => (hown.lt q hq).1)
            go_wp2
            go_roundw
            case rel => exact ⟨k + 1, by go_num, hk2, by rw [HST.out, show 2 + 2 * (k + 1) = 2 + 2 * k + 2 from by omega]; exact hown7, hB8⟩
            case measure => simp [intOf]; omega
  · have e1 : encV x g l = [] := if_neg hf
    have hq : (faultL g l != 0) = true := by simpa using hf
    rw [e1]
    obtain ⟨E, hE⟩ : ∃ E, faultL g l = E := ⟨_, rfl⟩
    rw [hE] at hq hfa ⊢
    clear hE hf e1 hc0
    go_enter Tryz.func25, Tryz.ntmps25
    go_wp2_with fail
    refine hfa.mono ?_
    rintro e w1 ⟨rfl, hb1⟩
    have hB1 := hB0.trans (hb1.mono hB0.size)
    go_wp2
    go_ret2
    exact ⟨rfl, hB1⟩
end Go.Proofs.YtifalaigfinciaaGreatDoor
