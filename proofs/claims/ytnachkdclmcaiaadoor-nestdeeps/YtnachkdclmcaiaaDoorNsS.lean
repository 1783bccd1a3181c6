import Derived.Test.YtnachkdclmcaiaaDoorNsR
namespace Go.Proofs.YtnachkdclmcaiaaDoor
open Go.RowKit
attribute [local go_sem ↓] Go.wp_at_zero Go.wp_at_succ

/-- The greatest of numbers, 0 where there is none. -/
def mx : List Nat → Nat
  | [] => 0
  | a :: l => max a (mx l)
theorem mx_append (a b : List Nat) : mx (a ++ b) = max (mx a) (mx b) := by
  induction a with
  | nil => simp [mx]
  | cons x a ih => simp only [List.cons_append, mx, ih]; omega
theorem mx_le {l : List Nat} {n : Nat} (h : ∀ x ∈ l, x ≤ n) : mx l ≤ n := by
  induction l with
  | nil => exact Nat.zero_le _
  | cons a l ih =>
    have h1 := h a (by simp)
    have h2 := ih fun x hx => h x (by simp [hx])
    simp only [mx]; omega
theorem mx_flat {α : Type} (f : α → List Nat) (l : List α) : mx (l.flatMap f) = mx (l.map fun a => mx (f a)) := by
  induction l with
  | nil => rfl
  | cons a l ih => rw [List.flatMap_cons, mx_append, ih]; rfl
theorem mx_succ {α : Type} (f : α → Nat) : ∀ l : List α, l ≠ [] → mx (l.map fun a => 1 + f a) = 1 + mx (l.map f)
  | [], h => absurd rfl h
  | [a], _ => by simp [mx]
  | a :: b :: l, _ => by
    have ih := mx_succ f (b :: l) (by simp)
    have e1 : mx ((a :: b :: l).map fun a => 1 + f a) = max (1 + f a) (mx ((b :: l).map fun a => 1 + f a)) := rfl
    have e2 : mx ((a :: b :: l).map f) = max (f a) (mx ((b :: l).map f)) := rfl
    rw [e1, e2, ih]; omega
theorem inner_one (s : List UInt8) : innerL [s] = ((items s).map (·.1)).filter isL := by rw [inner_cons, inner_nil, List.append_nil]
theorem levels_mx (l : List (List UInt8)) (h : ∀ s ∈ l, isL s = true) : levels l = mx (l.map fun s => levels [s]) := by
  induction hk : tot l using Nat.strongRecOn generalizing l with
  | _ k ih =>
    subst hk
    by_cases hl : l = []
    · subst hl; rw [levels_nil]; rfl
    · rw [levels_step hl h, ih _ (inner_lt hl h) (innerL l) (inner_isL l) rfl]
      have e1 : (innerL l).map (fun s => levels [s]) = l.flatMap fun s => (innerL [s]).map fun t => levels [t] := by
        show (l.flatMap fun s => ((items s).map (·.1)).filter isL).map _ = _
        rw [List.map_flatMap]
        congr 1
        funext s
        rw [inner_one]
      rw [e1, mx_flat, ← mx_succ _ l hl]
      congr 1
      apply List.map_congr_left
      intro s hs
      have h1 : ∀ t ∈ [s], isL t = true := by simpa using h s hs
      rw [levels_step (by simp) h1]
      congr 1
      have h2 := inner_lt (l := [s]) (by simp) h1
      have h3 : tot [s] ≤ tot l := by have := mem_tot hs; simpa [tot] using this
      rw [ih _ (by omega) (innerL [s]) (inner_isL _) rfl]
theorem deep_step (s : List UInt8) : deepL s = mx ((texts s).map fun t => 1 + deepL t) := by
  by_cases hL : isL s = true
  · have h0 : s ≠ [] ∧ good s := by simpa [isL] using hL
    have hit : items s ≠ [] := by
      cases hf : firstL 19 s with
      | none => rw [items_none h0.1 hf]; simp
      | some ab => obtain ⟨a, b⟩ := ab; rw [items_some h0.1 hf]; simp
    have htx : texts s = (items s).map (·.1) := by rw [texts, if_pos h0.2]
    have hne : texts s ≠ [] := by rw [htx]; simpa using hit
    rw [deepL, if_pos hL, levels_step (by simp) (by simpa using hL), levels_mx _ (inner_isL _), mx_succ _ _ hne, inner_one, ← htx]
    congr 1
    generalize texts s = T
    induction T with
    | nil => rfl
    | cons a T ih =>
      rw [List.filter_cons]
      cases ha : isL a with
      | true =>
        have e : deepL a = levels [a] := by rw [deepL, if_pos ha]
        simp only [if_true, List.map_cons, mx]
        rw [ih, e]
      | false =>
        have e : deepL a = 0 := by rw [deepL, if_neg (by rw [ha]; simp)]
        simp only [List.map_cons, mx]
        rw [e, if_neg (by simp), ih]
        omega
  · rw [deepL, if_neg hL]
    have : texts s = [] := by
      by_cases h0 : s = []
      · subst h0; exact texts_nil
      · have : ¬ good s := fun h => hL (by simp [isL]; exact ⟨h0, h⟩)
        rw [texts, if_neg this]
    rw [this]; rfl
theorem deep_le (s : List UInt8) : deepL s ≤ s.length := by
  unfold deepL
  split
  · have := levels_le [s]; simpa [tot] using this
  · exact Nat.zero_le _
theorem text_lt {s t : List UInt8} (h : t ∈ texts s) : t.length < s.length := by
  by_cases h0 : s = []
  · subst h0; rw [texts_nil] at h; cases h
  · by_cases hg : good s
    · rw [texts, if_pos hg] at h
      exact Nat.lt_of_le_of_lt (mem_tot h) (items_tot h0)
    · rw [texts, if_neg hg] at h; cases h
theorem mx_take (T : List (List UInt8)) (k : Nat) (t : List UInt8) (h : T[k]? = some t) : mx ((T.take (k + 1)).map fun t => 1 + deepL t) = max (mx ((T.take k).map fun t => 1 + deepL t)) (1 + deepL t) := by
  rw [List.take_add_one, h, List.map_append, mx_append]
  simp [mx]

set_option maxRecDepth 20000 in
set_option maxHeartbeats 2000000 in
theorem rDeep_any (n : Nat) : ∀ (s : List UInt8) (w : World), s.length < n → s.length ≤ 1000000 →
    Calls Tryd.prog 23 #[.string (bs s)] w fun e W' => e = .returned (.int .i64 (deepL s)) ∧ Below w.heap.size w W' := by
  induction n with
  | zero => intro s w hn; omega
  | succ n ih =>
    intro s w hn hs
    have hdl := deep_le s
    by_cases hg : good s
    · have e1 : errOf s = 0 := by rw [errOf, if_pos hg]
      have hds := deep_step s
      have hlt : Hid (∀ t ∈ texts s, t.length < s.length) := fun t ht => text_lt ht
      have htl := texts_len s
      obtain ⟨D, hD⟩ : ∃ D, deepL s = D := ⟨_, rfl⟩
      rw [hD] at hds hdl ⊢
      go_enter Tryd.func23, Tryd.ntmps23
      go_wp2_with fail
      refine (rUnpack_any s w (by omega)).mono ?_
      rw [e1]
      obtain ⟨T, hT⟩ : ∃ T, texts s = T := ⟨_, rfl⟩
      rw [hT] at hlt hds htl ⊢
      rintro e w1 ⟨u, rfl, hrow, hb1⟩
      have hS := Sl.of_owns hrow
      clear hrow hD hT e1 hg
      have hds : Hid (D = mx (T.map fun t => 1 + deepL t)) := hds
      obtain ⟨ua, uc, rfl⟩ := hS.slice
      have hih : Hid (∀ (s : List UInt8) (w : World), s.length < n → s.length ≤ 1000000 → Calls Tryd.prog 23 #[.string (bs s)] w fun e W' => e = .returned (.int .i64 (deepL s)) ∧ Below w.heap.size w W') := ih
      clear ih
      go_wp2
      go_loopw [5, 18] (fun d i wr => ∃ (k m : Nat), d = .int .i64 m ∧ i = .int .i64 k ∧ k ≤ T.length ∧ Hid (m = mx ((T.take k).map fun t => 1 + deepL t)) ∧ m ≤ 1000001 ∧ Below w1.heap.size w1 wr)
        (fun _ i _ => T.length - lenOf i)
      case atStart => exact ⟨0, 0, rfl, rfl, Nat.zero_le _, (show 0 = mx ((T.take 0).map fun t => 1 + deepL t) from rfl), by omega, Below.refl _ _⟩
      case round =>
        obtain ⟨k, m, rfl, rfl, hk, hm, hm1, hB⟩ := hrel
        by_cases hk1 : k = T.length
        · subst hk1
          have e : D = m := by rw [hds.out, hm.out, List.take_length]
          subst e
          go_wp2
          go_ret
          exact ⟨rfl, hb1.trans (hB.mono hb1.size)⟩
        · have hk2 : k < T.length := by omega
          obtain ⟨t, ht⟩ : ∃ t, T[k]? = some t := ⟨_, List.getElem?_eq_getElem hk2⟩
          have htl2 := hlt.out t (List.mem_of_getElem? ht)
          have hmt := mx_take T k t ht
          rw [← hm.out] at hmt
          have htd := deep_le t
          rcases hS.below hB (Nat.le_refl _) with ⟨rfl, _⟩ | ⟨vb, vo, vcap, hve, _, hvc⟩
          · cases ht
          injection hve with hva _ hvcap
          subst hva hvcap
          have hct := hvc k t ht
          clear ht hvc hm
          have hcall := hih.out t wr (by omega) (by omega)
          obtain ⟨x, hx⟩ : ∃ x, deepL t = x := ⟨_, rfl⟩
          rw [hx] at hcall hmt htd
          have hmt : Hid (mx ((T.take (k + 1)).map fun t => 1 + deepL t) = max m (1 + x)) := hmt
          clear hx
          go_wp2_with fail
          refine hcall.mono ?_
          rintro e w2 ⟨rfl, hb2⟩
          have hB2 := hB.trans (hb2.mono hB.size)
          clear hcall hct
          by_cases hgt : m < 1 + x
          · go_wp2
            go_roundw
            case rel => exact ⟨k + 1, 1 + x, by rw [Int.natCast_add]; rfl, by rw [Int.natCast_succ], hk2, (show 1 + x = mx _ by rw [hmt.out]; omega), by omega, hB2⟩
            case measure => simp only [lenOf]; omega
          · go_wp2
            go_roundw
            case rel => exact ⟨k + 1, m, rfl, by rw [Int.natCast_succ], hk2, (show m = mx _ by rw [hmt.out]; omega), by omega, hB2⟩
            case measure => simp only [lenOf]; omega
    · have e1 : errOf s = 4 := by rw [errOf, if_neg hg]
      have hd : deepL s = 0 := by
        rw [deep_step, texts, if_neg hg]; rfl
      rw [hd]
      clear hd hdl
      go_enter Tryd.func23, Tryd.ntmps23
      go_wp2_with fail
      refine (rUnpack_any s w (by omega)).mono ?_
      rw [e1]
      rintro e w1 ⟨u, rfl, hrow, hb1⟩
      clear hrow e1 hg
      go_wp2
      go_ret
      exact ⟨rfl, hb1⟩

set_option maxHeartbeats 1000000 in
theorem deeps_any (s : List UInt8) (w : World) (hs : s.length ≤ 140737488355328) (he : Env w) :
    Calls Tryd.prog 7 #[.string (bs s)] w fun e W' => e = .returned (.bool true) ∧ Below w.heap.size w W' := by
  have hss : (bs s).size = s.length := bs_size s
  by_cases h3 : 2000 < s.length
  · go_enter Tryd.func7, Tryd.ntmps7
    go_wp2_with fail
    refine (two_any w he).mono ?_
    rintro e w1 ⟨rfl, hb⟩
    go_wp2
    go_ret
    exact ⟨rfl, hb⟩
  · go_enter Tryd.func7, Tryd.ntmps7
    go_wp2_with fail
    refine (Deep_any s w (by omega) he).mono ?_
    rintro e w1 ⟨rfl, hb1⟩
    go_wp2_with fail
    refine (rDeep_any (s.length + 1) s w1 (by omega) (by omega)).mono ?_
    rintro e w2 ⟨rfl, hb2⟩
    have hB2 := hb1.trans (hb2.mono hb1.size)
    go_wp2_with fail
    refine (two_any w2 (he.next hB2)).mono ?_
    rintro e w3 ⟨rfl, hb3⟩
    go_wp2
    go_ret
    exact ⟨rfl, hB2.trans (hb3.mono hB2.size)⟩
end Go.Proofs.YtnachkdclmcaiaaDoor
