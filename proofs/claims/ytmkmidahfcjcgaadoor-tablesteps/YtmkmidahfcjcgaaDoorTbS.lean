/- What is put is read: plain; a table that is worked on beside what came in. -/
import Derived.Test.YtmkmidahfcjcgaaDoorTbJ
import Derived.Test.YtmkmidahfcjcgaaDoorTbQ
import Derived.Test.YtmkmidahfcjcgaaDoorTbU
namespace Go.Proofs.YtmkmidahfcjcgaaDoor
open Go.RowKit
attribute [local go_sem ↓] Go.wp_at_zero Go.wp_at_succ

theorem tells_err {had : Option (List UInt8)} {n : Nat} {kind : Int} {v o : List UInt8} (h : (tells had n kind v o).2 ≠ 0) : (tells had n kind v o).1 = [] := by
  cases had with
  | none =>
    by_cases a : kind ≠ 2 ∧ kind ≠ 3
    · rw [tells, if_pos a]
    · by_cases b : 16 ≤ n
      · rw [tells, if_neg a, if_pos b]
      · rw [tells, if_neg a, if_neg b] at h
        exact absurd rfl h
  | some u =>
    by_cases a : kind = 3
    · by_cases b : 64 < (u ++ v).length
      · rw [tells, if_pos a, if_pos b]
      · rw [tells, if_pos a, if_neg b] at h
        exact absurd rfl h
    · by_cases b : kind = 5 ∧ u ≠ o
      · rw [tells, if_neg a, if_pos b]
      · rw [tells, if_neg a, if_neg b] at h
        exact absurd rfl h
theorem do_err {l : List Rw} {kind : Int} {k v o t : List UInt8} {E : Int} {l' : List Rw} (h : doR l kind k v o = (t, E, l')) (hE : E ≠ 0) : t = [] ∧ l' = l := by
  unfold doR at h
  split at h
  · simp only [Prod.mk.injEq] at h
    exact ⟨h.1.symm, h.2.2.symm⟩
  · simp only [Prod.mk.injEq] at h
    obtain ⟨h1, h2, h3⟩ := h
    rw [h2, if_pos (.inl hE)] at h3
    refine ⟨?_, h3.symm⟩
    rw [← h1]
    exact tells_err (by rw [h2]; exact hE)
theorem do_get {l : List Rw} {k : List UInt8} (hk : isK k = true) : doR l 1 k [] [] = ((val? l k).getD [], (if (val? l k).isSome then 0 else 6), l) := by
  have hc : chk 1 k [] [] = 0 := by
    rw [chk, if_neg (by decide), if_neg (by simp [hk, isV]), if_neg (by simp), if_neg (by simp)]
  rw [doR, if_neg (by simp [hc])]
  cases h : val? l k with
  | none => simp [tells]
  | some u => simp [tells]
/-- What is told, and what the key's value is behind it. -/
theorem do_ok {l : List Rw} (hl : Ok l) {kind : Int} {k v o t : List UInt8} {l' : List Rw} (h : doR l kind k v o = (t, 0, l')) :
    isK k = true ∧ 1 ≤ kind ∧ kind ≤ 5 ∧ (kind = 1 → l' = l ∧ val? l' k = some t) ∧ (kind = 2 ∨ kind = 5 → val? l' k = some v) ∧ (kind = 3 → val? l' k = some t ∧ ∃ h, t = h ++ v) ∧ (kind = 4 → val? l' k = none) := by
  by_cases hc : chk kind k v o = 0
  · obtain ⟨c1, c5, ck, cv, co⟩ := chk_zero hc
    refine ⟨ck, c1, c5, ?_⟩
    rw [doR, if_neg (by simp [hc])] at h
    simp only [Prod.mk.injEq] at h
    obtain ⟨h1, h2, h3⟩ := h
    have hs := hl.sorted
    rw [h2] at h3
    simp only [ne_eq, not_true_eq_false, false_or] at h3
    refine ⟨fun e => ?_, fun e => ?_, fun e => ?_, fun e => ?_⟩
    · subst e
      rw [if_pos rfl] at h3
      subst h3
      refine ⟨rfl, ?_⟩
      cases hv : val? l k with
      | none => rw [hv] at h2; simp [tells] at h2
      | some u =>
        rw [hv] at h1
        simp [tells] at h1
        rw [h1]
    · rw [if_neg (by omega), if_neg (by omega)] at h3
      subst h3
      rw [val_put hs, if_pos rfl, now, if_neg (by omega)]
    · subst e
      rw [if_neg (by omega), if_neg (by omega)] at h3
      subst h3
      rw [val_put hs, if_pos rfl, now, if_pos rfl]
      cases hv : val? l k with
      | none =>
        rw [hv] at h1 h2
        have : t = v := by
          rw [← h1]
          simp only [tells]
          simp only [tells] at h2
          split
          · simp_all
          · split
            · simp_all
            · simp
        subst this
        exact ⟨rfl, [], rfl⟩
      | some u =>
        rw [hv] at h1 h2
        have : t = u ++ v := by
          rw [← h1]
          simp only [tells, if_true] at h2 ⊢
          split
          · simp_all
          · rfl
        subst this
        exact ⟨rfl, u, rfl⟩
    · subst e
      rw [if_neg (by omega), if_pos rfl] at h3
      subst h3
      cases hv : val? l k with
      | none => rw [hv] at h2; simp [tells] at h2
      | some u => rw [val_del hs hv, if_pos rfl]
  · rw [do_bad hc] at h
    simp only [Prod.mk.injEq] at h
    exact absurd h.2.1 hc

/-- A world behind W0: all that stood there stands there. -/
structure Cw (W0 : World) where
  w : World
  h : Below W0.heap.size W0 w
theorem wp_region_grow {P : Program} {id : Nat} {Q : Exit → Act → World → Prop} {a : Act} {w W0 : World} {l : List Oper} (hm : P.follows .mixedOrders = true) (hB : Region.lexB .any l.toArray = true) (hw : Below W0.heap.size W0 w)
    (h : wpQuiet P l.toArray (fun w' => ∃ x : Cw W0, w' = x.w) (fun a' => ∀ w', (∃ x : Cw W0, w' = x.w) → Q .normal a' w') l a) : (Code.region id l.toArray true).wp P Q a w :=
  wp_region_quiet (C := fun w' => ∃ x : Cw W0, w' = x.w) hm hB ⟨⟨_, below_drew hw⟩, rfl⟩ (by simpa using h)

/-- The table, and all that stood at W0. -/
structure Tk (W0 : World) (B : Nat) (l : List Rw) (v : Value) (W : World) : Prop where
  tab : TabAt W B l v
  below : Below W0.heap.size W0 W
theorem Tk.on {W0 W W' : World} {B : Nat} {l : List Rw} {v : Value} (h : Tk W0 B l v W) (hb : Below W.heap.size W W') : Tk W0 B l v W' := ⟨h.tab.on hb, h.below.trans (hb.mono h.below.size)⟩
theorem Tk.do {W0 W : World} {B : Nat} {l : List Rw} {v : Value} (h : Tk W0 B l v W) (hB : W0.heap.size ≤ B) (kind : Int) (k vl o : List UInt8) {t : List UInt8} {E : Int} {l' : List Rw} (hd : doR l kind k vl o = (t, E, l')) :
    Calls Tryd.prog 11 #[.pointer (some ⟨B, 0, none⟩), opV kind k vl o] W fun e W' => e = .returned (.tuple #[.string (bs t), .int .i64 E]) ∧ ∃ v', Tk W0 B l' v' W' := by
  have := Do_any h.tab kind k vl o
  rw [hd] at this
  refine this.mono ?_
  rintro e W' ⟨rfl, v', h1, _, h3⟩
  exact ⟨rfl, v', h1, h.below.trans (h3.below hB h.below.size)⟩
end Go.Proofs.YtmkmidahfcjcgaaDoor
