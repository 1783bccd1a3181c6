import Derived.Test.YtielknegifbmpaaDoorNsQ
import Derived.BigCall
namespace Go.Proofs.YtielknegifbmpaaDoor
open Go.RowKit
attribute [local go_sem ↓] Go.wp_at_zero Go.wp_at_succ

def strNum : Value → Nat
  | .string s => s.size
  | _ => 0
theorem good_split {s r : List UInt8} {l : List (List UInt8)} (h : items s = l.map (fun t => (t, (0 : Int))) ++ items r) : (good s ↔ good r) ∧ (good s → texts s = l ++ texts r) := by
  have hg : good s ↔ good r := by
    rw [good_iff, good_iff, h]
    constructor
    · intro hh x hx
      exact hh x (List.mem_append_right _ hx)
    · intro hh x hx
      rcases List.mem_append.1 hx with h1 | h1
      · obtain ⟨t, _, rfl⟩ := List.mem_map.1 h1; rfl
      · exact hh x h1
  refine ⟨hg, fun hs => ?_⟩
  rw [texts, if_pos hs, texts, if_pos (hg.1 hs), h, List.map_append, List.map_map]
  congr 1
  exact List.map_id' l
theorem good_nil : good [] := by rw [good_iff, items_nil]; simp
theorem texts_nil : texts [] = [] := by rw [texts, if_pos good_nil, items_nil]; rfl
theorem bad_none {s : List UInt8} (h0 : s ≠ []) (h : firstL 19 s = none) : ¬ good s := by
  rw [good_iff, items_none h0 h]
  simp

set_option maxRecDepth 20000 in
set_option maxHeartbeats 2000000 in
theorem rUnpack_any (s : List UInt8) (w : World) (hs : s.length ≤ 4000000) :
    Calls Tryd.prog 23 #[.string (bs s)] w fun e W' => ∃ v, e = .returned (.tuple #[v, .int .i64 (errOf s)]) ∧ W'.ownsRow w.heap.size 9 1 v (texts s).length (strs (texts s)) ∧ Below w.heap.size w W' := by
  obtain ⟨i0, hi, hz0, hz1, hz2⟩ := info_parts Tryd.info9
  obtain ⟨E, hE⟩ : ∃ E, errOf s = E := ⟨_, rfl⟩
  obtain ⟨T, hT⟩ : ∃ T, texts s = T := ⟨_, rfl⟩
  rw [hE, hT]
  go_enter Tryd.func23, Tryd.ntmps23
  go_wp2
  go_loopw [4, 5] (fun o r wr => ∃ (l : List (List UInt8)) (q : List UInt8), r = .string (bs q) ∧ Hid (items s = l.map (fun t => (t, (0 : Int))) ++ items q) ∧ l.length + q.length ≤ s.length ∧ wr.ownsRow w.heap.size 9 1 o l.length (strs l) ∧ Below w.heap.size w wr)
    (fun _ r _ => strNum r)
  case atStart => exact ⟨[], s, rfl, (show items s = [].map (fun t => (t, (0 : Int))) ++ items s by simp), by simp, World.ownsRow_nil _ _ _ _, Below.refl _ _⟩
  case round =>
    obtain ⟨l, q, rfl, hit, hlen, hown, hB⟩ := hrel
    by_cases hq0 : q = []
    · subst hq0
      obtain ⟨g1, g2⟩ := good_split hit.out
      have hgs := g1.2 good_nil
      have e1 : E = 0 := by rw [← hE, errOf, if_pos hgs]
      have e2 : T = l := by rw [← hT, g2 hgs, texts_nil, List.append_nil]
      clear hE hT hit g1 g2 hgs
      subst e1 e2
      obtain ⟨va, vc, rfl⟩ := owns_sliceN hown
      have hne : (bs []).toList.isEmpty = true := by rw [ByteArray.toList_eq]; rfl
      go_wp2
      go_ret2
      exact ⟨_, rfl, hown, hB⟩
    · have hne : (bs q).toList.isEmpty = false := by
        rw [ByteArray.toList_eq, bs_list]
        cases q with
        | nil => exact absurd rfl hq0
        | cons a q => rfl
      have hTk := rTake_any (bs q) wr (by rw [bs_size]; omega)
      rw [bs_list, first_9_19 (by omega)] at hTk
      cases hf : firstL 19 q with
      | none =>
        rw [hf] at hTk
        obtain ⟨g1, g2⟩ := good_split hit.out
        have hgs : ¬ good s := fun h => bad_none hq0 hf (g1.1 h)
        have e1 : E = 4 := by rw [← hE, errOf, if_neg hgs]
        have e2 : T = [] := by rw [← hT, texts, if_neg hgs]
        clear hE hT hit g1 g2 hgs hf
        subst e1 e2
        go_wp2_with fail
        refine hTk.mono ?_
        rw [firstV]
        rintro e w1 ⟨rfl, hb1⟩
        have hB1 := hB.trans (hb1.mono hB.size)
        go_wp2
        go_ret2
        exact ⟨_, rfl, World.ownsRow_nil _ _ _ _, hB1⟩
      | some ab =>
        obtain ⟨a, b⟩ := ab
        rw [hf] at hTk
        have hfl := first_len hf
        have hit2 : Hid (items s = (l ++ [a]).map (fun t => (t, (0 : Int))) ++ items b) := by
          show items s = (l ++ [a]).map (fun t => (t, (0 : Int))) ++ items b
          rw [hit.out, items_some hq0 hf, List.map_append, List.append_assoc]
          rfl
        clear hit hf
        have hml : l.length + 1 ≤ maxLen := by unfold maxLen; omega
        go_wp2_with fail
        refine hTk.mono ?_
        rw [firstV]
        rintro e w1 ⟨rfl, hb1⟩
        have hB1 := hB.trans (hb1.mono hB.size)
        have hown1 := own_kept hown hb1
        have hsz1 := hB1.size
        have hsl : strs (l ++ [a]) = strs l ++ [.string (bs a)] := by simp [strs]
        clear hown hTk
        go_wp2_with (first
          | (at_builtin; refine wpList_append_own _ rfl _ _ 44 rfl w.heap.size 9 i0 (.string ⟨#[]⟩) 1 16 Tryd.underlying44 hi hz0 hz1 hz2 rfl (by decide) _ _ _ rfl (hown1.alloc _) ⟨w1.heap.size, 0, none⟩ 1 1 [.string (bs a)] rfl rfl (cell_one_new _ _ _) (by simp [Value.oneCell']) hml (by omega) (by simp; omega) ?_; intro v' w3 hown' hgrow3 hnil3))
        have hB3 := (hB1.alloc hsz1 (.cells #[.string (bs a)] 9)).grown hgrow3 (by simp; omega) (fun q hq => (hown1.lt q hq).1)
        go_roundw
        case rel => exact ⟨l ++ [a], b, rfl, hit2, by rw [List.length_append]; show l.length + 1 + b.length ≤ _; omega, by rw [hsl, List.length_append]; exact hown', hB3⟩
        case measure => simp only [strNum, bs_size]; omega

end Go.Proofs.YtielknegifbmpaaDoor
