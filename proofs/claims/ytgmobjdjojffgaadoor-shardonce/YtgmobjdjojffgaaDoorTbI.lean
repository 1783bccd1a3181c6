/- Tables: Text, walked. -/
import Derived.Test.YtgmobjdjojffgaaDoorTbH
namespace Go.Proofs.YtgmobjdjojffgaaDoor
open Go.RowKit
attribute [local go_sem ↓] Go.wp_at_zero Go.wp_at_succ

/-- Keys and values in turn. -/
def flat (l : List Rw) : List (List UInt8) := l.flatMap fun r => [r.1, r.2]
/-- A table's text. -/
def textT (l : List Rw) : List UInt8 := packL (flat l)
theorem flat_len (l : List Rw) : (flat l).length = l.length * 2 := by
  induction l with
  | nil => rfl
  | cons r l ih => simp only [flat, List.flatMap_cons, List.length_append, List.length_cons, List.length_nil] at ih ⊢; omega
theorem flat_take {l : List Rw} {n : Nat} {r : Rw} (h : l[n]? = some r) : flat (l.take (n + 1)) = flat (l.take n) ++ [r.1, r.2] := by
  rw [List.take_add_one, h]
  simp [flat]
theorem strs_append (a b : List (List UInt8)) : strs (a ++ b) = strs a ++ strs b := by simp [strs]
theorem flat_mem {l : List Rw} (h : Ok l) : ∀ t ∈ flat l, t.length ≤ 64 := by
  intro t ht
  simp only [flat, List.mem_flatMap] at ht
  obtain ⟨r, hr, ht⟩ := ht
  obtain ⟨h1, h2⟩ := h.row r hr
  simp [isK, isV] at h1 h2
  simp at ht
  rcases ht with rfl | rfl <;> omega
theorem tot_le {l : List (List UInt8)} (h : ∀ t ∈ l, t.length ≤ 64) : tot l ≤ 64 * l.length := by
  induction l with
  | nil => simp [tot]
  | cons a l ih =>
    rw [tot_cons, List.length_cons]
    have := ih fun t ht => h t (List.mem_cons_of_mem _ ht)
    have := h a (List.mem_cons_self ..)
    omega
theorem flat_tot {l : List Rw} (h : Ok l) : tot (flat l) ≤ 2048 ∧ (flat l).length ≤ 32 := by
  have h1 := tot_le (flat_mem h)
  have h2 := flat_len l
  have h3 := h.len
  omega
theorem Text_nil (w : World) : Calls Tryd.prog 52 #[.pointer none] w fun e W' => e = .returned (.string (bs [])) ∧ W' = w := by
  go_enter Tryd.func52, Tryd.ntmps52
  go_wp2
  go_ret
  exact ⟨rfl, rfl⟩
set_option maxRecDepth 20000 in
set_option maxHeartbeats 1000000 in
theorem Text_any {w : World} {B : Nat} {l : List Rw} {v : Value} (h : TabAt w B l v) (he : EnvP w) : Calls Tryd.prog 52 #[.pointer (some ⟨B, 0, none⟩)] w fun e W' => e = .returned (.string (bs (textT l))) ∧ Below w.heap.size w W' := by
  obtain ⟨i0, hi, hz0, hz1, hz2⟩ := info_parts Tryd.info9
  obtain ⟨a, c, rfl, hcap⟩ := h.rows.slice
  have hcell := h.cell
  have hlt := h.lt
  have hlen := h.ok.len
  have HK : Hid (∀ W, Below w.heap.size w W → ∀ n r, l[n]? = some r → ∃ g, a = some ⟨g, 0, none⟩ ∧ g < w.heap.size ∧ W.cell? ⟨g, n * 2, none⟩ = some (.string (bs r.1)) ∧ W.cell? ⟨g, n * 2 + 1, none⟩ = some (.string (bs r.2))) := fun W hb n r hr => by
    obtain ⟨g, e, hg, c1, c2⟩ := h.rows.at hr
    exact ⟨g, e, hg, (hb.cell (p := ⟨g, n * 2, none⟩) hg).trans c1, (hb.cell (p := ⟨g, n * 2 + 1, none⟩) hg).trans c2⟩
  have HP : Hid (∀ W u, Below w.heap.size w W → W.ownsRow w.heap.size 9 1 u (l.length * 2) (strs (flat l)) → Calls Tryd.prog 31 #[u] W fun e W' => e = .returned (.string (bs (textT l))) ∧ Below w.heap.size w W') := fun W u hb ho => by
    obtain ⟨t1, t2⟩ := flat_tot h.ok
    rw [← flat_len] at ho
    refine (Pack_any (flat l) u W (by omega) (by omega) (he.next hb) (Sl.of_owns ho)).mono ?_
    rintro e W' ⟨rfl, h1⟩
    exact ⟨rfl, hb.trans (h1.mono hb.size)⟩
  obtain ⟨T, hT⟩ : ∃ T, textT l = T := ⟨_, rfl⟩
  rw [hT] at HP
  rw [hT]
  clear h he hT
  go_enter Tryd.func52, Tryd.ntmps52
  go_wp2
  go_loopw [3, 13] (fun u i wr => ∃ n : Nat, i = .int .i64 n ∧ n ≤ l.length ∧ wr.ownsRow w.heap.size 9 1 u (n * 2) (strs (flat (l.take n))) ∧ Below w.heap.size w wr) (fun _ i _ => l.length - (intOf i).toNat)
  case atStart => exact ⟨0, rfl, Nat.zero_le _, World.ownsRow_nil _ _ _ _, Below.refl _ _⟩
  case round =>
    obtain ⟨n, rfl, hn, hown, hB⟩ := hrel
    obtain ⟨ua, uc, rfl⟩ := owns_slice hown
    by_cases hn1 : n = l.length
    · subst hn1
      rw [List.take_length] at hown
      have hP := HP.out _ _ hB hown
      clear hown HK HP
      go_wp2_with (go_at_call 31; refine hP.mono ?_; rintro e w1 ⟨rfl, hb1⟩)
      go_ret
      exact ⟨rfl, hb1⟩
    · have hn2 : n < l.length := by omega
      obtain ⟨r, hr⟩ : ∃ r, l[n]? = some r := ⟨_, List.getElem?_eq_getElem hn2⟩
      obtain ⟨g, rfl, hg, c1, c2⟩ := HK.out _ hB n r hr
      have HF : Hid (_) := flat_take hr
      have hgw : g < wr.heap.size := Nat.lt_of_lt_of_le hg hB.size
      have HB : Hid (Below w.heap.size w wr) := hB
      have HO : Hid (wr.ownsRow w.heap.size 9 1 (.slice ua (n * 2) uc) (n * 2) (strs (flat (l.take n)))) := hown
      clear hr hB hown HK
      have hml : n * 2 + 2 ≤ maxLen := by unfold maxLen; omega
      have hkb : (n * 2 + 2) * 16 ≤ 140737488355328 := by omega
      have hsz := HB.out.size
      obtain ⟨R, hR⟩ : ∃ R, strs (flat (l.take n)) = R := ⟨_, rfl⟩
      rw [hR] at HO
      have HR : Hid (strs (flat (l.take n)) = R) := hR
      clear hR
      have hown2 := HO.out
      clear HO
      go_wp2_with (at_builtin; refine wpList_append_own _ rfl _ _ 57 rfl w.heap.size 9 i0 (.string ⟨#[]⟩) 1 16 Tryd.underlying57 hi hz0 hz1 hz2 rfl (by decide) (.slice ua (n * 2) uc) (n * 2) R rfl ((hown2.alloc _).alloc _) _ 2 2 [.string (bs r.1), .string (bs r.2)] rfl rfl (World.news_of_block (heap_alloc2_new _ _ _)) (by simp [Value.oneCell']) hml hkb (by simp; omega) ?_; intro v' w' g1 g2 _)
      have hB3 := ((HB.out.alloc hsz (.cells #[.string (bs r.1), .string (bs r.2)] 126)).alloc (by simp; omega) (.cells #[.string (bs r.1), .string (bs r.2)] 9)).grown g2 (by simp; omega) (fun q hq => (hown2.lt q hq).1)
      go_roundw
      case rel => exact ⟨n + 1, by go_num, hn2, by rw [HF.out, strs_append, HR.out, show (n + 1) * 2 = n * 2 + 2 by omega]; exact g1, hB3⟩
      case measure => simp [intOf]; omega
end Go.Proofs.YtgmobjdjojffgaaDoor
