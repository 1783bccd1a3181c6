import Derived.Test.YtifalaigfinciaaGreatDoorShB
namespace Go.Proofs.YtifalaigfinciaaGreatDoor
open Go.RowKit
attribute [local go_sem ↓] Go.wp_at_zero Go.wp_at_succ

abbrev Tg := Int × List UInt8
/-- v is a slice of just these tags: two cells each. -/
def Tl (w : World) (v : Value) (l : List Tg) : Prop :=
  (l = [] ∧ ∃ a c, v = .slice a 0 c) ∨ ∃ b o cap, v = .slice (some ⟨b, o, none⟩) l.length cap ∧ b < w.heap.size ∧ ∀ (i : Nat) t, l[i]? = some t → w.cell? ⟨b, o + i * 2, none⟩ = some (.int .i64 t.1) ∧ w.cell? ⟨b, o + i * 2 + 1, none⟩ = some (.string (bs t.2))
theorem Tl.below {w w' : World} {v : Value} {l : List Tg} (h : Tl w v l) {B : Nat} (hb : Below B w w') (hB : w.heap.size ≤ B) : Tl w' v l := by
  rcases h with h | ⟨b, o, cap, rfl, hlt, h⟩
  · exact .inl h
  · exact .inr ⟨b, o, cap, rfl, Nat.lt_of_lt_of_le hlt hb.size, fun i t ht => ⟨(hb.cell (p := ⟨b, o + i * 2, none⟩) (by show b < B; omega)).trans (h i t ht).1, (hb.cell (p := ⟨b, o + i * 2 + 1, none⟩) (by show b < B; omega)).trans (h i t ht).2⟩⟩
theorem Tl.slice {w : World} {v : Value} {l : List Tg} (h : Tl w v l) : ∃ a c, v = .slice a l.length c := by
  rcases h with ⟨rfl, a, c, rfl⟩ | ⟨b, o, cap, rfl, _⟩
  · exact ⟨a, c, rfl⟩
  · exact ⟨_, _, rfl⟩

/-- What is wrong with tags, the last number being so. -/
def tagsF : Int → List Tg → Int
  | _, [] => 0
  | last, (n, t) :: r => if n < 0 ∨ 16 ≤ n then 41 else if n ≤ last then 42 else if t.length ≠ 16 then 4 else tagsF n r
def faultL (g : Int) (l : List Tg) : Int := if g < 0 ∨ 4 < g then 1 else tagsF (-1) l

set_option maxHeartbeats 1000000 in
theorem fault_any (x : ByteArray) (g : Int) (l : List Tg) (v : Value) (w : World) (hll : l.length ≤ 140737488355328) (hv : Tl w v l) :
    Calls Tryz.prog 29 #[.agg #[.string x, .int .i64 g, v]] w fun e W' => e = .returned (.int .i64 (faultL g l)) ∧ Below w.heap.size w W' := by
  obtain ⟨va, vc, rfl⟩ := hv.slice
  by_cases hg : g < 0 ∨ 4 < g
  · have e1 : faultL g l = 1 := if_pos hg
    rw [e1]
    have hg2 : (decide (g < 0) || decide (4 < g)) = true := by simpa using hg
    go_enter Tryz.func29, Tryz.ntmps29
    rcases hg with hg | hg
    · go_wp2
      go_ret
      exact ⟨rfl, (Below.refl _ w).alloc (Nat.le_refl _) _⟩
    · go_wp2
      go_ret
      exact ⟨rfl, (Below.refl _ w).alloc (Nat.le_refl _) _⟩
  have e1 : faultL g l = tagsF (-1) l := if_neg hg
  rw [e1]
  clear e1
  go_enter Tryz.func29, Tryz.ntmps29
  go_wp2
  go_loopw [3, 17] (fun p i wr => ∃ (k : Nat) (z : Int), p = .int .i64 z ∧ i = .int .i64 k ∧ k ≤ l.length ∧ tagsF z (l.drop k) = tagsF (-1) l ∧ Below w.heap.size w wr)
    (fun _ i _ => l.length - (intOf i).toNat)
  case atStart => exact ⟨0, -1, rfl, rfl, Nat.zero_le _, rfl, (Below.refl _ w).alloc (Nat.le_refl _) _⟩
  case round =>
    obtain ⟨k, z, rfl, rfl, hk, hF, hB⟩ := hrel
    by_cases hk1 : k = l.length
    · subst hk1
      rw [List.drop_length, tagsF] at hF
      go_wp2
      go_ret
      rw [← hF]
      exact ⟨rfl, hB⟩
    · have hk2 : k < l.length := by omega
      obtain ⟨t, ht⟩ : ∃ t, l[k]? = some t := ⟨_, List.getElem?_eq_getElem hk2⟩
      have hd : l.drop k = t :: l.drop (k + 1) := by
        rw [List.drop_eq_getElem_cons hk2]; congr 1; rw [List.getElem?_eq_getElem hk2] at ht; injection ht
      rcases hv.below hB (Nat.le_refl _) with ⟨rfl, _⟩ | ⟨vb, vo, vcap, hve, _, hvc⟩
      · cases ht
      injection hve with hva _ hvcap
      subst hva hvcap
      obtain ⟨hc1, hc2⟩ := hvc k t ht
      obtain ⟨n, s⟩ := t
      rw [hd, tagsF] at hF
      clear ht hd hvc
      have HF : Hid ((if n < 0 ∨ 16 ≤ n then 41 else if n ≤ z then 42 else if s.length ≠ 16 then 4 else tagsF n (l.drop (k + 1))) = tagsF (-1) l) := hF
      clear hF
      have hB2 := hB.alloc hB.size (.cells #[.int .i64 n, .string (bs s)] 82)
      by_cases c3 : s.length = 16
      · have q3 : (((bs s).size : Int) != 16) = false := by rw [bs_size, c3]; rfl
        go_wp2
        all_goals first
          | (go_ret; have h := HF.out; (repeat' split at h) <;> first | (exfalso; omega) | exact ⟨by rw [← h]; rfl, hB2⟩)
          | (go_roundw
             case rel => exact ⟨k + 1, n, rfl, by go_num, hk2, by have h := HF.out; (repeat' split at h) <;> first | (exfalso; omega) | exact h, hB2⟩
             case measure => simp [intOf]; omega)
      · have q3 : (((bs s).size : Int) != 16) = true := by rw [bs_size]; simp; omega
        go_wp2
        all_goals (go_ret; have h := HF.out; (repeat' split at h) <;> first | (exfalso; omega) | exact ⟨by rw [← h]; rfl, hB2⟩)
end Go.Proofs.YtifalaigfinciaaGreatDoor
