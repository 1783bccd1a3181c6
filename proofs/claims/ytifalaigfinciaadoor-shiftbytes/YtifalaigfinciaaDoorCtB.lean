import Derived.Test.YtifalaigfinciaaDoorCtA
namespace Go.Proofs.YtifalaigfinciaaDoor
open Go.RowKit
attribute [local go_sem ↓] Go.wp_at_zero Go.wp_at_succ

def prevOf (l : List Tg) (k : Nat) : Int := if k = 0 then -1 else (l.getD (k - 1) (0, [])).1
theorem prevOf_succ {l : List Tg} {k : Nat} {n : Int} {s : List UInt8} (h : l[k]? = some (n, s)) : prevOf l (k + 1) = n := by
  simp [prevOf, List.getD, h]
theorem Tl.cells {w : World} {b o cap : Nat} {l : List Tg} (h : Tl w (.slice (some ⟨b, o, none⟩) l.length cap) l) {k : Nat} {t : Tg} (ht : l[k]? = some t) : w.cell? ⟨b, o + k * 2, none⟩ = some (.int .i64 t.1) ∧ w.cell? ⟨b, o + k * 2 + 1, none⟩ = some (.string (bs t.2)) := by
  rcases h with ⟨rfl, _⟩ | ⟨vb, vo, vcap, hve, _, hvc⟩
  · cases ht
  · injection hve with hva _ hvcap
    injection hva with hva
    injection hva with h1 h2
    subst h1 h2
    exact hvc k t ht
theorem Tl.some {w : World} {a : Option Addr} {cap : Nat} {l : List Tg} (h : Tl w (.slice a l.length cap) l) (hl : 0 < l.length) : ∃ b o, a = some ⟨b, o, none⟩ ∧ b < w.heap.size := by
  rcases h with ⟨rfl, _⟩ | ⟨vb, vo, vcap, hve, hlt, _⟩
  · simp at hl
  · injection hve with hva _ _
    exact ⟨vb, vo, hva, hlt⟩

set_option maxHeartbeats 1000000 in
theorem form_any (x : ByteArray) (g : Int) (l : List Tg) (v : Value) (w : World) (hll : l.length ≤ 140737488355328) (hv : Tl w v l) :
    Calls Tryd.prog 39 #[.agg #[.string x, .int .i64 g, v]] w fun e W' => e = .returned (.int .i64 (faultL g l)) ∧ Below w.heap.size w W' := by
  obtain ⟨va, vc, rfl⟩ := hv.slice
  by_cases hg : g < 0 ∨ 4 < g
  · have e1 : faultL g l = 1 := if_pos hg
    rw [e1]
    go_enter Tryd.func39, Tryd.ntmps39
    rcases hg with hg | hg
    · go_wp2
      go_ret
      exact ⟨rfl, (Below.refl _ w).alloc (Nat.le_refl _) _⟩
    · go_wp2
      go_ret
      exact ⟨rfl, (Below.refl _ w).alloc (Nat.le_refl _) _⟩
  have e1 : faultL g l = tagsF (-1) l := if_neg hg
  rw [e1]
  clear e1
  go_enter Tryd.func39, Tryd.ntmps39
  go_wp2
  have hB0 : Below w.heap.size w (w.alloc (.cells #[.string x, .int .i64 g, .slice va l.length vc] 37)) := (Below.refl _ w).alloc (Nat.le_refl _) _
  have hcA : (w.alloc (.cells #[.string x, .int .i64 g, .slice va l.length vc] 37)).cell? ⟨w.heap.size, 2, none⟩ = some (.slice va l.length vc) := by
    have hh := heap_alloc_new w (.cells #[.string x, .int .i64 g, .slice va l.length vc] 37)
    unfold World.cell?
    simp only [hh]
    rfl
  have hsz0 : w.heap.size < (w.alloc (.cells #[.string x, .int .i64 g, .slice va l.length vc] 37)).heap.size := by simp
  obtain ⟨W0, hW0⟩ : ∃ W0, w.alloc (.cells #[.string x, .int .i64 g, .slice va l.length vc] 37) = W0 := ⟨_, rfl⟩
  rw [hW0] at hB0 hcA hsz0 ⊢
  clear hW0
  go_loopw [16] (fun i wr => ∃ (k : Nat), i = .int .i64 k ∧ k ≤ l.length ∧ tagsF (prevOf l k) (l.drop k) = tagsF (-1) l ∧ Below W0.heap.size W0 wr)
    (fun i _ => l.length - (intOf i).toNat)
  case atStart => exact ⟨0, rfl, Nat.zero_le _, rfl, Below.refl _ _⟩
  case round =>
    obtain ⟨k, rfl, hk, hF, hB⟩ := hrel
    by_cases hk1 : k = l.length
    · subst hk1
      rw [List.drop_length, tagsF] at hF
      go_wp2
      go_ret
      rw [← hF]
      exact ⟨rfl, hB0.trans (hB.mono hB0.size)⟩
    · have hk2 : k < l.length := by omega
      obtain ⟨b, o, rfl, hlt⟩ := hv.some (by omega)
      obtain ⟨t, ht⟩ : ∃ t, l[k]? = some t := ⟨_, List.getElem?_eq_getElem hk2⟩
      have hd : l.drop k = t :: l.drop (k + 1) := by
        rw [List.drop_eq_getElem_cons hk2]; congr 1; rw [List.getElem?_eq_getElem hk2] at ht; injection ht
      have hvB := (hv.below hB0 (Nat.le_refl _)).below hB (Nat.le_refl _)
      obtain ⟨hc1, hc2⟩ := hvB.cells ht
      have hcC := (hB.cell (p := ⟨w.heap.size, 2, none⟩) hsz0).trans hcA
      obtain ⟨n, s⟩ := t
      have hpn := prevOf_succ ht
      rw [hd, tagsF] at hF
      have HF : Hid ((if n < 0 ∨ 16 ≤ n then 41 else if n ≤ prevOf l k then 42 else if s.length ≠ 16 then 4 else tagsF n (l.drop (k + 1))) = tagsF (-1) l) := hF
      have HP : Hid (prevOf l (k + 1) = n) := hpn
      clear hF hpn hd
      have hB2 := hB0.trans ((hB.alloc hB.size (.cells #[.int .i64 n, .string (bs s)] 104)).mono hB0.size)
      have hB3 := hB.alloc hB.size (.cells #[.int .i64 n, .string (bs s)] 104)
      have hB2d := below_drew hB2
      have hlw : w.heap.size < wr.heap.size := Nat.lt_of_lt_of_le hsz0 hB.size
      have hlb : b < wr.heap.size := Nat.lt_trans hlt hlw
      have hB3d := below_drew hB3
      rcases Nat.eq_zero_or_pos k with k0 | k0
      · subst k0
        have hp0 : prevOf l 0 = -1 := rfl
        have HP0 : Hid (prevOf l 0 = -1) := hp0
        clear ht hvB hp0
        simp only [Nat.zero_mul, Nat.add_zero] at hc1 hc2
        by_cases c3 : s.length = 16
        · have q3 : (((bs s).size : Int) != 16) = false := by rw [bs_size, c3]; rfl
          go_wp2
          all_goals first
            | (go_ret; have h := HF.out; (repeat' split at h) <;> first | (exfalso; omega) | exact ⟨by rw [← h]; rfl, hB2⟩)
            | (go_region
               all_goals go_wp2
               all_goals first
                 | (go_ret; have h := HF.out; rw [HP0.out] at h; (repeat' split at h) <;> first | (exfalso; omega) | exact ⟨by rw [← h]; rfl, hB2d⟩)
                 | (go_roundw
                    case rel => exact ⟨0 + 1, by go_num, hk2, by rw [HP.out]; have h := HF.out; rw [HP0.out] at h; (repeat' split at h) <;> first | (exfalso; omega) | exact h, hB3d⟩
                    case measure => simp [intOf]; omega))
        · have q3 : (((bs s).size : Int) != 16) = true := by rw [bs_size]; simp; omega
          go_wp2
          all_goals first
            | (go_ret; have h := HF.out; (repeat' split at h) <;> first | (exfalso; omega) | exact ⟨by rw [← h]; rfl, hB2⟩)
            | (go_region
               all_goals go_wp2
               all_goals (go_ret; have h := HF.out; rw [HP0.out] at h; (repeat' split at h) <;> first | (exfalso; omega) | exact ⟨by rw [← h]; rfl, hB2d⟩))
      · obtain ⟨t', ht'⟩ : ∃ t', l[k - 1]? = some t' := ⟨_, List.getElem?_eq_getElem (by omega)⟩
        obtain ⟨hd1, hd2⟩ := hvB.cells ht'
        obtain ⟨n', s'⟩ := t'
        have hp0 := prevOf_succ ht'
        rw [Nat.sub_add_cancel k0] at hp0
        have HP0 : Hid (prevOf l k = n') := hp0
        clear ht ht' hvB hp0 hd2
        by_cases c3 : s.length = 16
        · have q3 : (((bs s).size : Int) != 16) = false := by rw [bs_size, c3]; rfl
          go_wp2
          all_goals first
            | (go_ret; have h := HF.out; (repeat' split at h) <;> first | (exfalso; omega) | exact ⟨by rw [← h]; rfl, hB2⟩)
            | (go_region
               all_goals go_wp2
               all_goals first
                 | (go_ret; have h := HF.out; rw [HP0.out] at h; (repeat' split at h) <;> first | (exfalso; omega) | exact ⟨by rw [← h]; rfl, hB2d⟩)
                 | (go_roundw
                    case rel => exact ⟨k + 1, by go_num, hk2, by rw [HP.out]; have h := HF.out; rw [HP0.out] at h; (repeat' split at h) <;> first | (exfalso; omega) | exact h, hB3d⟩
                    case measure => simp [intOf]; omega))
        · have q3 : (((bs s).size : Int) != 16) = true := by rw [bs_size]; simp; omega
          go_wp2
          all_goals first
            | (go_ret; have h := HF.out; (repeat' split at h) <;> first | (exfalso; omega) | exact ⟨by rw [← h]; rfl, hB2⟩)
            | (go_region
               all_goals go_wp2
               all_goals (go_ret; have h := HF.out; rw [HP0.out] at h; (repeat' split at h) <;> first | (exfalso; omega) | exact ⟨by rw [← h]; rfl, hB2d⟩))
end Go.Proofs.YtifalaigfinciaaDoor
