/- Moots: what unpack leaves, without the configurations' texts. -/
import Derived.Test.YtfolnlgceighbaaGreatDoorKt1
namespace Go.Proofs.YtfolnlgceighbaaGreatDoor
open Go.RowKit
attribute [local go_sem ↓] Go.wp_at_zero Go.wp_at_succ

theorem list4 {α : Type} {l : List α} (h : l.length = 4) : ∃ a b c d, l = [a, b, c, d] := by
  match l, h with
  | [a, b, c, d], _ => exact ⟨a, b, c, d, rfl⟩
theorem list4i {l : List Int} (h : l.length = 4) : ∃ a b c d, l = [a, b, c, d] := list4 h
theorem bs_toListK (a : List UInt8) : (bs a).toList = a := by
  rw [ByteArray.toList_eq]; rfl
theorem texts_mem_len {s t : List UInt8} (h : t ∈ texts s) : t.length ≤ s.length := by
  by_cases e : errOf s = 0
  · have h1 := pack_texts (good_err.1 e)
    have h2 := mem_pack_len h
    rw [h1] at h2
    exact h2
  · rw [texts_bad e] at h; cases h
theorem un_len {s : List UInt8} {ns : List Int} (h : unN s = some ns) : ns.length ≤ s.length := by
  unfold unN at h
  by_cases e : errOf s = 0
  · rw [if_pos e] at h
    rw [(numsOf_back _ _ h).2]
    exact texts_count s
  · rw [if_neg e] at h; cases h
theorem un_some (s : List UInt8) (ns : List Int) (w : World) (hs : s.length ≤ 1000000) (he : Env w) (h : unN s = some ns) :
    Calls Tryz.prog 38 #[.string (bs s)] w fun e W' => ∃ va vc, e = .returned (.tuple #[.slice va ns.length vc, .int .i64 0]) ∧ Il W' (.slice va ns.length vc) ns ∧ ns.length ≤ s.length ∧ (∀ k, (Value.slice va ns.length vc).ownBlock = some k → w.heap.size ≤ k ∧ k < W'.heap.size) ∧ Below w.heap.size w W' := by
  refine (cunpack_any s w hs he).mono ?_
  rintro e W' ⟨v, E, rfl, hp, hb⟩
  unfold UnPost at hp
  rw [h] at hp
  obtain ⟨rfl, h1, h2, h3⟩ := hp
  obtain ⟨va, vc, rfl⟩ := h1.slice
  exact ⟨va, vc, rfl, h1, h2, h3, hb⟩
theorem un_none (s : List UInt8) (w : World) (hs : s.length ≤ 1000000) (he : Env w) (h : unN s = none) :
    Calls Tryz.prog 38 #[.string (bs s)] w fun e W' => e = .returned (.tuple #[.slice none 0 0, .int .i64 4]) ∧ Below w.heap.size w W' := by
  refine (cunpack_any s w hs he).mono ?_
  rintro e W' ⟨v, E, rfl, hp, hb⟩
  unfold UnPost at hp
  rw [h] at hp
  obtain ⟨rfl, rfl⟩ := hp
  exact ⟨rfl, hb⟩
end Go.Proofs.YtfolnlgceighbaaGreatDoor
