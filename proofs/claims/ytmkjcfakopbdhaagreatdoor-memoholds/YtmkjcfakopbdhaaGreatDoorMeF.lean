/- What bytes say, plain: as the two Decodes read it. -/
import Derived.Test.YtmkjcfakopbdhaaGreatDoorMeE
import Derived.Test.YtmkjcfakopbdhaaGreatDoorPtB
namespace Go.Proofs.YtmkjcfakopbdhaaGreatDoor
open Go.RowKit

theorem list6 {l : List (List UInt8)} (h : l.length = 6) : ∃ a b c d e f, l = [a, b, c, d, e, f] := by
  match l with
  | [] => cases h
  | [_] => cases h
  | [_, _] => cases h
  | [_, _, _] => cases h
  | [_, _, _, _] => cases h
  | [_, _, _, _, _] => cases h
  | [a, b, c, d, e, f] => exact ⟨a, b, c, d, e, f, rfl⟩
  | _ :: _ :: _ :: _ :: _ :: _ :: _ :: _ => simp at h
theorem deT_not6 {l : List (List UInt8)} (h : l.length ≠ 6) : deT l = none := by
  unfold deT
  split
  · exact absurd rfl h
  · rfl
def deZ : Me := (0, 0, 0, 0, 0, [], [])
/-- What the program asks: is what it reads loosely, said anew, the same bytes? -/
theorem de_loose {s a b c d t tg : List UInt8} (hT : texts s = [a, b, c, d, t, tg]) :
    (cE (tnV a) (partyG b) (partyN b) (tnV c) (tnV d) t.length tg.length = 0 ∧ meL (tnV a) (partyG b) (partyN b) (tnV c) (tnV d) t tg = s ∧ deV s = (tnV a, partyG b, partyN b, tnV c, tnV d, t, tg) ∧ deE s = 0) ∨
    (¬ (cE (tnV a) (partyG b) (partyN b) (tnV c) (tnV d) t.length tg.length = 0 ∧ meL (tnV a) (partyG b) (partyN b) (tnV c) (tnV d) t tg = s) ∧ deV s = deZ ∧ deE s = 4) := by
  by_cases h : cE (tnV a) (partyG b) (partyN b) (tnV c) (tnV d) t.length tg.length = 0 ∧ meL (tnV a) (partyG b) (partyN b) (tnV c) (tnV d) t tg = s
  · have hd := de_me h.1
    rw [h.2] at hd
    exact .inl ⟨h.1, h.2, by rw [deV, hd]; rfl, by rw [deE, hd]; rfl⟩
  · refine .inr ⟨h, ?_⟩
    have hn : deL s = none := by
      rcases hd : deL s with _ | ⟨k, g, n, v, m, t', tg'⟩
      · rfl
      · obtain ⟨h1, h2, h3⟩ := me_de hd
        obtain ⟨hk, hp, b1, b2, b3, b4, b5, b6⟩ := cE_num h1
        have hk0 := hk.1
        have hk1 := hk.2
        rw [hT, meTs] at h3
        simp only [List.cons.injEq, and_true] at h3
        obtain ⟨rfl, rfl, rfl, rfl, rfl, rfl⟩ := h3
        have e1 : tnV (Lib.itoa k) = k := by rw [tnV, toNum_itoa k (by omega) (by omega)]; rfl
        have e2 : partyG (nameL g n) = g := by rw [partyG, party_name hp]; rfl
        have e3 : partyN (nameL g n) = n := by rw [partyN, party_name hp]; rfl
        have e4 : tnV (Lib.itoa v) = v := by rw [tnV, toNum_itoa v (by omega) (by omega)]; rfl
        have e5 : tnV (Lib.itoa m) = m := by rw [tnV, toNum_itoa m (by omega) (by omega)]; rfl
        rw [e1, e2, e3, e4, e5] at h
        exact absurd ⟨h1, h2⟩ h
    exact ⟨by rw [deV, hn]; rfl, by rw [deE, hn]; rfl⟩
/-- What the plain text asks. -/
theorem de_strict {s a b c d t tg : List UInt8} (hT : texts s = [a, b, c, d, t, tg]) :
    (tnE a = 0 ∧ partyE b = 0 ∧ tnE c = 0 ∧ tnE d = 0 ∧ cE (tnV a) (partyG b) (partyN b) (tnV c) (tnV d) t.length tg.length = 0 ∧ deV s = (tnV a, partyG b, partyN b, tnV c, tnV d, t, tg) ∧ deE s = 0) ∨
    (¬ (tnE a = 0 ∧ partyE b = 0 ∧ tnE c = 0 ∧ tnE d = 0 ∧ cE (tnV a) (partyG b) (partyN b) (tnV c) (tnV d) t.length tg.length = 0) ∧ deV s = deZ ∧ deE s = 4) := by
  unfold deV deE deL
  rw [hT, deT]
  unfold tnV tnE partyG partyN partyE
  rcases ha : toNumL a with _ | k
  · exact .inr ⟨fun c => by simp at c, rfl, rfl⟩
  rcases hb : partyL b with _ | ⟨g, n⟩
  · exact .inr ⟨fun c => by simp at c, rfl, rfl⟩
  rcases hc : toNumL c with _ | v
  · exact .inr ⟨fun c' => by simp at c', rfl, rfl⟩
  rcases hd : toNumL d with _ | m
  · exact .inr ⟨fun c' => by simp at c', rfl, rfl⟩
  simp only [Option.getD_some, Option.isSome_some, if_true]
  by_cases h : cE k g n v m t.length tg.length = 0
  · refine .inl ⟨trivial, trivial, trivial, trivial, h, ?_, ?_⟩ <;> simp [h]
  · refine .inr ⟨fun c' => h c'.2.2.2.2, ?_, ?_⟩ <;> simp [h, deZ]
theorem de_bad {s : List UInt8} (h : ¬ (errOf s = 0 ∧ (texts s).length = 6)) : deV s = deZ ∧ deE s = 4 := by
  have hn : deL s = none := by
    by_cases h6 : (texts s).length = 6
    · rcases err_cases s with h0 | ⟨_, h0⟩
      · exact absurd ⟨h0, h6⟩ h
      · rw [h0] at h6; cases h6
    · exact deT_not6 h6
  exact ⟨by rw [deV, hn]; rfl, by rw [deE, hn]; rfl⟩
theorem Sl.cells6 {w : World} {v : Value} {a b c d e f : List UInt8} (h : Sl w v [a, b, c, d, e, f]) : ∃ g o cap, v = .slice (some ⟨g, o, none⟩) 6 cap ∧ g < w.heap.size ∧ w.cell? ⟨g, o, none⟩ = some (.string (bs a)) ∧ w.cell? ⟨g, o + 1, none⟩ = some (.string (bs b)) ∧ w.cell? ⟨g, o + 2, none⟩ = some (.string (bs c)) ∧ w.cell? ⟨g, o + 3, none⟩ = some (.string (bs d)) ∧ w.cell? ⟨g, o + 4, none⟩ = some (.string (bs e)) ∧ w.cell? ⟨g, o + 5, none⟩ = some (.string (bs f)) := by
  rcases h with ⟨h, _⟩ | ⟨g, o, cap, rfl, hlt, h⟩
  · cases h
  · exact ⟨g, o, cap, rfl, hlt, h 0 a rfl, h 1 b rfl, h 2 c rfl, h 3 d rfl, h 4 e rfl, h 5 f rfl⟩
theorem own_geM {w : World} {base n : Nat} {e : TypeId} {s : Nat} {v : Value} {xs : List Value} (h : w.ownsRow base e s v n xs) : ∀ k, v.ownBlock = some k → base ≤ k := by
  intro k hk
  rcases h.2 with ⟨rfl, _⟩ | ⟨g, cap, cur, rfl, hg, _⟩
  · simp [Value.ownBlock] at hk
  · simp only [Value.ownBlock, Option.some.injEq] at hk
    omega
theorem tnE_cases (a : List UInt8) : tnE a = 0 ∨ tnE a = 4 := by
  unfold tnE
  split
  · exact .inl rfl
  · exact .inr rfl
theorem partyE_cases (a : List UInt8) : partyE a = 0 ∨ partyE a = 4 := by
  unfold partyE
  split
  · exact .inl rfl
  · exact .inr rfl
theorem set7 {w : World} {B : Nat} {t : TypeId} {fr : Nat × Nat} {x0 x1 x2 x3 x4 x5 x6 : Value} (h : w.heap[B]? = some (.cells #[x0, x1, x2, x3, x4, x5, x6] t fr)) (a0 a1 a2 a3 a4 a5 a6 : Value) :
    (((((((w.setCell ⟨B, 0, none⟩ a0).setCell ⟨B, 1, none⟩ a1).setCell ⟨B, 2, none⟩ a2).setCell ⟨B, 3, none⟩ a3).setCell ⟨B, 4, none⟩ a4).setCell ⟨B, 5, none⟩ a5).setCell ⟨B, 6, none⟩ a6).heap[B]? = some (.cells #[a0, a1, a2, a3, a4, a5, a6] t fr) := by
  have h7 := setB (setB (setB (setB (setB (setB (setB h 0 a0) 1 a1) 2 a2) 3 a3) 4 a4) 5 a5) 6 a6
  simpa using h7

end Go.Proofs.YtmkjcfakopbdhaaGreatDoor
