/- An order's text; what such a text says, plain. -/
import Derived.Test.YtifalaigfinciaaGreatDoorShA
namespace Go.Proofs.YtifalaigfinciaaGreatDoor
open Go.RowKit
attribute [local go_sem ↓] Go.wp_at_zero Go.wp_at_succ

def kOrd : List UInt8 := [111, 114, 100, 101, 114]
def kSet : List UInt8 := [115, 101, 116, 116, 108, 101]
set_option maxRecDepth 20000 in
set_option maxHeartbeats 2000000 in
theorem Order_any (g v n : Int) (b : List UInt8) (w : World) (hs : b.length ≤ 140737488351232) (he : EnvP w) :
    Calls Tryz.prog 7 #[.int .i64 g, .int .i64 v, .int .i64 n, .string (bs b)] w fun e W' => e = .returned (.tuple #[.string (bs (saidV kOrd g v n b)), .int .i64 (saidE kOrd g v n b)]) ∧ Below w.heap.size w W' := by
  have hT := textOf_any kOrd g v n b w (by decide) hs he
  obtain ⟨E, hE⟩ : ∃ x, saidE kOrd g v n b = x := ⟨_, rfl⟩
  obtain ⟨X, hX⟩ : ∃ x, saidV kOrd g v n b = x := ⟨_, rfl⟩
  rw [hE, hX] at hT ⊢
  clear hE hX hs he
  go_enter Tryz.func7, Tryz.ntmps7
  go_wp2_with (first | (go_at_call 13; refine hT.mono ?_; rintro e w1 ⟨rfl, hb⟩))
  exact bodyPost_ret (v := .tuple #[.string (bs X), .int .i64 E]) (by simp [results, Tryz.f7, go_sem]) rfl ⟨rfl, hb⟩

theorem tot_mem {l : List (List UInt8)} {t : List UInt8} (h : t ∈ l) : t.length ≤ tot l := by
  induction l with
  | nil => cases h
  | cons a l ih =>
    rw [tot_cons]
    rcases List.mem_cons.1 h with rfl | h
    · omega
    · have := ih h; omega
theorem texts_mem {s t : List UInt8} (h : t ∈ texts s) : t.length ≤ s.length := by
  unfold texts at h
  split at h
  · by_cases h0 : s = []
    · subst h0; rw [items_nil] at h; cases h
    · have := items_tot h0
      have := tot_mem h
      omega
  · cases h
theorem err_cases (s : List UInt8) : errOf s = 0 ∨ errOf s = 4 ∧ texts s = [] := by
  unfold errOf texts
  by_cases h : good s
  · rw [if_pos h]; exact .inl rfl
  · rw [if_neg h, if_neg h]; exact .inr ⟨rfl, rfl⟩
theorem err_good {s : List UInt8} (h : errOf s = 0) : good s := by
  unfold errOf at h
  split at h
  · assumption
  · cases h
theorem tnV_some {s : List UInt8} {z : Int} (h : toNumL s = some z) : tnV s = z ∧ tnE s = 0 := ⟨by rw [tnV, h]; rfl, by rw [tnE, h]; rfl⟩
theorem tnV_none {s : List UInt8} (h : toNumL s = none) : tnV s = 0 ∧ tnE s = 4 := ⟨by rw [tnV, h]; rfl, by rw [tnE, h]; rfl⟩
theorem Sl.cells5 {w : World} {v : Value} {a b c d e : List UInt8} (h : Sl w v [a, b, c, d, e]) : ∃ g o cap, v = .slice (some ⟨g, o, none⟩) 5 cap ∧ g < w.heap.size ∧ w.cell? ⟨g, o, none⟩ = some (.string (bs a)) ∧ w.cell? ⟨g, o + 1, none⟩ = some (.string (bs b)) ∧ w.cell? ⟨g, o + 2, none⟩ = some (.string (bs c)) ∧ w.cell? ⟨g, o + 3, none⟩ = some (.string (bs d)) ∧ w.cell? ⟨g, o + 4, none⟩ = some (.string (bs e)) := by
  rcases h with ⟨h, _⟩ | ⟨g, o, cap, rfl, hlt, h⟩
  · cases h
  · exact ⟨g, o, cap, rfl, hlt, h 0 a rfl, h 1 b rfl, h 2 c rfl, h 3 d rfl, h 4 e rfl⟩
theorem five_of {L : List (List UInt8)} (h : L.length = 5) : ∃ a b c d e, L = [a, b, c, d, e] := by
  match L with
  | [] => cases h
  | [_] => cases h
  | [_, _] => cases h
  | [_, _, _] => cases h
  | [_, _, _, _] => cases h
  | [a, b, c, d, e] => exact ⟨a, b, c, d, e, rfl⟩
  | _ :: _ :: _ :: _ :: _ :: _ :: _ => simp at h
/-- What such a text says: its kind, group, view, number, batch. -/
abbrev Sd := List UInt8 × Int × Int × Int × List UInt8
def rd3 (k : List UInt8) : Option Int → Option Int → Option Int → List UInt8 → Option Sd
  | some g, some v, some n, d => if inS g v n = true then some (k, g, v, n, d) else none
  | _, _, _, _ => none
def sreadT : List (List UInt8) → Option Sd
  | [a, b, c, d, e] => if a = kOrd ∨ a = kSet then rd3 a (toNumL b) (toNumL c) (toNumL d) e else none
  | _ => none
def sreadL (s : List UInt8) : Option Sd := if s.length ≤ 30000 then sreadT (texts s) else none
def sreadV (s : List UInt8) : Sd := (sreadL s).getD ([], 0, 0, 0, [])
def sreadE (s : List UInt8) : Int := if (sreadL s).isSome then 0 else 4
theorem rd3_some {k : List UInt8} {o p q : Option Int} {d : List UInt8} {y : Sd} (h : rd3 k o p q d = some y) : ∃ g v n, o = some g ∧ p = some v ∧ q = some n ∧ inS g v n = true ∧ y = (k, g, v, n, d) := by
  match o, p, q with
  | some g, some v, some n =>
    simp only [rd3] at h
    split at h
    · rename_i hf; exact ⟨g, v, n, rfl, rfl, rfl, hf, (Option.some.inj h).symm⟩
    · cases h
  | none, _, _ => cases h
  | some _, none, _ => cases h
  | some _, some _, none => cases h
theorem sreadT_not5 {l : List (List UInt8)} (h : l.length ≠ 5) : sreadT l = none := by
  unfold sreadT
  split
  · exact absurd rfl h
  · rfl
theorem sread_none {s : List UInt8} (h : sreadL s = none) : sreadV s = ([], 0, 0, 0, []) ∧ sreadE s = 4 := ⟨by rw [sreadV, h]; rfl, by rw [sreadE, h]; rfl⟩
theorem sread_some {s : List UInt8} {y : Sd} (h : sreadL s = some y) : sreadV s = y ∧ sreadE s = 0 := ⟨by rw [sreadV, h]; rfl, by rw [sreadE, h]; rfl⟩
theorem said_lens {k : List UInt8} {g v n : Int} {d : List UInt8} (h : inS g v n = true) (hk : k.length ≤ 1000) (hd : d.length ≤ 1000000) : ∀ t ∈ [k, Lib.itoa g, Lib.itoa v, Lib.itoa n, d], t.length ≤ 1000000000 := by
  intro t ht
  have := tot_mem ht
  have := said_tot (k := k) (b := d) h
  omega
theorem said_long (k : List UInt8) (g v n : Int) (d : List UInt8) : d.length ≤ (saidT k g v n d).length := by
  have e : saidT k g v n d = one k ++ (one (Lib.itoa g) ++ (one (Lib.itoa v) ++ (one (Lib.itoa n) ++ one d))) := by simp [saidT, packL]
  rw [e]
  simp only [List.length_append]
  have : d.length ≤ (one d).length := by simp only [one, List.length_append, List.length_cons, List.length_nil]; omega
  omega
/-- What is read is what the text is of, and back. -/
theorem sreadL_some {s k d : List UInt8} {g v n : Int} : sreadL s = some (k, g, v, n, d) ↔ ((k = kOrd ∨ k = kSet) ∧ inS g v n = true ∧ s = saidT k g v n d ∧ s.length ≤ 30000) := by
  constructor
  · intro h
    unfold sreadL at h
    split at h
    · rename_i hs
      rcases err_cases s with h0 | ⟨_, h0⟩
      · unfold sreadT at h
        split at h
        · rename_i a b c d' e hT
          split at h
          · rename_i ha
            obtain ⟨g', v', n', h1, h2, h3, h4, h5⟩ := rd3_some h
            simp only [Prod.mk.injEq] at h5
            obtain ⟨rfl, rfl, rfl, rfl, rfl⟩ := h5
            refine ⟨ha, h4, ?_, hs⟩
            rw [← pack_texts (err_good h0), hT, ← toNum_back h1, ← toNum_back h2, ← toNum_back h3]
            rfl
          · cases h
        · cases h
      · rw [h0] at h; cases h
    · cases h
  · rintro ⟨hk, h1, h2, h3⟩
    have hkl : k.length ≤ 1000 := by rcases hk with rfl | rfl <;> decide
    have hd : d.length ≤ 1000000 := by have := said_long k g v n d; rw [← h2] at this; omega
    rw [sreadL, if_pos h3, h2, saidT, texts_pack _ (said_lens h1 hkl hd)]
    have h4 := h1
    simp only [inS, Bool.and_eq_true] at h4
    have h5 := inR_t h4.1
    have h6 := inR_t h4.2.1
    have h7 := inR_t h4.2.2
    show (if k = kOrd ∨ k = kSet then rd3 k (toNumL (Lib.itoa g)) (toNumL (Lib.itoa v)) (toNumL (Lib.itoa n)) d else none) = _
    rw [if_pos hk, toNum_itoa g (by omega) (by omega), toNum_itoa v (by omega) (by omega), toNum_itoa n (by omega) (by omega)]
    exact if_pos h1
end Go.Proofs.YtifalaigfinciaaGreatDoor
