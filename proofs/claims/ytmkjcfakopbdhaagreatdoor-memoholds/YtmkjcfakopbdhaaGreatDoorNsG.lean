import Derived.Test.YtmkjcfakopbdhaaGreatDoorNsF
namespace Go.Proofs.YtmkjcfakopbdhaaGreatDoor
open Go.RowKit
attribute [local go_sem ↓] Go.wp_at_zero Go.wp_at_succ

/-- A text as one of a list. -/
def one (t : List UInt8) : List UInt8 := Lib.itoa t.length ++ ([58] ++ (t ++ [44]))
/-- A list's text. -/
def packL (l : List (List UInt8)) : List UInt8 := l.flatMap one
theorem pack_take (l : List (List UInt8)) (i : Nat) (t : List UInt8) (h : l[i]? = some t) : packL (l.take (i + 1)) = packL (l.take i) ++ one t := by
  rw [List.take_add_one, h]
  simp [packL]

theorem nDigits_le : ∀ (k u : Nat), u < 10 ^ (k + 1) → Lib.nDigits u ≤ k + 1
  | 0, u, h => by rw [Lib.nDigits_small (by simpa using h)]; exact Nat.le_refl _
  | k + 1, u, h => by
    by_cases hu : u < 10
    · rw [Lib.nDigits_small hu]; omega
    · rw [Lib.nDigits_big hu]
      have := nDigits_le k (u / 10) (by rw [Nat.pow_succ] at h; omega)
      omega
theorem decDigits_len (u : Nat) : (Lib.decDigits u).length = Lib.nDigits u := by rw [Lib.decDigits_eq]; simp
theorem itoa_len (n : Nat) (h : n < 100000000000000000000) : (Lib.itoa n).length ≤ 20 := by
  unfold Lib.itoa
  rw [if_neg (by omega), decDigits_len]
  exact nDigits_le 19 _ (by simpa using h)
theorem one_len (t : List UInt8) (h : t.length ≤ 140737488355328) : (one t).length ≤ t.length + 22 := by
  have := itoa_len t.length (by omega)
  simp only [one, List.length_append, List.length_cons, List.length_nil]
  omega
theorem pack_len (l : List (List UInt8)) (h : tot l ≤ 140737488355328) : (packL l).length ≤ tot l + 22 * l.length := by
  induction l with
  | nil => simp [packL]
  | cons a l ih =>
    rw [tot_cons] at h ⊢
    have := ih (by omega)
    have := one_len a (by omega)
    have e : packL (a :: l) = one a ++ packL l := by simp [packL]
    rw [e, List.length_append, List.length_cons]
    omega

theorem isB_below {B b : Nat} {c : List Value} {w w' : World} (h : Lib.IsBuilder 78 5 B b c w) (hb : Below w.heap.size w w') : Lib.IsBuilder 78 5 B b c w' := by
  have key : ∀ p, Lib.BuilderAt 78 5 B b p c w → Lib.BuilderAt 78 5 B b p c w' := by
    rintro p ⟨h1, v, h2, h3, h4⟩
    exact ⟨h1, v, (hb.block b (Array.getElem?_eq_some_iff.1 h2).1).trans h2, own_kept h3 hb, h4⟩
  rcases h with h | h
  · exact .inl (key _ h)
  · exact .inr (key _ h)
theorem byteCells_append (a b : List UInt8) : Lib.byteCells (a ++ b) = Lib.byteCells a ++ Lib.byteCells b := by simp [Lib.byteCells]
theorem byteCells_len (a : List UInt8) : (Lib.byteCells a).length = a.length := by simp [Lib.byteCells]

set_option maxHeartbeats 1000000 in
theorem Pack_wide (l : List (List UInt8)) (v : Value) (w : World) (hl : tot l + 22 * l.length ≤ 140737488355328) (he : EnvP w) (hv : Sl w v l) :
    Calls Tryz.prog 17 #[v] w fun e W' => e = .returned (.string (bs (packL l))) ∧ Below w.heap.size w W' := by
  obtain ⟨va, vc, rfl⟩ := hv.slice
  go_enter Tryz.func17, Tryz.ntmps17
  go_wp2
  go_loopw [8] (fun i wr => ∃ (k : Nat), i = .int .i64 k ∧ k ≤ l.length ∧ Lib.IsBuilder 78 5 w.heap.size w.heap.size (Lib.byteCells (packL (l.take k))) wr ∧ Below w.heap.size w wr)
    (fun i _ => l.length - lenOf i)
  case atStart =>
    refine ⟨0, rfl, Nat.zero_le _, .inl ⟨Nat.le_refl _, .slice none 0 0, World.alloc_heap_new w _, World.ownsRow_nil _ _ _ _, by simp [Value.ownBlock]⟩, (Below.refl _ w).alloc (Nat.le_refl _) _⟩
  case round =>
    obtain ⟨k, rfl, hk, hbu, hB⟩ := hrel
    by_cases hk1 : k = l.length
    · subst hk1
      rw [List.take_length] at hbu
      go_wp2_with fail
      refine (Tryz.Builder_String_any _ _ _ _ hbu hB.size).mono ?_
      rintro e w1 ⟨rfl, hb1⟩
      go_wp2
      go_ret
      exact ⟨rfl, hB.trans hb1⟩
    · have hk2 : k < l.length := by omega
      obtain ⟨t, ht⟩ : ∃ t, l[k]? = some t := ⟨_, List.getElem?_eq_getElem hk2⟩
      have hsum := sum_take l k t ht
      have htake := pack_take l k t ht
      have hpl : (packL (l.take k)).length + t.length + 22 ≤ 140737488355328 := by
        have h1 : tot (l.take k) + t.length ≤ tot l := hsum
        have := pack_len (l.take k) (by omega)
        rw [List.length_take] at this
        omega
      have htl : t.length ≤ 140737488355328 := by
        have h1 : tot (l.take k) + t.length ≤ tot l := hsum
        omega
      rcases hv.below hB (Nat.le_refl _) with ⟨rfl, _⟩ | ⟨vb, vo, vcap, hve, _, hvc⟩
      · cases ht
      injection hve with hva _ hvcap
      subst hva hvcap
      have hct := hvc k t ht
      clear ht hvc
      have hts : (bs t).size = t.length := bs_size t
      have hit := itoa_len t.length (by omega)
      have her := he.next hB
      go_wp2_with fail
      refine (Num_any t.length wr (by omega) (by omega) her).mono ?_
      rintro e w1 ⟨rfl, hb1⟩
      have hbu1 := isB_below hbu hb1
      have hB1 := hB.trans (hb1.mono hB.size)
      clear hbu her hct
      obtain ⟨p, hp⟩ : ∃ p, Lib.itoa (t.length : Int) = p := ⟨_, rfl⟩
      rw [hp] at hit ⊢
      have hps : (bs p).size = p.length := bs_size p
      obtain ⟨q, hq⟩ : ∃ q, packL (l.take k) = q := ⟨_, rfl⟩
      rw [hq] at hbu1 hpl htake
      rw [one, hp] at htake
      clear hp
      go_wp2_with fail
      refine (Tryz.Builder_WriteString _ _ _ (bs p) _ hbu1 (by rw [byteCells_len, hps]; omega) hB1.size).mono ?_
      rintro e w2 ⟨rfl, hbu2, hb2⟩
      have hB2 := hB1.trans hb2
      clear hbu1
      go_wp2_with fail
      refine (Tryz.Builder_WriteByte _ _ _ 58 _ (.inr hbu2) (by rw [List.length_append, byteCells_len]; show q.length + (Lib.byteCells p).length + 1 ≤ _; rw [byteCells_len]; omega) hB2.size).mono ?_
      rintro e w3 ⟨rfl, hbu3, hb3⟩
      have hB3 := hB2.trans hb3
      clear hbu2
      have e3 : (Lib.byteCells q ++ Lib.strCells (bs p)) ++ [Value.int .u8 58] = Lib.byteCells (q ++ (p ++ [58])) := by rw [byteCells_append, byteCells_append, List.append_assoc]; rfl
      rw [e3] at hbu3
      go_wp2_with fail
      refine (Tryz.Builder_WriteString _ _ _ (bs t) _ (.inr hbu3) (by rw [byteCells_len, hts, List.length_append, List.length_append]; show q.length + (p.length + 1) + t.length ≤ _; omega) hB3.size).mono ?_
      rintro e w4 ⟨rfl, hbu4, hb4⟩
      have hB4 := hB3.trans hb4
      clear hbu3
      go_wp2_with fail
      have e4 : Lib.byteCells (q ++ (p ++ [58])) ++ Lib.strCells (bs t) = Lib.byteCells ((q ++ (p ++ [58])) ++ t) := (byteCells_append (q ++ (p ++ [58])) t).symm
      rw [e4] at hbu4
      refine (Tryz.Builder_WriteByte _ _ _ 44 _ (.inr hbu4) (by rw [byteCells_len, List.length_append, List.length_append, List.length_append]; show q.length + (p.length + 1) + t.length + 1 ≤ _; omega) hB4.size).mono ?_
      rintro e w5 ⟨rfl, hbu5, hb5⟩
      have hB5 := hB4.trans hb5
      clear hbu4
      have e5 : Lib.byteCells ((q ++ (p ++ [58])) ++ t) ++ [Value.int .u8 44] = Lib.byteCells (packL (l.take (k + 1))) := by
        rw [htake]
        have : [Value.int .u8 44] = Lib.byteCells [44] := rfl
        rw [this, ← byteCells_append]
        congr 1
        simp
      rw [e5] at hbu5
      go_wp2
      go_roundw
      case rel => exact ⟨k + 1, by rw [Int.natCast_succ], hk2, .inr hbu5, hB5⟩
      case measure => simp only [lenOf]; omega
theorem Pack_any (l : List (List UInt8)) (v : Value) (w : World) (hl : tot l ≤ 1000000) (hll : l.length ≤ 1000000) (he : EnvP w) (hv : Sl w v l) :
    Calls Tryz.prog 17 #[v] w fun e W' => e = .returned (.string (bs (packL l))) ∧ Below w.heap.size w W' := Pack_wide l v w (by omega) he hv
end Go.Proofs.YtmkjcfakopbdhaaGreatDoor
