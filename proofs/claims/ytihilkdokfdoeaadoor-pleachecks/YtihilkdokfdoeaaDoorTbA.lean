/- Small functions of tables, walked: keys, values, Check. -/
import Derived.Test.YtihilkdokfdoeaaDoorPfA
import Derived.Test.YtihilkdokfdoeaaDoorTbP
import Derived.Deep.AppendLies
import Derived.Deep.AppendSrc
import Derived.Deep.RegionLaw
import Derived.Deep.LoopGhost
import Derived.Deep.CutBlock
namespace Go.Proofs.YtihilkdokfdoeaaDoor
open Go.RowKit
attribute [local go_sem ↓] Go.wp_at_zero Go.wp_at_succ

theorem cellB {w : World} {B : Nat} {cs : Array Value} {t : TypeId} {fr : Nat × Nat} (h : w.heap[B]? = some (.cells cs t fr)) (j : Nat) (u : Value) (hu : cs[j]? = some u) : w.cell? ⟨B, j, none⟩ = some u := by
  unfold World.cell?; simp only [h]; exact hu
theorem frozenB {w : World} {B : Nat} {cs : Array Value} {t : TypeId} (h : w.heap[B]? = some (.cells cs t)) (j : Nat) : w.frozen? ⟨B, j, none⟩ = false := by
  unfold World.frozen?; simp [h]
theorem setB {w : World} {B : Nat} {cs : Array Value} {t : TypeId} {fr : Nat × Nat} (h : w.heap[B]? = some (.cells cs t fr)) (j : Nat) (a : Value) :
    (w.setCell ⟨B, j, none⟩ a).heap[B]? = some (.cells (cs.setIfInBounds j a) t fr) := by
  unfold World.setCell
  simp only [Array.getElem?_modify, if_true, h, Option.map_some]
  rfl
theorem set_far {w : World} {B k : Nat} (h : k ≠ B) (j : Nat) (u : Value) : (w.setCell ⟨B, j, none⟩ u).heap[k]? = w.heap[k]? := Below.heap_setCell _ _ _ _ h
theorem below_drew {n : Nat} {w w' : World} (h : Below n w w') : Below n w w'.drew := ⟨h.os, h.tape, h.output, h.size, h.block⟩
theorem below_drewN {n : Nat} {w w' : World} (h : Below n w w') (k : Nat) : Below n w (w'.drewN k) := ⟨h.os, h.tape, h.output, h.size, h.block⟩
theorem owns_new (w : World) (cs : Array Value) (e : TypeId) (size n : Nat) (h : cs.size = n * size) (hn : n ≤ maxLen) : (w.alloc (.cells cs e)).ownsRow w.heap.size e size (.slice (some ⟨w.heap.size, 0, none⟩) n n) n cs.toList :=
  ⟨by simpa using h, .inr ⟨w.heap.size, n, cs, rfl, Nat.le_refl _, heap_alloc_new w _, Nat.le_refl _, hn, h, by rw [← h, ← Array.length_toList, List.take_length]⟩⟩
theorem str_same (a : List UInt8) : ((bs a).toList == (bs a).toList) = true := by simp
theorem str_other {a b : List UInt8} (h : a ≠ b) : ((bs a).toList == (bs b).toList) = false := str_ne (fun e => h (bs_inj e))
theorem bs_toList (a : List UInt8) : (bs a).toList = a := by
  rw [ByteArray.toList_eq]; rfl

theorem isKey_any (k : List UInt8) (w : World) : Calls Tryd.prog 76 #[.string (bs k)] w fun e W' => e = .returned (.bool (isK k)) ∧ W' = w := by
  have hs : (bs k).size = k.length := bs_size k
  by_cases h1 : 1 ≤ k.length
  · by_cases h2 : k.length ≤ 16
    · rw [show isK k = true by simp [isK, h1, h2]]
      have h1' : (1 : Int) ≤ (k.length : Int) := by omega
      have h2' : (k.length : Int) ≤ 16 := by omega
      go_enter Tryd.func76, Tryd.ntmps76
      go_wp2
      go_ret
      exact ⟨rfl, rfl⟩
    · rw [show isK k = false by simp [isK]; omega]
      have h1' : (1 : Int) ≤ (k.length : Int) := by omega
      have h2' : decide ((k.length : Int) ≤ 16) = false := by simp; omega
      go_enter Tryd.func76, Tryd.ntmps76
      go_wp2
      go_ret
      exact ⟨rfl, rfl⟩
  · rw [show isK k = false by simp [isK]; omega]
    have h1' : (k.length : Int) < 1 := by omega
    go_enter Tryd.func76, Tryd.ntmps76
    go_wp2
    go_ret
    exact ⟨rfl, rfl⟩
theorem isValue_any (v : List UInt8) (w : World) : Calls Tryd.prog 77 #[.string (bs v)] w fun e W' => e = .returned (.bool (isV v)) ∧ W' = w := by
  have hs : (bs v).size = v.length := bs_size v
  by_cases h2 : v.length ≤ 64
  · rw [show isV v = true by simp [isV, h2]]
    have h2' : (v.length : Int) ≤ 64 := by omega
    go_enter Tryd.func77, Tryd.ntmps77
    go_wp2
    go_ret
    exact ⟨rfl, rfl⟩
  · rw [show isV v = false by simp [isV]; omega]
    have h2' : decide ((v.length : Int) ≤ 64) = false := by simp; omega
    go_enter Tryd.func77, Tryd.ntmps77
    go_wp2
    go_ret
    exact ⟨rfl, rfl⟩

/-- An operation's value. -/
abbrev opV (kind : Int) (k v o : List UInt8) : Value := .agg #[.int .i64 kind, .string (bs k), .string (bs v), .string (bs o)]
theorem emp_t {v : List UInt8} (h : v = []) : (bs v).toList.isEmpty = true := by rw [bs_toList, h]; rfl
theorem emp_f {v : List UInt8} (h : v ≠ []) : (bs v).toList.isEmpty = false := by
  rw [bs_toList]
  cases v
  · exact absurd rfl h
  · rfl
set_option maxHeartbeats 2000000 in
theorem Check_any (kind : Int) (k v o : List UInt8) (w : World) : Calls Tryd.prog 64 #[opV kind k v o] w fun e W' => e = .returned (.int .i64 (chk kind k v o)) ∧ Below w.heap.size w W' := by
  by_cases h1 : kind < 1
  · rw [show chk kind k v o = 1 from if_pos (.inl h1)]
    go_enter Tryd.func64, Tryd.ntmps64
    go_wp2
    go_ret
    exact ⟨rfl, (Below.refl _ _).alloc (Nat.le_refl _) _⟩
  · have h1' : 1 ≤ kind := by omega
    by_cases h5 : 5 < kind
    · rw [show chk kind k v o = 1 from if_pos (.inr h5)]
      clear h1
      go_enter Tryd.func64, Tryd.ntmps64
      go_wp2
      go_ret
      exact ⟨rfl, (Below.refl _ _).alloc (Nat.le_refl _) _⟩
    · have h5' : kind ≤ 5 := by omega
      have hr : ¬ (kind < 1 ∨ 5 < kind) := by omega
      by_cases hb : isK k = false ∨ isV v = false ∨ isV o = false
      · rw [show chk kind k v o = 130 by rw [chk, if_neg hr, if_pos hb]]
        clear h1 h5 hr
        cases hk : isK k
        · clear hb
          go_enter Tryd.func64, Tryd.ntmps64
          go_wp2_with (first
            | (go_at_call 76; refine (isKey_any _ _).mono ?_; rintro e w1 ⟨rfl, h9⟩; subst h9)
            | (go_at_call 77; refine (isValue_any _ _).mono ?_; rintro e w1 ⟨rfl, h9⟩; subst h9))
          go_ret
          exact ⟨rfl, (Below.refl _ _).alloc (Nat.le_refl _) _⟩
        · cases hv : isV v
          · clear hb
            go_enter Tryd.func64, Tryd.ntmps64
            go_wp2_with (first
              | (go_at_call 76; refine (isKey_any _ _).mono ?_; rintro e w1 ⟨rfl, h9⟩; subst h9)
              | (go_at_call 77; refine (isValue_any _ _).mono ?_; rintro e w1 ⟨rfl, h9⟩; subst h9))
            go_ret
            exact ⟨rfl, (Below.refl _ _).alloc (Nat.le_refl _) _⟩
          · have ho : isV o = false := by simpa [hk, hv] using hb
            clear hb
            go_enter Tryd.func64, Tryd.ntmps64
            go_wp2_with (first
              | (go_at_call 76; refine (isKey_any _ _).mono ?_; rintro e w1 ⟨rfl, h9⟩; subst h9)
              | (go_at_call 77; refine (isValue_any _ _).mono ?_; rintro e w1 ⟨rfl, h9⟩; subst h9))
            go_ret
            exact ⟨rfl, (Below.refl _ _).alloc (Nat.le_refl _) _⟩
      · have hb' := hb
        simp only [not_or, Bool.not_eq_false] at hb'
        obtain ⟨hk, hv, ho⟩ := hb'
        have e1 : chk kind k v o = if v ≠ [] ∧ (kind = 1 ∨ kind = 4) then 4 else if o ≠ [] ∧ kind ≠ 5 then 4 else 0 := by rw [chk, if_neg hr, if_neg hb]
        obtain ⟨c, hc⟩ : ∃ c, chk kind k v o = c := ⟨_, rfl⟩
        rw [hc]
        rw [e1] at hc
        clear e1 hb h1 h5 hr
        obtain rfl | rfl | rfl | rfl | rfl : kind = 1 ∨ kind = 2 ∨ kind = 3 ∨ kind = 4 ∨ kind = 5 := by omega
        all_goals
          clear h1' h5'
          by_cases v0 : v = []
          all_goals
            have hve := by first | exact emp_t v0 | exact emp_f v0
            by_cases o0 : o = []
            all_goals
              have hoe := by first | exact emp_t o0 | exact emp_f o0
              simp [*] at hc
              subst hc
              clear v0 o0
              go_enter Tryd.func64, Tryd.ntmps64
              go_wp2_with (first
                | (go_at_call 76; refine (isKey_any _ _).mono ?_; rintro e w1 ⟨rfl, h9⟩; subst h9)
                | (go_at_call 77; refine (isValue_any _ _).mono ?_; rintro e w1 ⟨rfl, h9⟩; subst h9))
              go_ret
              exact ⟨rfl, (Below.refl _ _).alloc (Nat.le_refl _) _⟩
end Go.Proofs.YtihilkdokfdoeaaDoor
