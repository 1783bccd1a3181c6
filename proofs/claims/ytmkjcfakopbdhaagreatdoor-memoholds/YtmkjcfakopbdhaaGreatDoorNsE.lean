import Derived.Test.YtmkjcfakopbdhaaGreatDoorNsD
namespace Go.Proofs.YtmkjcfakopbdhaaGreatDoor
open Go.RowKit Go.Shelf
attribute [local go_sem] Oper.semAt_some

/-- v is a slice of just these texts. -/
def Sl (w : World) (v : Value) (l : List (List UInt8)) : Prop :=
  (l = [] ∧ ∃ a c, v = .slice a 0 c) ∨ ∃ b o cap, v = .slice (some ⟨b, o, none⟩) l.length cap ∧ b < w.heap.size ∧ ∀ (i : Nat) t, l[i]? = some t → w.cell? ⟨b, o + i, none⟩ = some (.string (bs t))
theorem Sl.below {w w' : World} {v : Value} {l : List (List UInt8)} (h : Sl w v l) {B : Nat} (hb : Below B w w') (hB : w.heap.size ≤ B) : Sl w' v l := by
  rcases h with h | ⟨b, o, cap, rfl, hlt, h⟩
  · exact .inl h
  · exact .inr ⟨b, o, cap, rfl, Nat.lt_of_lt_of_le hlt hb.size, fun i t ht => (hb.cell (p := ⟨b, o + i, none⟩) (by show b < B; omega)).trans (h i t ht)⟩
theorem Sl.slice {w : World} {v : Value} {l : List (List UInt8)} (h : Sl w v l) : ∃ a c, v = .slice a l.length c := by
  rcases h with ⟨rfl, a, c, rfl⟩ | ⟨b, o, cap, rfl, _⟩
  · exact ⟨a, c, rfl⟩
  · exact ⟨_, _, rfl⟩
theorem Sl.of_owns {w : World} {v : Value} {l : List (List UInt8)} {base : Nat} (h : w.ownsRow base 9 1 v l.length (strs l)) : Sl w v l := by
  obtain ⟨hl, h⟩ := h
  rcases h with ⟨rfl, h0⟩ | ⟨g, cap, cur, rfl, hb, hh, h1, h2, h3, h4⟩
  · exact .inl ⟨List.length_eq_zero_iff.1 h0, none, 0, rfl⟩
  · refine .inr ⟨g, 0, cap, rfl, (Array.getElem?_eq_some_iff.1 hh).1, fun i t ht => ?_⟩
    have hi : i < l.length := (List.getElem?_eq_some_iff.1 ht).1
    have e : (cur.toList.take (l.length * 1))[i]? = some (.string (bs t)) := by rw [h4]; simp [strs, ht]
    rw [List.getElem?_take_of_lt (by omega)] at e
    simp [World.cell?, hh]
    simpa using e

def mark (D : Nat) : Deferred := { target := .collected D, args := #[] }
theorem leaves_marks {F : Fence} {n : Nat} {P : Program} {fn : Func} {tmps : Array Value} {R : Ending → World → Prop} (J : World → Prop) : ∀ (ds : List Nat) (W : World), ds.Nodup → (∀ D ∈ ds, W.heap[D]? = some (.deferred (some []))) → J W →
    (∀ W' D, D ∈ ds → J W' → W'.heap[D]? = some (.deferred (some [])) → J (W'.putObj D (.deferred none))) → (∀ W', J W' → LeavesIn F n P fn tmps R [] .returning W') → LeavesInM F n P fn tmps R (ds.map mark) .returning W
  | [], W, _, _, hJ, _, hend => hend W hJ
  | D :: ds, W, hnd, hK, hJ, hst, hend => by
    obtain ⟨hn1, hn2⟩ := List.nodup_cons.1 hnd
    have hKD := hK D (by simp)
    refine ⟨by simp, .inl ⟨D, _, rfl, run_takeDeferred hKD, ?_⟩⟩
    refine leaves_marks J ds _ hn2 (fun E hE => ?_) (hst W D (by simp) hJ hKD) (fun W' E hE => hst W' E (by simp [hE])) hend
    have hne : D ≠ E := fun e => hn1 (by rw [e]; exact hE)
    exact (World.putObj_heap_other (by first | exact hne | exact hne.symm)).trans (hK E (by simp [hE]))

/-- The lists that stand in lists. -/
def innerL (l : List (List UInt8)) : List (List UInt8) := l.flatMap fun s => ((items s).map (·.1)).filter isL

theorem inner_take (l : List (List UInt8)) (i : Nat) (t : List UInt8) (h : l[i]? = some t) : innerL (l.take (i + 1)) = innerL (l.take i) ++ ((items t).map (·.1)).filter isL := by
  rw [List.take_add_one, h]
  simp [innerL]
theorem inner_count (l : List (List UInt8)) : (innerL l).length ≤ (l.map List.length).sum := by
  induction l with
  | nil => simp [innerL]
  | cons a l ih =>
    have h1 : innerL (a :: l) = ((items a).map (·.1)).filter isL ++ innerL l := by simp [innerL]
    have h2 : (((items a).map (·.1)).filter isL).length ≤ ((items a).map (·.1)).length := List.length_filter_le _ _
    have h3 := items_count (s := a)
    rw [List.length_map] at h2
    rw [h1, List.length_append, List.map_cons, List.sum_cons]
    omega
theorem sum_take (l : List (List UInt8)) (i : Nat) (t : List UInt8) (h : l[i]? = some t) : ((l.take i).map List.length).sum + t.length ≤ (l.map List.length).sum := by
  obtain ⟨hi, rfl⟩ := List.getElem?_eq_some_iff.1 h
  conv => rhs; rw [← List.take_append_drop i l, List.drop_eq_getElem_cons hi]
  simp only [List.map_append, List.map_cons, List.sum_append, List.sum_cons]
  omega
theorem keeps_of_below {B : Nat} {W W' : World} (h : Below W.heap.size W W') : KeepsFrom B W W' := ⟨h.size, fun k _ _ hk _ => (h.block k (Array.getElem?_eq_some_iff.1 hk).1).trans hk⟩
def left9 (N : Nat) (a : Act) : Nat := match a.tmps.getD 9 undef with
  | .int _ i => N - i.toNat
  | _ => 0
theorem left9_lt (N i : Nat) (hi : i < N) (a b : Act) (ha : a.tmps.getD 9 undef = .int .i64 ((i : Int) + 1)) (hb : b.tmps.getD 9 undef = .int .i64 (i : Int)) : left9 N a < left9 N b := by
  simp only [left9, ha, hb]
  omega
theorem own_kept {w w' : World} {base n : Nat} {e : TypeId} {s : Nat} {v : Value} {xs : List Value} (h : w.ownsRow base e s v n xs) (hb : Below w.heap.size w w') : w'.ownsRow base e s v n xs := by
  refine h.kept (grown_of_below hb) ?_
  rcases h.2 with ⟨rfl, _⟩ | ⟨g, cap, cur, rfl, _⟩
  · exact .inl rfl
  · exact .inr (by simp [Value.ownBlock])

end Go.Proofs.YtmkjcfakopbdhaaGreatDoor
