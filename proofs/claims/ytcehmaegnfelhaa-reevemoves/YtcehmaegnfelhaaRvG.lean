/- slices.Compact as the library's shelf has it, at this program. -/
import Derived.Shelf.Slices.CompactI
import Derived.Sort.OwnSortedInts
import Derived.Test.YtcehmaegnfelhaaRvF
namespace Go.Proofs
open Go.Shelf
def Try.cpRen : Go.Shelf.Ren := ⟨fun | 20 => 23 | n => n, fun | 22 => 25 | n => n, fun n => n⟩
theorem Try.cpLays : Lays2.n20 Try.prog Try.cpRen := {
  mixed := by kernel_rfl
  f20 := Try.func23.trans (congrArg some (by kernel_rfl))
  t0 := Try.underlying0
  a0 := Try.isAgg0
  z0 := Try.sizeOf0
  v0 := Try.zeroValue0
  t3 := Try.underlying3
  a3 := Try.isAgg3
  z3 := Try.sizeOf3
  v3 := Try.zeroValue3
  t4 := Try.underlying4
  a4 := Try.isAgg4
  z4 := Try.sizeOf4
  v4 := Try.zeroValue4
  t22 := Try.underlying25
  a22 := Try.isAgg25
  z22 := Try.sizeOf25
  v22 := Try.zeroValue25
  i3 := by kernel_rfl
}
end Go.Proofs
namespace Go.Proofs.Ytcehmaegnfelhaa
open Go.RowKit Go.Sort
/-- What stands once of what follows itself. -/
def cpt (l : List Int) : List Int := Go.Lib.compact l
theorem compact_any (l : List Int) (v : Value) (w : World) (N : Nat) (hown : w.ownsRow N 3 1 v l.length (zcs l)) (hl : l.length ≤ 1000) :
    Calls Try.prog 23 #[v] w fun e W' => ∃ u, e = .returned u ∧ Il W' u (cpt l) ∧ Below N w W' := by
  rcases Nat.eq_zero_or_pos l.length with h0 | h0
  · have hn := List.length_eq_zero_iff.1 h0
    subst hn
    obtain ⟨a, c, rfl⟩ := owns_slice hown
    refine (Any.slices_Compact_int_empty Try.cpLays a c w).mono ?_
    rintro e W' ⟨rfl, rfl⟩
    exact ⟨_, rfl, .inl ⟨rfl, a, c, rfl⟩, Below.refl _ _⟩
  · obtain ⟨g, cap, rfl, hb, hlt⟩ := hown.form h0
    obtain ⟨hS, -, hcap⟩ := Sc_owns hown rfl
    have hH : Holds (Value.int .i64) w g 0 l.toArray := fun j hj => by
      have hj2 : j < l.length := by simpa using hj
      rw [Nat.zero_add]
      refine ⟨hS.cell (t := l[j]) (List.getElem?_eq_getElem hj2) |>.trans ?_, hS.frozen j⟩
      rw [getElem!_pos l.toArray j hj]; rfl
    refine (Any.slices_Compact_int Try.cpLays g 0 cap l w hH (by omega) hcap).mono ?_
    rintro e W' ⟨rfl, q, rfl⟩
    have hle : (Go.Lib.compact l).length ≤ l.length := by
      have := (List.filter_sublist (p := Go.Lib.keeps l.toArray) (l := List.range l.length)).length_le
      simpa [Go.Lib.compact, Go.Lib.compactUpTo] using this
    refine ⟨_, rfl, .inr ⟨g, 0, cap, rfl, by simpa using hlt, fun i t ht => ?_⟩, ?_⟩
    · have hi : i < (Go.Lib.compact l).length := (List.getElem?_eq_some_iff.1 ht).1
      have h1 := cell?_putRow (Value.int .i64) (Sort.ahead w q) g 0 l.toArray (Go.Lib.compact l ++ List.replicate (l.length - (Go.Lib.compact l).length) 0).toArray (holds_ahead _ _ _ _ _ _ hH) (by simp; omega) i (by simp; omega)
      refine h1.trans ?_
      rw [getElem!_pos _ i (by simp; omega)]
      congr 2
      have ht2 := (List.getElem?_eq_some_iff.1 ht).2
      simp only [List.getElem_toArray]
      rw [List.getElem_append_left hi]
      exact ht2
    · have hg := grownBy_sortedI (w := w) (g := g) (n := q) (os := #[]) (Go.Lib.compact l ++ List.replicate (l.length - (Go.Lib.compact l).length) 0).toArray
      have he : ∀ W : World, grow W #[] = W := fun W => by simp [grow]
      rw [he] at hg
      exact ⟨hg.os, hg.tape, hg.output, hg.size, fun k hk => hg.block k (by omega) (fun e => by injection e with e; omega)⟩
end Go.Proofs.Ytcehmaegnfelhaa
