import Derived.Test.YtoniohmceaflnabDoorShelf
import Derived.WalkKit
import Derived.WalkSpells
import Derived.WalkLawsBesides
import Derived.BigRegion
import Derived.BigQuiet
import Derived.Deep.RegionHeld3
import Derived.Deep.DrawnRows
import Derived.Deep.DeepCutAuto
import Derived.Lib.AppendIntMem
import Derived.Lib.SmallJoins
import Derived.OwnWalk
namespace Go.Proofs.YtoniohmceaflnabDoor
open Go.RowKit
attribute [local go_sem ↓] Go.wp_at_zero Go.wp_at_succ

theorem gPow : Tryd.prog.globalNamed "internal/strconv.uint64pow10" = some 0 := by kernel_rfl

/-- What the program reads of its package variables, to write numbers. -/
structure EnvP (w : World) : Prop where
  pow : Lib.TabIs Tryd.prog w "internal/strconv.uint64pow10" .u64 Lib.pow10Tab
  size : 1 ≤ w.heap.size
theorem EnvP.below {w w' : World} {B : Nat} (h : EnvP w) (hb : Below B w w') (hB : 1 ≤ B) (hs : 1 ≤ w'.heap.size) : EnvP w' := ⟨var?_below hb gPow (by omega) h.pow, hs⟩
theorem EnvP.next {w w' : World} (h : EnvP w) (hb : Below w.heap.size w w') : EnvP w' := h.below hb h.size (Nat.le_trans h.size hb.size)

/-- A text's bytes as a string. -/
def bs (l : List UInt8) : ByteArray := ⟨l.toArray⟩
theorem bs_list (l : List UInt8) : (bs l).data.toList = l := rfl
theorem bs_data (s : ByteArray) : bs s.data.toList = s := by cases s; rfl
theorem bs_size (l : List UInt8) : (bs l).size = l.length := by show l.toArray.size = _; simp
theorem size_list (k : ByteArray) : k.data.toList.length = k.size := by simp
theorem bs_inj {a b : List UInt8} (h : bs a = bs b) : a = b := by
  have := congrArg (fun s : ByteArray => s.data.toList) h
  simpa [bs] using this

theorem str_ne {a b : ByteArray} (h : ¬ a = b) : (a.toList == b.toList) = false := by
  rw [ByteArray.toList_eq, ByteArray.toList_eq]
  apply Bool.eq_false_iff.2
  intro hh
  apply h
  have := eq_of_beq hh
  cases a; cases b
  simpa using this

theorem Num_any (n : Int) (w : World) (h0 : -9223372036854775808 ≤ n) (h1 : n ≤ 9223372036854775807) (he : EnvP w) :
    Calls Tryd.prog 28 #[.int .i64 n] w fun e w' => e = .returned (.string (bs (Lib.itoa n))) ∧ Below w.heap.size w w' := by
  go_enter Tryd.func28, Tryd.ntmps28
  go_wp2_with fail
  refine (Tryd.strconv_Itoa n h0 h1 w he.pow).mono ?_
  rintro e w1 ⟨rfl, k, os, rfl⟩
  have hb := Lib.below_grow w.heap.size w (Nat.le_refl _) k os
  obtain ⟨w1, hw1⟩ : ∃ w1, Sort.grow (w.drewN k) os = w1 := ⟨_, rfl⟩
  rw [hw1] at hb ⊢
  go_wp2
  go_ret
  exact ⟨rfl, hb⟩

/-- The number that a text is. -/
def toNumL (s : List UInt8) : Option Int :=
  match Lib.atoiAll s with
  | .ok v => if Lib.itoa v = s then some v else none
  | _ => none
def tnV (s : List UInt8) : Int := (toNumL s).getD 0
def tnE (s : List UInt8) : Int := if (toNumL s).isSome then 0 else 4

theorem atoi_range {s : List UInt8} {v : Int} (h : Lib.atoiAll s = .ok v) : -9223372036854775808 ≤ v ∧ v ≤ 9223372036854775807 := by
  unfold Lib.atoiAll at h
  split at h
  · cases h
  · simp only at h
    split at h
    · cases h
    · cases h
    · rename_i u hu
      split at h
      · cases h
      · split at h
        · cases h
        · injection h with h
          split at h <;> omega
/-- The text that a text begins with, of a length of at most d digits, and what is behind its comma. -/
def firstL (d : Nat) (s : List UInt8) : Option (List UInt8 × List UInt8) :=
  let c := Lib.indexByte (s.take (min s.length (d + 1))) 58
  if c < 0 then none
  else match toNumL (s.take c.toNat) with
    | none => none
    | some z =>
      if z < 0 then none
      else if ((s.drop (c.toNat + 1))[z.toNat]?) = some 44 then some ((s.drop (c.toNat + 1)).take z.toNat, (s.drop (c.toNat + 1)).drop (z.toNat + 1))
      else none

theorem index_spec (c : UInt8) : ∀ l : List UInt8, (Lib.indexByte l c = -1 ∧ c ∉ l) ∨ ∃ k : Nat, Lib.indexByte l c = k ∧ l[k]? = some c ∧ c ∉ l.take k
  | [] => .inl ⟨rfl, by simp⟩
  | b :: l => by
    unfold Lib.indexByte
    by_cases h : b = c
    · subst h
      exact .inr ⟨0, by simp, by simp, by simp⟩
    · have h1 : (b == c) = false := by simpa using h
      rw [h1]
      rcases index_spec c l with ⟨e, hn⟩ | ⟨k, e, hk, hn⟩
      · refine .inl ⟨by rw [e]; rfl, ?_⟩
        simp only [List.mem_cons, not_or]
        exact ⟨fun hh => h hh.symm, hn⟩
      · refine .inr ⟨k + 1, ?_, by simpa using hk, ?_⟩
        · rw [e, if_neg (by simp), if_neg (by simp)]
          simp
        · simp only [List.take_succ_cons, List.mem_cons, not_or]
          exact ⟨fun hh => h hh.symm, hn⟩
theorem extract_list (s : ByteArray) (a b : Nat) : (s.extract a b).data.toList = (s.data.toList.take b).drop a := by
  rw [ByteArray.data_extract, Array.toList_extract, List.extract_eq_take_drop, List.drop_take]
theorem byte_at (x : ByteArray) (m : Nat) (h : m < x.size) : x.data.toList[m]? = some x[m] := by
  rw [Array.getElem?_toList, Array.getElem?_eq_getElem (by simpa using h)]
  rfl
theorem byte_44 (b : UInt8) (h : ((b.toNat : Int) != 44) = false) : b = 44 := by
  have : (b.toNat : Int) = 44 := by simpa using h
  apply UInt8.toNat_inj.1
  show b.toNat = 44
  omega
theorem bs_of (s : ByteArray) (l : List UInt8) (h : s.data.toList = l) : s = bs l := by rw [← h, bs_data]
theorem toNum_range {s : List UInt8} {z : Int} (h : toNumL s = some z) : -9223372036854775808 ≤ z ∧ z ≤ 9223372036854775807 := by
  unfold toNumL at h
  split at h
  · rename_i v hv
    split at h
    · injection h with h; subst h; exact atoi_range hv
    · cases h
  · cases h

def firstV (o : Option (List UInt8 × List UInt8)) : Value :=
  match o with
  | some (a, b) => .tuple #[.string (bs a), .string (bs b), .int .i64 0]
  | none => .tuple #[.string (bs []), .string (bs []), .int .i64 4]

end Go.Proofs.YtoniohmceaflnabDoor
