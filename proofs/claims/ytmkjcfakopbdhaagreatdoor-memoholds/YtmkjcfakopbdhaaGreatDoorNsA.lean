import Derived.Test.YtmkjcfakopbdhaaGreatDoorShelf
import Derived.WalkKit
import Derived.WalkSpells
import Derived.WalkLawsBesides
import Derived.BigRegion
import Derived.BigQuiet
import Derived.Deep.RegionHeld3
import Derived.Deep.DrawnRows
import Derived.Deep.DeepCutAuto
import Derived.Lib.AppendIntMem
import Derived.Lib.AtoiErrMem
import Derived.Lib.SmallJoins
import Derived.OwnWalk
namespace Go.Proofs.YtmkjcfakopbdhaaGreatDoor
open Go.RowKit
attribute [local go_sem ↓] Go.wp_at_zero Go.wp_at_succ

theorem gPow : Tryz.prog.globalNamed "internal/strconv.uint64pow10" = some 3 := by kernel_rfl

/-- What the program reads of its package variables, to write numbers. -/
structure EnvP (w : World) : Prop where
  pow : Lib.TabIs Tryz.prog w "internal/strconv.uint64pow10" .u64 Lib.pow10Tab
  size : 4 ≤ w.heap.size
theorem EnvP.below {w w' : World} {B : Nat} (h : EnvP w) (hb : Below B w w') (hB : 4 ≤ B) (hs : 4 ≤ w'.heap.size) : EnvP w' := ⟨var?_below hb gPow (by omega) h.pow, hs⟩
theorem EnvP.next {w w' : World} (h : EnvP w) (hb : Below w.heap.size w w') : EnvP w' := h.below hb h.size (Nat.le_trans h.size hb.size)

/-- What the program reads of its package variables. -/
structure Env (w : World) : Prop where
  pow : Lib.TabIs Tryz.prog w "internal/strconv.uint64pow10" .u64 Lib.pow10Tab
  syn : ∃ t p, w.cell? ⟨1, 0, none⟩ = some (.iface t p)
  rng : ∃ t p, w.cell? ⟨2, 0, none⟩ = some (.iface t p)
  size : 4 ≤ w.heap.size

theorem Env.below {w w' : World} {B : Nat} (h : Env w) (hb : Below B w w') (hB : 4 ≤ B) (hs : 4 ≤ w'.heap.size) : Env w' := by
  obtain ⟨t0, p0, h0⟩ := h.syn
  obtain ⟨t1, p1, h1⟩ := h.rng
  exact ⟨var?_below hb gPow (by omega) h.pow, ⟨t0, p0, (hb.cell (p := ⟨1, 0, none⟩) (by show 1 < B; omega)).trans h0⟩, ⟨t1, p1, (hb.cell (p := ⟨2, 0, none⟩) (by show 2 < B; omega)).trans h1⟩, hs⟩
theorem Env.next {w w' : World} (h : Env w) (hb : Below w.heap.size w w') : Env w' := h.below hb h.size (Nat.le_trans h.size hb.size)

theorem Env.p {w : World} (h : Env w) : EnvP w := ⟨h.pow, h.size⟩
/-- A text's bytes as a string. -/
def bs (l : List UInt8) : ByteArray := ⟨l.toArray⟩
theorem bs_list (l : List UInt8) : (bs l).data.toList = l := rfl
theorem bs_data (s : ByteArray) : bs s.data.toList = s := by cases s; rfl
theorem bs_size (l : List UInt8) : (bs l).size = l.length := by show l.toArray.size = _; simp
theorem size_list (k : ByteArray) : k.data.toList.length = k.size := by simp
theorem bs_inj {a b : List UInt8} (h : bs a = bs b) : a = b := by
  have := congrArg (fun s : ByteArray => s.data.toList) h
  simpa [bs] using this

theorem str_ne {a b : ByteArray} (h : ¬ a = b) : (a.toList == b.toList) = false := by
  rw [ByteArray.toList_eq, ByteArray.toList_eq]
  apply Bool.eq_false_iff.2
  intro hh
  apply h
  have := eq_of_beq hh
  cases a; cases b
  simpa using this

theorem Num_any (n : Int) (w : World) (h0 : -9223372036854775808 ≤ n) (h1 : n ≤ 9223372036854775807) (he : EnvP w) :
    Calls Tryz.prog 18 #[.int .i64 n] w fun e w' => e = .returned (.string (bs (Lib.itoa n))) ∧ Below w.heap.size w w' := by
  go_enter Tryz.func18, Tryz.ntmps18
  go_wp2_with fail
  refine (Tryz.strconv_Itoa n h0 h1 w he.pow).mono ?_
  rintro e w1 ⟨rfl, k, os, rfl⟩
  have hb := Lib.below_grow w.heap.size w (Nat.le_refl _) k os
  obtain ⟨w1, hw1⟩ : ∃ w1, Sort.grow (w.drewN k) os = w1 := ⟨_, rfl⟩
  rw [hw1] at hb ⊢
  go_wp2
  go_ret
  exact ⟨rfl, hb⟩

/-- The number that a text is. -/
def toNumL (s : List UInt8) : Option Int :=
  match Lib.atoiAll s with
  | .ok v => if Lib.itoa v = s then some v else none
  | _ => none
def tnV (s : List UInt8) : Int := (toNumL s).getD 0
def tnE (s : List UInt8) : Int := if (toNumL s).isSome then 0 else 4

theorem atoi_range {s : List UInt8} {v : Int} (h : Lib.atoiAll s = .ok v) : -9223372036854775808 ≤ v ∧ v ≤ 9223372036854775807 := by
  unfold Lib.atoiAll at h
  split at h
  · cases h
  · simp only at h
    split at h
    · cases h
    · cases h
    · rename_i u hu
      split at h
      · cases h
      · split at h
        · cases h
        · injection h with h
          split at h <;> omega
set_option maxHeartbeats 400000 in
theorem ToNum_any (s : ByteArray) (w : World) (hs : s.size ≤ 281474976710656) (he : Env w) :
    Calls Tryz.prog 20 #[.string s] w fun e w' => e = .returned (.tuple #[.int .i64 (tnV s.data.toList), .int .i64 (tnE s.data.toList)]) ∧ Below w.heap.size w w' := by
  rcases ha : Lib.atoiAll s.data.toList with v | _ | _
  ·
    obtain ⟨v0, v1⟩ := atoi_range ha
    go_enter Tryz.func20, Tryz.ntmps20
    go_wp2_with fail
    refine (Tryz.strconv_Atoi_ok s (by omega) v ha w).mono ?_
    rintro e w1 ⟨rfl, hw1⟩
    have hb : Below w.heap.size w w1 := by
      rcases hw1 with rfl | ⟨t, rfl⟩
      · exact Below.refl _ _
      · exact Lib.bytesWorld_below w 5 t
    clear hw1
    have he1 := he.next hb
    go_wp2_with fail
    refine (Num_any v w1 v0 v1 he1.p).mono ?_
    rintro e w2 ⟨rfl, hb2⟩
    have hbb := hb.trans (hb2.mono hb.size)
    by_cases hc : bs (Lib.itoa v) = s
    · have hl : Lib.itoa v = s.data.toList := by rw [← hc, bs_list]
      have e1 : tnV s.data.toList = v := by simp [tnV, toNumL, ha, hl]
      have e2 : tnE s.data.toList = 0 := by simp [tnE, toNumL, ha, hl]
      clear hl ha
      go_wp2
      go_ret2
      exact ⟨by rw [e1, e2]; rfl, hbb⟩
    · have hl : ¬ Lib.itoa v = s.data.toList := by intro h; apply hc; rw [h, bs_data]
      have e1 : tnV s.data.toList = 0 := by simp [tnV, toNumL, ha, hl]
      have e2 : tnE s.data.toList = 4 := by simp [tnE, toNumL, ha, hl]
      clear hl ha
      have hq := str_ne hc
      go_wp2
      go_ret2
      exact ⟨by rw [e1, e2]; rfl, hbb⟩
  ·
    obtain ⟨t0, p0, h0⟩ := he.syn
    have e1 : tnV s.data.toList = 0 := by simp [tnV, toNumL, ha]
    have e2 : tnE s.data.toList = 4 := by simp [tnE, toNumL, ha]
    rw [e1, e2]
    clear e1 e2
    go_enter Tryz.func20, Tryz.ntmps20
    go_wp2_with fail
    refine (Tryz.strconv_Atoi_neither s (by omega) (fun v hv => by rw [ha] at hv; cases hv) (fun hv => by rw [ha] at hv; cases hv) _ w h0 (.inr ⟨_, _, rfl⟩)).mono ?_
    rintro e w1 ⟨N, rfl, _, _, hb⟩
    go_wp2
    go_ret2
    exact ⟨rfl, hb⟩
  ·
    obtain ⟨t0, p0, h0⟩ := he.rng
    have e1 : tnV s.data.toList = 0 := by simp [tnV, toNumL, ha]
    have e2 : tnE s.data.toList = 4 := by simp [tnE, toNumL, ha]
    rw [e1, e2]
    clear e1 e2
    go_enter Tryz.func20, Tryz.ntmps20
    go_wp2_with fail
    refine (Tryz.strconv_Atoi_range s (by omega) ha _ w h0 (.inr ⟨_, _, rfl⟩)).mono ?_
    rintro e w1 ⟨N, rfl, _, _, hb⟩
    go_wp2
    go_ret2
    exact ⟨rfl, hb⟩

/-- The text that a text begins with, of a length of at most d digits, and what is behind its comma. -/
def firstL (d : Nat) (s : List UInt8) : Option (List UInt8 × List UInt8) :=
  let c := Lib.indexByte (s.take (min s.length (d + 1))) 58
  if c < 0 then none
  else match toNumL (s.take c.toNat) with
    | none => none
    | some z =>
      if z < 0 then none
      else if ((s.drop (c.toNat + 1))[z.toNat]?) = some 44 then some ((s.drop (c.toNat + 1)).take z.toNat, (s.drop (c.toNat + 1)).drop (z.toNat + 1))
      else none

theorem index_spec (c : UInt8) : ∀ l : List UInt8, (Lib.indexByte l c = -1 ∧ c ∉ l) ∨ ∃ k : Nat, Lib.indexByte l c = k ∧ l[k]? = some c ∧ c ∉ l.take k
  | [] => .inl ⟨rfl, by simp⟩
  | b :: l => by
    unfold Lib.indexByte
    by_cases h : b = c
    · subst h
      exact .inr ⟨0, by simp, by simp, by simp⟩
    · have h1 : (b == c) = false := by simpa using h
      rw [h1]
      rcases index_spec c l with ⟨e, hn⟩ | ⟨k, e, hk, hn⟩
      · refine .inl ⟨by rw [e]; rfl, ?_⟩
        simp only [List.mem_cons, not_or]
        exact ⟨fun hh => h hh.symm, hn⟩
      · refine .inr ⟨k + 1, ?_, by simpa using hk, ?_⟩
        · rw [e, if_neg (by simp), if_neg (by simp)]
          simp
        · simp only [List.take_succ_cons, List.mem_cons, not_or]
          exact ⟨fun hh => h hh.symm, hn⟩
theorem extract_list (s : ByteArray) (a b : Nat) : (s.extract a b).data.toList = (s.data.toList.take b).drop a := by
  rw [ByteArray.data_extract, Array.toList_extract, List.extract_eq_take_drop, List.drop_take]
theorem byte_at (x : ByteArray) (m : Nat) (h : m < x.size) : x.data.toList[m]? = some x[m] := by
  rw [Array.getElem?_toList, Array.getElem?_eq_getElem (by simpa using h)]
  rfl
theorem byte_44 (b : UInt8) (h : ((b.toNat : Int) != 44) = false) : b = 44 := by
  have : (b.toNat : Int) = 44 := by simpa using h
  apply UInt8.toNat_inj.1
  show b.toNat = 44
  omega
theorem bs_of (s : ByteArray) (l : List UInt8) (h : s.data.toList = l) : s = bs l := by rw [← h, bs_data]
theorem toNum_range {s : List UInt8} {z : Int} (h : toNumL s = some z) : -9223372036854775808 ≤ z ∧ z ≤ 9223372036854775807 := by
  unfold toNumL at h
  split at h
  · rename_i v hv
    split at h
    · injection h with h; subst h; exact atoi_range hv
    · cases h
  · cases h

def firstV (o : Option (List UInt8 × List UInt8)) : Value :=
  match o with
  | some (a, b) => .tuple #[.string (bs a), .string (bs b), .int .i64 0]
  | none => .tuple #[.string (bs []), .string (bs []), .int .i64 4]

set_option maxHeartbeats 400000 in
theorem first_any (s : ByteArray) (d : Nat) (w : World) (hd : d ≤ 100) (hs : s.size ≤ 140737488355328) (he : Env w) :
    Calls Tryz.prog 54 #[.string s, .int .i64 d] w fun e w' => e = .returned (firstV (firstL d s.data.toList)) ∧ Below w.heap.size w w' := by
  obtain ⟨t, ht⟩ : ∃ t, firstL d s.data.toList = t := ⟨_, rfl⟩
  rw [ht]
  unfold firstL at ht
  have hl : s.data.toList.take (min s.data.toList.length (d + 1)) = (s.extract 0 (min (s.size : Int) ((d : Int) + 1)).toNat).data.toList := by
    rw [extract_list, List.drop_zero, size_list]
    congr 1
    omega
  rw [hl] at ht
  have hix := Tryz.strings_IndexByte (s.extract 0 (min (s.size : Int) ((d : Int) + 1)).toNat) 58 w
  have e58 : (58 : Int).toNat.toUInt8 = 58 := rfl
  rw [e58] at hix
  rcases index_spec 58 (s.extract 0 (min (s.size : Int) ((d : Int) + 1)).toNat).data.toList with ⟨e, hn⟩ | ⟨k, e, hk, hn⟩
  · rw [e] at hix ht
    rw [if_pos (by decide)] at ht
    subst ht
    clear hl
    go_enter Tryz.func54, Tryz.ntmps54
    go_wp2_with fail
    refine hix.mono ?_
    rintro e w1 ⟨rfl, rfl⟩
    go_wp2
    go_ret3
    exact ⟨rfl, Below.refl _ _⟩
  · rw [e] at hix ht
    have hk1 : k < (s.extract 0 (min (s.size : Int) ((d : Int) + 1)).toNat).data.toList.length := by
      rw [List.getElem?_eq_some_iff] at hk; exact hk.1
    have hk2 : k < s.size := by
      rw [extract_list, List.drop_zero, List.length_take, size_list] at hk1
      omega
    rw [if_neg (by omega)] at ht
    clear hl hk hn hk1
    have e1 : (s.extract 0 k).data.toList = s.data.toList.take k := by rw [extract_list, List.drop_zero]
    rw [Int.toNat_natCast] at ht
    cases hz : toNumL (s.data.toList.take k) with
    | none =>
      rw [hz] at ht
      subst ht
      have hn : ∀ w1 : World, Env w1 → Calls Tryz.prog 20 #[.string (s.extract 0 k)] w1 fun e w' => e = .returned (.tuple #[.int .i64 0, .int .i64 4]) ∧ Below w1.heap.size w1 w' := by
        intro w1 he1
        have := ToNum_any (s.extract 0 k) w1 (by rw [ByteArray.size_extract]; omega) he1
        rw [e1, tnV, tnE, hz] at this
        exact this
      clear hz e1
      go_enter Tryz.func54, Tryz.ntmps54
      go_wp2_with fail
      refine hix.mono ?_
      clear hix
      rintro e w1 ⟨rfl, rfl⟩
      go_wp2_with fail
      refine (hn w1 he).mono ?_
      rintro e w2 ⟨rfl, hb⟩
      go_wp2
      go_ret3
      exact ⟨rfl, hb⟩
    | some z =>
      rw [hz] at ht
      obtain ⟨z0, z1⟩ := toNum_range hz
      have hn : ∀ w1 : World, Env w1 → Calls Tryz.prog 20 #[.string (s.extract 0 k)] w1 fun e w' => e = .returned (.tuple #[.int .i64 z, .int .i64 0]) ∧ Below w1.heap.size w1 w' := by
        intro w1 he1
        have := ToNum_any (s.extract 0 k) w1 (by rw [ByteArray.size_extract]; omega) he1
        rw [e1, tnV, tnE, hz] at this
        exact this
      clear hz e1
      simp only at ht
      by_cases hz0 : z < 0
      · rw [if_pos hz0] at ht
        subst ht
        go_enter Tryz.func54, Tryz.ntmps54
        go_wp2_with fail
        refine hix.mono ?_
        clear hix
        rintro e w1 ⟨rfl, rfl⟩
        go_wp2_with fail
        refine (hn w1 he).mono ?_
        rintro e w2 ⟨rfl, hb⟩
        go_wp2
        go_ret3
        exact ⟨rfl, hb⟩
      · rw [if_neg hz0] at ht
        obtain ⟨m, rfl⟩ := Int.eq_ofNat_of_zero_le (by omega : 0 ≤ z)
        rw [Int.toNat_natCast] at ht
        have hbl : s.data.toList.drop (k + 1) = (s.extract (k + 1) s.size).data.toList := by
          rw [extract_list, ← size_list, List.take_length]
        rw [hbl] at ht
        have hbz : (s.extract (k + 1) s.size).size = s.size - (k + 1) := by rw [ByteArray.size_extract]; omega
        by_cases hm : m < s.size - (k + 1)
        · clear hbl
          go_enter Tryz.func54, Tryz.ntmps54
          go_wp2_with fail
          refine hix.mono ?_
          clear hix
          rintro e w1 ⟨rfl, rfl⟩
          go_wp2_with fail
          refine (hn w1 he).mono ?_
          rintro e w2 ⟨rfl, hb⟩
          go_wp2
          · rename_i hx
            have hat := byte_at (s.extract (k + 1) s.size) m (by rw [hbz]; exact hm)
            rw [hat, if_neg] at ht
            · subst ht
              go_ret3
              exact ⟨rfl, hb⟩
            · intro hh
              injection hh with hh
              rw [hh] at hx
              rcases hx with hx | hx
              · omega
              · exact absurd hx (by decide)
          · rename_i hx _ _
            have hat := byte_at (s.extract (k + 1) s.size) m (by rw [hbz]; exact hm)
            rw [hat, if_pos (by rw [byte_44 _ hx.2])] at ht
            subst ht
            clear hat
            go_region
            go_wp2
            go_ret3
            refine ⟨?_, hb.drew⟩
            have e3 : (s.extract (k + 1) s.size).extract 0 m = bs ((s.extract (k + 1) s.size).data.toList.take m) := bs_of _ _ (by rw [extract_list, List.drop_zero])
            have e4 : (s.extract (k + 1) s.size).extract (m + 1) (s.size - (k + 1)) = bs ((s.extract (k + 1) s.size).data.toList.drop (m + 1)) := bs_of _ _ (by rw [extract_list, ← hbz, ← size_list, List.take_length])
            rw [firstV, ← e3, ← e4]
            rfl
        · have hno : (s.extract (k + 1) s.size).data.toList[m]? = none := List.getElem?_eq_none (by rw [size_list, hbz]; omega)
          rw [hno, if_neg (by simp)] at ht
          subst ht
          clear hno hbl
          go_enter Tryz.func54, Tryz.ntmps54
          go_wp2_with fail
          refine hix.mono ?_
          clear hix
          rintro e w1 ⟨rfl, rfl⟩
          go_wp2_with fail
          refine (hn w1 he).mono ?_
          rintro e w2 ⟨rfl, hb⟩
          go_wp2
          go_ret3
          exact ⟨rfl, hb⟩
end Go.Proofs.YtmkjcfakopbdhaaGreatDoor
