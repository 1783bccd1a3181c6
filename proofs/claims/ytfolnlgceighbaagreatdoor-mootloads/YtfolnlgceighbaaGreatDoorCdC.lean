/- Chains, the document's side: give, walked. -/
import Derived.Test.YtfolnlgceighbaaGreatDoorCdB
namespace Go.Proofs.YtfolnlgceighbaaGreatDoor
open Go.RowKit
attribute [local go_sem ↓] Go.wp_at_zero Go.wp_at_succ

/-- A configuration's cells, its owners as a list. -/
def cfO (num : Int) (gv : Value) (o : List Nat) : Array Value := (Value.int .i64 num :: gv :: owL o).toArray
theorem cfO_at (num : Int) (gv : Value) (o : List Nat) (i t : Nat) (h : o[i]? = some t) : (cfO num gv o)[2 + i]? = some (.int .i64 t) := by
  unfold cfO
  rw [List.getElem?_toArray, Nat.add_comm, List.getElem?_cons_succ, List.getElem?_cons_succ]
  exact owL_at o i t h
theorem cfO_set (num : Int) (gv : Value) (o : List Nat) (i v : Nat) : (cfO num gv o).setIfInBounds (2 + i) (.int .i64 v) = cfO num gv (o.set i v) := by
  unfold cfO
  rw [List.setIfInBounds_toArray, Nat.add_comm, List.set_cons_succ, List.set_cons_succ, owL_set]
/-- The first k owners that are none of the groups are nobody. -/
def zr (gs : List Nat) (x : Nat) : Nat := if gs.contains x then x else 0
def zrT (gs o : List Nat) (k : Nat) : List Nat := (List.range k).foldl (fun o i => if gs.contains (o.getD i 0) then o else o.set i 0) o
theorem zrT_succ (gs o : List Nat) (k : Nat) : zrT gs o (k + 1) = if gs.contains ((zrT gs o k).getD k 0) then zrT gs o k else (zrT gs o k).set k 0 := by
  unfold zrT; rw [List.range_succ, List.foldl_append]; rfl
def gvT (gs o : List Nat) (k : Nat) : List Nat := (List.range k).foldl (fun o i => if o.getD i 0 == 0 then o.set i (fewF (cnt o) gs) else o) o
theorem gvT_succ (gs o : List Nat) (k : Nat) : gvT gs o (k + 1) = if (gvT gs o k).getD k 0 == 0 then (gvT gs o k).set k (fewF (cnt (gvT gs o k)) gs) else gvT gs o k := by
  unfold gvT; rw [List.range_succ, List.foldl_append]; rfl
theorem zrT_len (gs o : List Nat) : ∀ k, (zrT gs o k).length = o.length
  | 0 => rfl
  | k + 1 => by
    rw [zrT_succ]
    split
    · exact zrT_len gs o k
    · rw [List.length_set]; exact zrT_len gs o k
theorem gvT_len (gs o : List Nat) : ∀ k, (gvT gs o k).length = o.length
  | 0 => rfl
  | k + 1 => by
    rw [gvT_succ]
    split
    · rw [List.length_set]; exact gvT_len gs o k
    · exact gvT_len gs o k
def rvT (gs : List Nat) : Nat → List Nat → List Nat
  | 0, o => o
  | n + 1, o => if cnt o (manyF (cnt o) gs) < cnt o (fewF (cnt o) gs) + 2 then o else rvT gs n (o.set (o.idxOf (manyF (cnt o) gs)) (fewF (cnt o) gs))
def rGv (gs o : List Nat) : List Nat := rvT gs 4 (gvT gs (zrT gs o 4) 4)
/-- What the document gives is what the program gives: of all. -/
def allGv : Bool := subs0.all fun gs => (owners0 gs).all fun o => [1, 2, 3, 4].all fun g =>
  if gs.contains g then (if 1 < gs.length then rGv (nG 2 g gs) o == nR (nG 2 g gs) o else true) else rGv (nG 1 g gs) o == nR (nG 1 g gs) o
theorem gv_all : allGv = true := by decide +kernel
theorem gv_of {gs o : List Nat} {k g s : Nat} (hg : gs ∈ subs0) (ho : o ∈ owners0 gs) (hk : okK k g s gs) (h3 : k ≠ 3) : rGv (nG k g gs) o = nO k g s gs o := by
  have h := gv_all
  unfold allGv at h
  rw [List.all_eq_true] at h
  have h := h gs hg
  rw [List.all_eq_true] at h
  have h := h o ho
  rw [List.all_eq_true] at h
  obtain ⟨h1, h4, ⟨rfl, h5, rfl⟩ | ⟨rfl, h5, h6, rfl⟩ | ⟨rfl, h5, h6⟩⟩ := hk
  · have h := h g (by simp; omega)
    rw [if_neg (by rw [h5]; simp)] at h
    exact beq_iff_eq.1 h
  · have h := h g (by simp; omega)
    rw [if_pos h5, if_pos h6] at h
    exact beq_iff_eq.1 h
  · exact absurd rfl h3
theorem Tryz.size32 : (Tryz.prog.info? 32).map (·.size) = some 6 := by kernel_rfl
theorem res32 {W : World} {R : Nat} {L : List Value} (h : W.rangeAt R 0 L) (hl : L.length = 6) : (loadVar 32 ⟨R, 0, none⟩).run Tryz.prog W = .ok (.agg L.toArray) W :=
  run_loadVar_mid W R 0 32 L _ h Tryz.underlying32 rfl (by rw [hl]; exact Tryz.size32)
theorem isIn_zi' (gs : List Nat) (x : Nat) : isIn (zi gs) (x : Int) = gs.contains x := isIn_zi gs x
end Go.Proofs.YtfolnlgceighbaaGreatDoor
