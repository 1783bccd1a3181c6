/- How long a change's bytes are. -/
import Derived.Test.YtifalaigfinciaaDoorSiC
namespace Go.Proofs.YtifalaigfinciaaDoor
open Go.RowKit

theorem encV_len2 (x : List UInt8) (g : Int) (l : List Tg) (hx : x.length ≤ 500000) : (encV x g l).length ≤ x.length + 1100 := by
  unfold encV
  split
  · rename_i h
    obtain ⟨g0, g4, hl16, hmem⟩ := fault_zero h
    have h1 := tagL_tot l hmem
    have h2 := itoa_len2 g (by omega) (by omega)
    have h3 : tot (encL x g l) = x.length + (Lib.itoa g).length + tot (tagL l) := by rw [encL, tot_append]; simp [tot]
    have h4 : (encL x g l).length = 2 + 2 * l.length := by rw [encL, List.length_append, tagL_len]; rfl
    have h5 := pack_len (encL x g l) (by omega)
    omega
  · simp
theorem ent_tot2 {b : Bq} (h : b.Ok) : tot (entT b) ≤ b.x.length + 1150 := by
  have h1 := itoa_wf h.n
  have h2 := itoa_wf h.v
  have h3 := encV_len2 b.x b.g b.T (by have := h.x; omega)
  simp [entT, tot]
  omega
def sumX (l : List Bq) : Nat := (l.map fun b => b.x.length).sum
theorem shT_tot2 : ∀ (l : List Bq), (∀ b ∈ l, b.Ok) → tot (shT l) ≤ sumX l + 1150 * l.length
  | [], _ => by simp [shT, tot]
  | b :: l, h => by
    have h1 := ent_tot2 (h b (by simp))
    have h2 := shT_tot2 l (fun c hc => h c (by simp [hc]))
    have e : shT (b :: l) = entT b ++ shT l := rfl
    have e2 : sumX (b :: l) = b.x.length + sumX l := by simp [sumX]
    rw [e, tot_append, List.length_cons, e2]
    omega
set_option maxRecDepth 20000 in
theorem sh_small {c : Bq} {l : List Bq} (hok : ∀ b ∈ c :: l, b.Ok) (hc : c.x.length ≤ 31000) (hs : sumX l ≤ 100000) (hl : l.length ≤ 20) : tot (shT (c :: l)) ≤ 1000000 ∧ (shV c l).length ≤ 200000 := by
  have h1 := shT_tot2 (c :: l) hok
  have e2 : sumX (c :: l) = c.x.length + sumX l := by simp [sumX]
  rw [e2, List.length_cons] at h1
  refine ⟨by omega, ?_⟩
  unfold shV
  split
  · have h2 := pack_len (shT (c :: l)) (by omega)
    rw [shT_len, List.length_cons] at h2
    omega
  · simp
/-- A change's parts as entries, of which the tags are known. -/
theorem sumX_of {bl : List Bv} {l : List Bq} (h : l.map (·.x) = bl.map (·.t)) : sumX l = sumT bl := by
  unfold sumX sumT
  have e1 : (l.map fun b => b.x.length) = (l.map (·.x)).map List.length := by rw [List.map_map]; rfl
  have e2 : (bl.map fun b => b.t.length) = (bl.map (·.t)).map List.length := by rw [List.map_map]; rfl
  rw [e1, e2, h]
end Go.Proofs.YtifalaigfinciaaDoor
