/- What replicas told, as it came in, opened. -/
import Derived.Test.YtmggfkhfiggloaaDoorMoA
import Derived.Test.YtmggfkhfiggloaaDoorMkT
import Derived.Lib.SmallJoins
import Derived.Deep.Strs
namespace Go.Proofs.YtmggfkhfiggloaaDoor
open Go.ChangeShapes Go.WideShapes Go.ChangeAt Go.RowKit Go.Deep

theorem Tryd.cells68 : Tryd.prog.cellsOf 68 = 4 := by kernel_rfl
set_option maxRecDepth 100000 in
theorem open_texts {H : Type} {enc : TypeId × Value → H} {W : World} {fuel : Nat} {v : Value} {y : DataW H × List MemPlace} (h : DataW.trod enc Tryd.prog W 0 (fun _ => true) true fuel 66 [v] = some y) (hw : ∀ m ∈ y.1.weights Tryd.prog 66, m ≤ reachBytes) :
    ∃ l : List (List UInt8), Sl W v l ∧ ∀ t ∈ l, t.length ≤ reachBytes := by
  rcases open_strings Tryd.underlying66 Tryd.underlying9 Tryd.cells9 h with ⟨hcs, _⟩ | ⟨x, len, cap, ss, hcs, _, hl, hm, hzz, hx, hcell, _⟩
  · simp at hcs; subst hcs; exact ⟨[], .inl ⟨rfl, none, 0, rfl⟩, by simp⟩
  · simp at hcs
    subst hcs
    have hss : ss.length = cap := by simpa using hzz
    have hlen : ((ss.take len).map (·.data.toList)).length = len := by simp; omega
    refine ⟨(ss.take len).map (·.data.toList), ?_, ?_⟩
    · by_cases h00 : len = 0
      · subst h00
        exact .inl ⟨by simp, _, _, rfl⟩
      · obtain ⟨b, off, spot⟩ := x
        have hc0 := hcell 0 (by omega)
        have hspot : spot = none := by simpa [Addr.add] using World.cell?_spot hc0
        subst hspot
        have hb := World.block_lt_of_cell? W _ hc0
        have hbb : b < W.heap.size := by simpa [Addr.add] using hb
        refine .inr ⟨b, off, cap, by rw [hlen], hbb, fun i t hti => ?_⟩
        have hi : i < len := by rw [← hlen]; exact (List.getElem?_eq_some_iff.1 hti).1
        have hci := hcell i (by omega)
        rw [Addr.add_mid] at hci
        rw [hci]
        rw [List.getElem?_map, List.getElem?_take_of_lt hi] at hti
        obtain ⟨y, hy, rfl⟩ := Option.map_eq_some_iff.1 hti
        rw [List.getD_eq_getElem?_getD, hy, Option.getD_some, bs_data]
    · intro t htm
      obtain ⟨z, hz, rfl⟩ := List.mem_map.1 htm
      refine hw _ ?_
      rw [hx]
      simp only [DataW.weights, Tryd.underlying66, List.mem_cons, List.mem_append]
      refine Or.inr (Or.inl (weightsAll_mem (d := .lit (.string z.data.toList)) ?_ _ (by simp [DataW.weights])))
      exact List.mem_map.2 ⟨z, hz, rfl⟩
set_option maxRecDepth 100000 in
theorem open_told {H : Type} {enc : TypeId × Value → H} {W : World} {base : Nat} {v : Value} {d : DataW H} {p : List MemPlace} {ts : List TypeId} {ds : List (DataW H)} {j : Nat} (hval : Value.okWide Tryd.prog W .any base 68 v)
    (h : DataW.Trod enc Tryd.prog W 0 (fun _ => true) true 68 v d p) (hsz : (DataW.weightsEach Tryd.prog ts ds).all (· ≤ reachBytes) = true) (ht : ts[j]? = some 68) (hd : ds[j]? = some d) :
    ∃ (set : Int) (H : List UInt8) (va vb : Value) (LA LB : List (List UInt8)), v = .agg #[.int .i64 set, .string (bs H), va, vb] ∧ H.length ≤ 140737488351232 ∧ Sl W va LA ∧ Sl W vb LB ∧ (∀ t ∈ LA, t.length ≤ 140737488351232) ∧ (∀ t ∈ LB, t.length ≤ 140737488351232) := by
  have hr : reachBytes ≤ 140737488351232 := by unfold reachBytes; omega
  have hw : ∀ m ∈ d.weights Tryd.prog 68, m ≤ reachBytes := fun m hm => of_decide_eq_true (List.all_eq_true.1 hsz _ (DataW.weights_mem_each ht hd _ hm))
  obtain ⟨v0, v1, v2, v3, y0, y1, y2, y3, n, rfl, hda, _, h0, h1, h2, h3⟩ := Joins.open_agg4 Tryd.underlying68 (by kernel_rfl) Tryd.cells68 hval h
  have hwe : ∀ m ∈ DataW.weightsEach Tryd.prog [3, 9, 66, 66] [y0.1, y1.1, y2.1, y3.1], m ≤ reachBytes := by
    intro m hm
    refine hw m ?_
    rw [hda]
    simp only [DataW.weights, Tryd.underlying68]
    exact hm
  simp only [DataW.weightsEach, List.mem_append] at hwe
  obtain ⟨a0, e0, _, _⟩ := DataW.trod_int Tryd.underlying3 h0
  obtain ⟨a1, e1, k1, _⟩ := DataW.trod_string Tryd.underlying9 h1
  obtain ⟨LA, hA, hla⟩ := open_texts h2 (fun m hm => hwe m (.inr (.inr (.inl hm))))
  obtain ⟨LB, hB, hlb⟩ := open_texts h3 (fun m hm => hwe m (.inr (.inr (.inr (.inl hm)))))
  simp at e0 e1
  subst e0 e1
  refine ⟨a0, a1.data.toList, v2, v3, LA, LB, by rw [bs_data], Nat.le_trans (hwe _ (.inr (.inl ?_))) hr, hA, hB, fun t h => Nat.le_trans (hla t h) hr, fun t h => Nat.le_trans (hlb t h) hr⟩
  rw [k1]
  simp [DataW.weights]
end Go.Proofs.YtmggfkhfiggloaaDoor
