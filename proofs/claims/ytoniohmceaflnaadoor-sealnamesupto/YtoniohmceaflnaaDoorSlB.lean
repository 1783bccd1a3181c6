import Derived.Test.YtoniohmceaflnaaDoorSlA
import Derived.Test.YtoniohmceaflnaaDoorBkI
import Derived.Lib.BufferWrite
namespace Go.Proofs.YtoniohmceaflnaaDoor
open Go.RowKit
attribute [local go_sem ↓] Go.wp_at_zero Go.wp_at_succ

/-- A text's bytes as numbers. -/
def bn (l : List UInt8) : List Int := l.map fun b => (b.toNat : Int)
def zeroT : List Int := List.replicate 16 0
theorem bn_len (l : List UInt8) : (bn l).length = l.length := by simp [bn]
theorem Tryd.size77 : (Tryd.prog.info? 83).map (·.size) = some 16 := by kernel_rfl
theorem Tryd.info5s : (Tryd.prog.info? 5).map (·.size) = some 1 := by kernel_rfl
theorem Holds.block {w : World} {B : Nat} {k : IntKind} {t : TypeId} {n : Nat} {v : List Int} (hh : w.heap[B]? = some (.cells (arr k v) t)) (hn : v.length = n) : Holds w B k n v := by
  refine ⟨hn, fun i i0 i1 => ?_, fun i i0 i1 => ?_⟩
  · unfold World.cell?
    simp only [hh]
    have hl : i.toNat < v.length := by omega
    simp [arr, gv, List.getElem?_eq_getElem hl]
  · unfold World.frozen?
    simp only [hh]
    simp
    try omega
theorem results_cell_tmp {fn : Func} {p q : Tmp} {ty : TypeId} (h : fn.results = #[.cell p ty, .tmp q]) (tmps : Array Value) (P : Program) (w : World) {a : Addr} (ha : tmps[p]?.getD undef = .pointer (some a)) {x y : Value} (hy : tmps[q]?.getD undef = y) (hl : (loadVar ty a).run P w = .ok x w) :
    (results fn tmps).run P w = .ok (.tuple #[x, y]) w := by
  simp only [results, h]
  simp [ha, hy, asAddr, hl]
theorem arr_zero : arr .u8 zeroT = #[.int .u8 0, .int .u8 0, .int .u8 0, .int .u8 0, .int .u8 0, .int .u8 0, .int .u8 0, .int .u8 0, .int .u8 0, .int .u8 0, .int .u8 0, .int .u8 0, .int .u8 0, .int .u8 0, .int .u8 0, .int .u8 0] := rfl
theorem copied (s : List UInt8) (h : s.length = 16) (cur : Array Value) (hc : cur.size = 16) : (cur.toList.take 0 ++ Lib.byteCells (bs s).data.toList ++ cur.toList.drop (0 + (bs s).size)).toArray = arr .u8 (bn s) := by
  rw [List.take_zero, List.nil_append, List.drop_of_length_le (by rw [Array.length_toList, bs_size]; omega), List.append_nil, bs_list]
  simp [arr, bn, Lib.byteCells]

set_option maxRecDepth 20000 in
set_option maxHeartbeats 2000000 in
theorem toTag_any (s : List UInt8) (w : World) :
    Calls Tryd.prog 42 #[.string (bs s)] w fun e W' => e = .returned (.tuple #[.agg (arr .u8 (if s.length = 16 then bn s else zeroT)), .bool (decide (s.length = 16))]) ∧ Below w.heap.size w W' := by
  have hss : (bs s).size = s.length := bs_size s
  by_cases h : s.length = 16
  · rw [if_pos h, decide_eq_true h]
    have hb1 : Below w.heap.size w (w.alloc (.cells #[.int .u8 0, .int .u8 0, .int .u8 0, .int .u8 0, .int .u8 0, .int .u8 0, .int .u8 0, .int .u8 0, .int .u8 0, .int .u8 0, .int .u8 0, .int .u8 0, .int .u8 0, .int .u8 0, .int .u8 0, .int .u8 0] 83)) := (Below.refl _ w).alloc (Nat.le_refl _) _
    have hb2 := hb1.alloc hb1.size (.cells #[.int .u8 0, .int .u8 0, .int .u8 0, .int .u8 0, .int .u8 0, .int .u8 0, .int .u8 0, .int .u8 0, .int .u8 0, .int .u8 0, .int .u8 0, .int .u8 0, .int .u8 0, .int .u8 0, .int .u8 0, .int .u8 0] 83)
    have hg : ((w.alloc (.cells #[.int .u8 0, .int .u8 0, .int .u8 0, .int .u8 0, .int .u8 0, .int .u8 0, .int .u8 0, .int .u8 0, .int .u8 0, .int .u8 0, .int .u8 0, .int .u8 0, .int .u8 0, .int .u8 0, .int .u8 0, .int .u8 0] 83)).alloc (.cells #[.int .u8 0, .int .u8 0, .int .u8 0, .int .u8 0, .int .u8 0, .int .u8 0, .int .u8 0, .int .u8 0, .int .u8 0, .int .u8 0, .int .u8 0, .int .u8 0, .int .u8 0, .int .u8 0, .int .u8 0, .int .u8 0] 83)).heap[w.heap.size + 1]? = some (.cells #[.int .u8 0, .int .u8 0, .int .u8 0, .int .u8 0, .int .u8 0, .int .u8 0, .int .u8 0, .int .u8 0, .int .u8 0, .int .u8 0, .int .u8 0, .int .u8 0, .int .u8 0, .int .u8 0, .int .u8 0, .int .u8 0] 83) := by
      have := heap_alloc_new (w.alloc (.cells #[.int .u8 0, .int .u8 0, .int .u8 0, .int .u8 0, .int .u8 0, .int .u8 0, .int .u8 0, .int .u8 0, .int .u8 0, .int .u8 0, .int .u8 0, .int .u8 0, .int .u8 0, .int .u8 0, .int .u8 0, .int .u8 0] 83)) (.cells #[.int .u8 0, .int .u8 0, .int .u8 0, .int .u8 0, .int .u8 0, .int .u8 0, .int .u8 0, .int .u8 0, .int .u8 0, .int .u8 0, .int .u8 0, .int .u8 0, .int .u8 0, .int .u8 0, .int .u8 0, .int .u8 0] 83)
      simpa using this
    have hH : Holds ((w.alloc (.cells #[.int .u8 0, .int .u8 0, .int .u8 0, .int .u8 0, .int .u8 0, .int .u8 0, .int .u8 0, .int .u8 0, .int .u8 0, .int .u8 0, .int .u8 0, .int .u8 0, .int .u8 0, .int .u8 0, .int .u8 0, .int .u8 0] 83)).alloc (.cells #[.int .u8 0, .int .u8 0, .int .u8 0, .int .u8 0, .int .u8 0, .int .u8 0, .int .u8 0, .int .u8 0, .int .u8 0, .int .u8 0, .int .u8 0, .int .u8 0, .int .u8 0, .int .u8 0, .int .u8 0, .int .u8 0] 83)) w.heap.size .u8 16 zeroT := by
      refine Holds.below (n := w.heap.size + 1) (Holds.new w .u8 83 16 zeroT rfl) ((Below.refl _ _).alloc (by simp) _) (by omega)
    have hcp := Lib.run_copy_row_string (P := Tryd.prog) ((w.alloc (.cells #[.int .u8 0, .int .u8 0, .int .u8 0, .int .u8 0, .int .u8 0, .int .u8 0, .int .u8 0, .int .u8 0, .int .u8 0, .int .u8 0, .int .u8 0, .int .u8 0, .int .u8 0, .int .u8 0, .int .u8 0, .int .u8 0] 83)).alloc (.cells #[.int .u8 0, .int .u8 0, .int .u8 0, .int .u8 0, .int .u8 0, .int .u8 0, .int .u8 0, .int .u8 0, .int .u8 0, .int .u8 0, .int .u8 0, .int .u8 0, .int .u8 0, .int .u8 0, .int .u8 0, .int .u8 0] 83)) 86 9 3 5 (w.heap.size + 1) 0 16 16 (bs s) #[.int .u8 0, .int .u8 0, .int .u8 0, .int .u8 0, .int .u8 0, .int .u8 0, .int .u8 0, .int .u8 0, .int .u8 0, .int .u8 0, .int .u8 0, .int .u8 0, .int .u8 0, .int .u8 0, .int .u8 0, .int .u8 0] 83 Tryd.underlying86 Tryd.info5s hg (by omega) (by rw [hss, h]; decide)
    rw [copied s h _ rfl] at hcp
    have hgY := setRow_heap ((w.alloc (.cells #[.int .u8 0, .int .u8 0, .int .u8 0, .int .u8 0, .int .u8 0, .int .u8 0, .int .u8 0, .int .u8 0, .int .u8 0, .int .u8 0, .int .u8 0, .int .u8 0, .int .u8 0, .int .u8 0, .int .u8 0, .int .u8 0] 83)).alloc (.cells #[.int .u8 0, .int .u8 0, .int .u8 0, .int .u8 0, .int .u8 0, .int .u8 0, .int .u8 0, .int .u8 0, .int .u8 0, .int .u8 0, .int .u8 0, .int .u8 0, .int .u8 0, .int .u8 0, .int .u8 0, .int .u8 0] 83)) (w.heap.size + 1) #[.int .u8 0, .int .u8 0, .int .u8 0, .int .u8 0, .int .u8 0, .int .u8 0, .int .u8 0, .int .u8 0, .int .u8 0, .int .u8 0, .int .u8 0, .int .u8 0, .int .u8 0, .int .u8 0, .int .u8 0, .int .u8 0] (arr .u8 (bn s)) 83 (0, 0) hg
    have hb3 : Below (w.heap.size + 1) ((w.alloc (.cells #[.int .u8 0, .int .u8 0, .int .u8 0, .int .u8 0, .int .u8 0, .int .u8 0, .int .u8 0, .int .u8 0, .int .u8 0, .int .u8 0, .int .u8 0, .int .u8 0, .int .u8 0, .int .u8 0, .int .u8 0, .int .u8 0] 83)).alloc (.cells #[.int .u8 0, .int .u8 0, .int .u8 0, .int .u8 0, .int .u8 0, .int .u8 0, .int .u8 0, .int .u8 0, .int .u8 0, .int .u8 0, .int .u8 0, .int .u8 0, .int .u8 0, .int .u8 0, .int .u8 0, .int .u8 0] 83)) (((w.alloc (.cells #[.int .u8 0, .int .u8 0, .int .u8 0, .int .u8 0, .int .u8 0, .int .u8 0, .int .u8 0, .int .u8 0, .int .u8 0, .int .u8 0, .int .u8 0, .int .u8 0, .int .u8 0, .int .u8 0, .int .u8 0, .int .u8 0] 83)).alloc (.cells #[.int .u8 0, .int .u8 0, .int .u8 0, .int .u8 0, .int .u8 0, .int .u8 0, .int .u8 0, .int .u8 0, .int .u8 0, .int .u8 0, .int .u8 0, .int .u8 0, .int .u8 0, .int .u8 0, .int .u8 0, .int .u8 0] 83)).setRow (w.heap.size + 1) (arr .u8 (bn s))) := ⟨rfl, rfl, rfl, by simp [World.setRow], fun k hk => setRow_other _ _ _ _ (by omega)⟩
    have hB3 := hb2.trans (hb3.mono (Nat.le_succ _))
    have hH3 := hH.below hb3 (by omega)
    have hT3 : Holds (((w.alloc (.cells #[.int .u8 0, .int .u8 0, .int .u8 0, .int .u8 0, .int .u8 0, .int .u8 0, .int .u8 0, .int .u8 0, .int .u8 0, .int .u8 0, .int .u8 0, .int .u8 0, .int .u8 0, .int .u8 0, .int .u8 0, .int .u8 0] 83)).alloc (.cells #[.int .u8 0, .int .u8 0, .int .u8 0, .int .u8 0, .int .u8 0, .int .u8 0, .int .u8 0, .int .u8 0, .int .u8 0, .int .u8 0, .int .u8 0, .int .u8 0, .int .u8 0, .int .u8 0, .int .u8 0, .int .u8 0] 83)).setRow (w.heap.size + 1) (arr .u8 (bn s))) (w.heap.size + 1) .u8 16 (bn s) := Holds.block hgY (by rw [bn_len, h])
    obtain ⟨W3, hW3⟩ : ∃ W, ((w.alloc (.cells #[.int .u8 0, .int .u8 0, .int .u8 0, .int .u8 0, .int .u8 0, .int .u8 0, .int .u8 0, .int .u8 0, .int .u8 0, .int .u8 0, .int .u8 0, .int .u8 0, .int .u8 0, .int .u8 0, .int .u8 0, .int .u8 0] 83)).alloc (.cells #[.int .u8 0, .int .u8 0, .int .u8 0, .int .u8 0, .int .u8 0, .int .u8 0, .int .u8 0, .int .u8 0, .int .u8 0, .int .u8 0, .int .u8 0, .int .u8 0, .int .u8 0, .int .u8 0, .int .u8 0, .int .u8 0] 83)).setRow (w.heap.size + 1) (arr .u8 (bn s)) = W := ⟨_, rfl⟩
    rw [hW3] at hcp hB3 hH3 hT3
    have hbl : (bn s).length = 16 := by rw [bn_len, h]
    clear hgY hb3 hH hg hb1 hb2 hW3
    go_enter Tryd.func42, Tryd.ntmps42
    go_wp2_with (first | (refine wpList_load_holds rfl 83 _ rfl (w.heap.size + 1) rfl .u8 16 (bn s) _ hT3 Tryd.underlying83 rfl Tryd.size77 ?_) | (refine wpList_store_holds rfl 83 _ _ rfl w.heap.size .u8 16 zeroT (bn s) rfl rfl hH3 hbl Tryd.size77 ?_))
    exact bodyPost_ret (results_cell_tmp rfl _ _ _ rfl rfl (run_loadVar_holds (hH3.sets (bn s) hbl) 83 _ Tryd.underlying83 rfl Tryd.size77)) rfl ⟨rfl, hB3.trans ((only_setCells w.heap.size _ _ _).below (Nat.le_refl _))⟩
  · rw [if_neg h, decide_eq_false h]
    have q3 : (((bs s).size : Int) != 16) = true := by rw [bs_size]; simp; omega
    have hH : Holds ((w.alloc (.cells #[.int .u8 0, .int .u8 0, .int .u8 0, .int .u8 0, .int .u8 0, .int .u8 0, .int .u8 0, .int .u8 0, .int .u8 0, .int .u8 0, .int .u8 0, .int .u8 0, .int .u8 0, .int .u8 0, .int .u8 0, .int .u8 0] 83)).alloc (.cells #[.int .u8 0, .int .u8 0, .int .u8 0, .int .u8 0, .int .u8 0, .int .u8 0, .int .u8 0, .int .u8 0, .int .u8 0, .int .u8 0, .int .u8 0, .int .u8 0, .int .u8 0, .int .u8 0, .int .u8 0, .int .u8 0] 83)) w.heap.size .u8 16 zeroT := by
      refine Holds.below (n := w.heap.size + 1) (Holds.new w .u8 83 16 zeroT rfl) ((Below.refl _ _).alloc (by simp) _) (by omega)
    have hb1 : Below w.heap.size w (w.alloc (.cells #[.int .u8 0, .int .u8 0, .int .u8 0, .int .u8 0, .int .u8 0, .int .u8 0, .int .u8 0, .int .u8 0, .int .u8 0, .int .u8 0, .int .u8 0, .int .u8 0, .int .u8 0, .int .u8 0, .int .u8 0, .int .u8 0] 83)) := (Below.refl _ w).alloc (Nat.le_refl _) _
    have hb2 := hb1.alloc hb1.size (.cells #[.int .u8 0, .int .u8 0, .int .u8 0, .int .u8 0, .int .u8 0, .int .u8 0, .int .u8 0, .int .u8 0, .int .u8 0, .int .u8 0, .int .u8 0, .int .u8 0, .int .u8 0, .int .u8 0, .int .u8 0, .int .u8 0] 83)
    go_enter Tryd.func42, Tryd.ntmps42
    go_wp2_with fail
    exact bodyPost_ret (results_cell_tmp rfl _ _ _ rfl rfl (run_loadVar_holds hH 83 _ Tryd.underlying83 rfl Tryd.size77)) rfl ⟨rfl, hb2⟩
end Go.Proofs.YtoniohmceaflnaaDoor
