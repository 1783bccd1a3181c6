import Derived.Test.YtmkjcfakopbdhaaGreatDoorPtA
import Derived.Test.YtmkjcfakopbdhaaGreatDoorBkI
import Derived.Lib.BufferWrite
namespace Go.Proofs.YtmkjcfakopbdhaaGreatDoor
section
open Go.RowKit
attribute [local go_sem ↓] Go.wp_at_zero Go.wp_at_succ

/-- A text's bytes as numbers. -/
def bn (l : List UInt8) : List Int := l.map fun b => (b.toNat : Int)
def zeroT : List Int := List.replicate 16 0
theorem bn_len (l : List UInt8) : (bn l).length = l.length := by simp [bn]
theorem Tryz.size51 : (Tryz.prog.info? 72).map (·.size) = some 16 := by kernel_rfl
theorem Tryz.info5s : (Tryz.prog.info? 5).map (·.size) = some 1 := by kernel_rfl
theorem Holds.block {w : World} {B : Nat} {k : IntKind} {t : TypeId} {n : Nat} {v : List Int} (hh : w.heap[B]? = some (.cells (arr k v) t)) (hn : v.length = n) : Holds w B k n v := by
  refine ⟨hn, fun i i0 i1 => ?_, fun i i0 i1 => ?_⟩
  · unfold World.cell?
    simp only [hh]
    have hl : i.toNat < v.length := by omega
    simp [arr, gv, List.getElem?_eq_getElem hl]
  · unfold World.frozen?
    simp only [hh]
    simp
    try omega
theorem results_cell_tmp {fn : Func} {p q : Tmp} {ty : TypeId} (h : fn.results = #[.cell p ty, .tmp q]) (tmps : Array Value) (P : Program) (w : World) {a : Addr} (ha : tmps[p]?.getD undef = .pointer (some a)) {x y : Value} (hy : tmps[q]?.getD undef = y) (hl : (loadVar ty a).run P w = .ok x w) :
    (results fn tmps).run P w = .ok (.tuple #[x, y]) w := by
  simp only [results, h]
  simp [ha, hy, asAddr, hl]
theorem arr_zero : arr .u8 zeroT = #[.int .u8 0, .int .u8 0, .int .u8 0, .int .u8 0, .int .u8 0, .int .u8 0, .int .u8 0, .int .u8 0, .int .u8 0, .int .u8 0, .int .u8 0, .int .u8 0, .int .u8 0, .int .u8 0, .int .u8 0, .int .u8 0] := rfl
theorem copied (s : List UInt8) (h : s.length = 16) (cur : Array Value) (hc : cur.size = 16) : (cur.toList.take 0 ++ Lib.byteCells (bs s).data.toList ++ cur.toList.drop (0 + (bs s).size)).toArray = arr .u8 (bn s) := by
  rw [List.take_zero, List.nil_append, List.drop_of_length_le (by rw [Array.length_toList, bs_size]; omega), List.append_nil, bs_list]
  simp [arr, bn, Lib.byteCells]

set_option maxRecDepth 20000 in
set_option maxHeartbeats 2000000 in
theorem toTag_any (s : List UInt8) (w : World) :
    Calls Tryz.prog 39 #[.string (bs s)] w fun e W' => e = .returned (.tuple #[.agg (arr .u8 (if s.length = 16 then bn s else zeroT)), .bool (decide (s.length = 16))]) ∧ Below w.heap.size w W' := by
  have hss : (bs s).size = s.length := bs_size s
  by_cases h : s.length = 16
  · rw [if_pos h, decide_eq_true h]
    have hb1 : Below w.heap.size w (w.alloc (.cells #[.int .u8 0, .int .u8 0, .int .u8 0, .int .u8 0, .int .u8 0, .int .u8 0, .int .u8 0, .int .u8 0, .int .u8 0, .int .u8 0, .int .u8 0, .int .u8 0, .int .u8 0, .int .u8 0, .int .u8 0, .int .u8 0] 72)) := (Below.refl _ w).alloc (Nat.le_refl _) _
    have hb2 := hb1.alloc hb1.size (.cells #[.int .u8 0, .int .u8 0, .int .u8 0, .int .u8 0, .int .u8 0, .int .u8 0, .int .u8 0, .int .u8 0, .int .u8 0, .int .u8 0, .int .u8 0, .int .u8 0, .int .u8 0, .int .u8 0, .int .u8 0, .int .u8 0] 72)
    have hg : ((w.alloc (.cells #[.int .u8 0, .int .u8 0, .int .u8 0, .int .u8 0, .int .u8 0, .int .u8 0, .int .u8 0, .int .u8 0, .int .u8 0, .int .u8 0, .int .u8 0, .int .u8 0, .int .u8 0, .int .u8 0, .int .u8 0, .int .u8 0] 72)).alloc (.cells #[.int .u8 0, .int .u8 0, .int .u8 0, .int .u8 0, .int .u8 0, .int .u8 0, .int .u8 0, .int .u8 0, .int .u8 0, .int .u8 0, .int .u8 0, .int .u8 0, .int .u8 0, .int .u8 0, .int .u8 0, .int .u8 0] 72)).heap[w.heap.size + 1]? = some (.cells #[.int .u8 0, .int .u8 0, .int .u8 0, .int .u8 0, .int .u8 0, .int .u8 0, .int .u8 0, .int .u8 0, .int .u8 0, .int .u8 0, .int .u8 0, .int .u8 0, .int .u8 0, .int .u8 0, .int .u8 0, .int .u8 0] 72) := by
      have := heap_alloc_new (w.alloc (.cells #[.int .u8 0, .int .u8 0, .int .u8 0, .int .u8 0, .int .u8 0, .int .u8 0, .int .u8 0, .int .u8 0, .int .u8 0, .int .u8 0, .int .u8 0, .int .u8 0, .int .u8 0, .int .u8 0, .int .u8 0, .int .u8 0] 72)) (.cells #[.int .u8 0, .int .u8 0, .int .u8 0, .int .u8 0, .int .u8 0, .int .u8 0, .int .u8 0, .int .u8 0, .int .u8 0, .int .u8 0, .int .u8 0, .int .u8 0, .int .u8 0, .int .u8 0, .int .u8 0, .int .u8 0] 72)
      simpa using this
    have hH : Holds ((w.alloc (.cells #[.int .u8 0, .int .u8 0, .int .u8 0, .int .u8 0, .int .u8 0, .int .u8 0, .int .u8 0, .int .u8 0, .int .u8 0, .int .u8 0, .int .u8 0, .int .u8 0, .int .u8 0, .int .u8 0, .int .u8 0, .int .u8 0] 72)).alloc (.cells #[.int .u8 0, .int .u8 0, .int .u8 0, .int .u8 0, .int .u8 0, .int .u8 0, .int .u8 0, .int .u8 0, .int .u8 0, .int .u8 0, .int .u8 0, .int .u8 0, .int .u8 0, .int .u8 0, .int .u8 0, .int .u8 0] 72)) w.heap.size .u8 16 zeroT := by
      refine Holds.below (n := w.heap.size + 1) (Holds.new w .u8 72 16 zeroT rfl) ((Below.refl _ _).alloc (by simp) _) (by omega)
    have hcp := Lib.run_copy_row_string (P := Tryz.prog) ((w.alloc (.cells #[.int .u8 0, .int .u8 0, .int .u8 0, .int .u8 0, .int .u8 0, .int .u8 0, .int .u8 0, .int .u8 0, .int .u8 0, .int .u8 0, .int .u8 0, .int .u8 0, .int .u8 0, .int .u8 0, .int .u8 0, .int .u8 0] 72)).alloc (.cells #[.int .u8 0, .int .u8 0, .int .u8 0, .int .u8 0, .int .u8 0, .int .u8 0, .int .u8 0, .int .u8 0, .int .u8 0, .int .u8 0, .int .u8 0, .int .u8 0, .int .u8 0, .int .u8 0, .int .u8 0, .int .u8 0] 72)) 75 9 3 5 (w.heap.size + 1) 0 16 16 (bs s) #[.int .u8 0, .int .u8 0, .int .u8 0, .int .u8 0, .int .u8 0, .int .u8 0, .int .u8 0, .int .u8 0, .int .u8 0, .int .u8 0, .int .u8 0, .int .u8 0, .int .u8 0, .int .u8 0, .int .u8 0, .int .u8 0] 72 Tryz.underlying75 Tryz.info5s hg (by omega) (by rw [hss, h]; decide)
    rw [copied s h _ rfl] at hcp
    have hgY := setRow_heap ((w.alloc (.cells #[.int .u8 0, .int .u8 0, .int .u8 0, .int .u8 0, .int .u8 0, .int .u8 0, .int .u8 0, .int .u8 0, .int .u8 0, .int .u8 0, .int .u8 0, .int .u8 0, .int .u8 0, .int .u8 0, .int .u8 0, .int .u8 0] 72)).alloc (.cells #[.int .u8 0, .int .u8 0, .int .u8 0, .int .u8 0, .int .u8 0, .int .u8 0, .int .u8 0, .int .u8 0, .int .u8 0, .int .u8 0, .int .u8 0, .int .u8 0, .int .u8 0, .int .u8 0, .int .u8 0, .int .u8 0] 72)) (w.heap.size + 1) #[.int .u8 0, .int .u8 0, .int .u8 0, .int .u8 0, .int .u8 0, .int .u8 0, .int .u8 0, .int .u8 0, .int .u8 0, .int .u8 0, .int .u8 0, .int .u8 0, .int .u8 0, .int .u8 0, .int .u8 0, .int .u8 0] (arr .u8 (bn s)) 72 (0, 0) hg
    have hb3 : Below (w.heap.size + 1) ((w.alloc (.cells #[.int .u8 0, .int .u8 0, .int .u8 0, .int .u8 0, .int .u8 0, .int .u8 0, .int .u8 0, .int .u8 0, .int .u8 0, .int .u8 0, .int .u8 0, .int .u8 0, .int .u8 0, .int .u8 0, .int .u8 0, .int .u8 0] 72)).alloc (.cells #[.int .u8 0, .int .u8 0, .int .u8 0, .int .u8 0, .int .u8 0, .int .u8 0, .int .u8 0, .int .u8 0, .int .u8 0, .int .u8 0, .int .u8 0, .int .u8 0, .int .u8 0, .int .u8 0, .int .u8 0, .int .u8 0] 72)) (((w.alloc (.cells #[.int .u8 0, .int .u8 0, .int .u8 0, .int .u8 0, .int .u8 0, .int .u8 0, .int .u8 0, .int .u8 0, .int .u8 0, .int .u8 0, .int .u8 0, .int .u8 0, .int .u8 0, .int .u8 0, .int .u8 0, .int .u8 0] 72)).alloc (.cells #[.int .u8 0, .int .u8 0, .int .u8 0, .int .u8 0, .int .u8 0, .int .u8 0, .int .u8 0, .int .u8 0, .int .u8 0, .int .u8 0, .int .u8 0, .int .u8 0, .int .u8 0, .int .u8 0, .int .u8 0, .int .u8 0] 72)).setRow (w.heap.size + 1) (arr .u8 (bn s))) := ⟨rfl, rfl, rfl, by simp [World.setRow], fun k hk => setRow_other _ _ _ _ (by omega)⟩
    have hB3 := hb2.trans (hb3.mono (Nat.le_succ _))
    have hH3 := hH.below hb3 (by omega)
    have hT3 : Holds (((w.alloc (.cells #[.int .u8 0, .int .u8 0, .int .u8 0, .int .u8 0, .int .u8 0, .int .u8 0, .int .u8 0, .int .u8 0, .int .u8 0, .int .u8 0, .int .u8 0, .int .u8 0, .int .u8 0, .int .u8 0, .int .u8 0, .int .u8 0] 72)).alloc (.cells #[.int .u8 0, .int .u8 0, .int .u8 0, .int .u8 0, .int .u8 0, .int .u8 0, .int .u8 0, .int .u8 0, .int .u8 0, .int .u8 0, .int .u8 0, .int .u8 0, .int .u8 0, .int .u8 0, .int .u8 0, .int .u8 0] 72)).setRow (w.heap.size + 1) (arr .u8 (bn s))) (w.heap.size + 1) .u8 16 (bn s) := Holds.block hgY (by rw [bn_len, h])
    obtain ⟨W3, hW3⟩ : ∃ W, ((w.alloc (.cells #[.int .u8 0, .int .u8 0, .int .u8 0, .int .u8 0, .int .u8 0, .int .u8 0, .int .u8 0, .int .u8 0, .int .u8 0, .int .u8 0, .int .u8 0, .int .u8 0, .int .u8 0, .int .u8 0, .int .u8 0, .int .u8 0] 72)).alloc (.cells #[.int .u8 0, .int .u8 0, .int .u8 0, .int .u8 0, .int .u8 0, .int .u8 0, .int .u8 0, .int .u8 0, .int .u8 0, .int .u8 0, .int .u8 0, .int .u8 0, .int .u8 0, .int .u8 0, .int .u8 0, .int .u8 0] 72)).setRow (w.heap.size + 1) (arr .u8 (bn s)) = W := ⟨_, rfl⟩
    rw [hW3] at hcp hB3 hH3 hT3
    have hbl : (bn s).length = 16 := by rw [bn_len, h]
    clear hgY hb3 hH hg hb1 hb2 hW3
    go_enter Tryz.func39, Tryz.ntmps39
    go_wp2_with (first | (refine wpList_load_holds rfl 72 _ rfl (w.heap.size + 1) rfl .u8 16 (bn s) _ hT3 Tryz.underlying72 rfl Tryz.size51 ?_) | (refine wpList_store_holds rfl 72 _ _ rfl w.heap.size .u8 16 zeroT (bn s) rfl rfl hH3 hbl Tryz.size51 ?_))
    exact bodyPost_ret (results_cell_tmp rfl _ _ _ rfl rfl (run_loadVar_holds (hH3.sets (bn s) hbl) 72 _ Tryz.underlying72 rfl Tryz.size51)) rfl ⟨rfl, hB3.trans ((only_setCells w.heap.size _ _ _).below (Nat.le_refl _))⟩
  · rw [if_neg h, decide_eq_false h]
    have q3 : (((bs s).size : Int) != 16) = true := by rw [bs_size]; simp; omega
    have hH : Holds ((w.alloc (.cells #[.int .u8 0, .int .u8 0, .int .u8 0, .int .u8 0, .int .u8 0, .int .u8 0, .int .u8 0, .int .u8 0, .int .u8 0, .int .u8 0, .int .u8 0, .int .u8 0, .int .u8 0, .int .u8 0, .int .u8 0, .int .u8 0] 72)).alloc (.cells #[.int .u8 0, .int .u8 0, .int .u8 0, .int .u8 0, .int .u8 0, .int .u8 0, .int .u8 0, .int .u8 0, .int .u8 0, .int .u8 0, .int .u8 0, .int .u8 0, .int .u8 0, .int .u8 0, .int .u8 0, .int .u8 0] 72)) w.heap.size .u8 16 zeroT := by
      refine Holds.below (n := w.heap.size + 1) (Holds.new w .u8 72 16 zeroT rfl) ((Below.refl _ _).alloc (by simp) _) (by omega)
    have hb1 : Below w.heap.size w (w.alloc (.cells #[.int .u8 0, .int .u8 0, .int .u8 0, .int .u8 0, .int .u8 0, .int .u8 0, .int .u8 0, .int .u8 0, .int .u8 0, .int .u8 0, .int .u8 0, .int .u8 0, .int .u8 0, .int .u8 0, .int .u8 0, .int .u8 0] 72)) := (Below.refl _ w).alloc (Nat.le_refl _) _
    have hb2 := hb1.alloc hb1.size (.cells #[.int .u8 0, .int .u8 0, .int .u8 0, .int .u8 0, .int .u8 0, .int .u8 0, .int .u8 0, .int .u8 0, .int .u8 0, .int .u8 0, .int .u8 0, .int .u8 0, .int .u8 0, .int .u8 0, .int .u8 0, .int .u8 0] 72)
    go_enter Tryz.func39, Tryz.ntmps39
    go_wp2_with fail
    exact bodyPost_ret (results_cell_tmp rfl _ _ _ rfl rfl (run_loadVar_holds hH 72 _ Tryz.underlying72 rfl Tryz.size51)) rfl ⟨rfl, hb2⟩
end
section
open Go.RowKit
attribute [local go_sem ↓] Go.wp_at_zero Go.wp_at_succ

/-- The sum of a text with a key. -/
def bl (k t : List UInt8) : List UInt8 := (strOfNums (sumL (k.length : Int) (keyL k ++ t))).data.toList
theorem bl_len (k t : List UInt8) : (bl k t).length = 32 := by
  have := sum_size (k.length : Int) (keyL k ++ t)
  rw [bl, size_list, this]
/-- A party's tag of a text. -/
def tagS (seed : List UInt8) (g n : Int) (t : List UInt8) : List UInt8 := (bl (bl seed (nameL g n)) t).take 16
theorem tagS_len (seed : List UInt8) (g n : Int) (t : List UInt8) : (tagS seed g n t).length = 16 := by
  rw [tagS, List.length_take, bl_len]; rfl
/-- What blake reads of its tables. -/
structure EnvB (w : World) : Prop where
  iv : Reads w 4 .u32 8 ivL
  rows : Reads w 5 .u8 160 rowsF
  size : 5 < w.heap.size
theorem EnvB.next {w w' : World} (h : EnvB w) (hb : Below w.heap.size w w') : EnvB w' := ⟨h.iv.below hb (by have := h.size; omega), h.rows.below hb h.size, Nat.lt_of_lt_of_le h.size hb.size⟩
theorem SumL_any (k s : List UInt8) (w : World) (h1 : k.length ≤ 32) (hs : s.length ≤ 140737488355328) (he : EnvB w) :
    Calls Tryz.prog 50 #[.string (bs k), .string (bs s)] w fun e w' => e = .returned (.tuple #[.string (bs (bl k s)), .int .i64 0]) ∧ Below w.heap.size w w' := by
  have h := Sum_any (bs k) (bs s) w (by rw [bs_size]; exact h1) (by rw [bs_size]; exact hs) he.iv he.rows he.size
  rw [bs_size, bs_list, bs_list] at h
  rw [bl, bs_data]
  exact h

theorem New_ok (s : List UInt8) (w : World) (h : s.length ≤ 32) :
    Calls Tryz.prog 5 #[.string (bs s)] w fun e w' => e = .returned (.tuple #[.pointer (some ⟨w.heap.size, 0, none⟩), .int .i64 0]) ∧ w' = w.alloc (.cells #[.string (bs s)] 42) := by
  have hq : decide ((32 : Int) < (bs s).size) = false := by rw [bs_size]; simp; omega
  go_enter Tryz.func5, Tryz.ntmps5
  go_wp2
  go_ret2
  exact ⟨rfl, rfl⟩
theorem New_long (s : List UInt8) (w : World) (h : 32 < s.length) :
    Calls Tryz.prog 5 #[.string (bs s)] w fun e w' => e = .returned (.tuple #[.pointer none, .int .i64 2]) ∧ w' = w := by
  have hq : decide ((32 : Int) < (bs s).size) = true := by rw [bs_size]; simp; omega
  go_enter Tryz.func5, Tryz.ntmps5
  go_wp2
  go_ret2
  exact ⟨rfl, rfl⟩

set_option maxRecDepth 20000 in
set_option maxHeartbeats 2000000 in
theorem tagOf_no (r : Option Addr) (g n : Int) (t : List UInt8) (w : World) (he : EnvP w) (hp : ¬ isP g n) :
    Calls Tryz.prog 32 #[.pointer r, .agg #[.int .i64 g, .int .i64 n], .string (bs t)] w fun e W' => e = .returned (.tuple #[.agg (arr .u8 zeroT), .int .i64 1]) ∧ Below w.heap.size w W' := by
  have hb1 : Below w.heap.size w (w.alloc (.cells #[.int .i64 g, .int .i64 n] 23)) := (Below.refl _ w).alloc (Nat.le_refl _) _
  have hb2 := hb1.alloc hb1.size (.cells #[.int .u8 0, .int .u8 0, .int .u8 0, .int .u8 0, .int .u8 0, .int .u8 0, .int .u8 0, .int .u8 0, .int .u8 0, .int .u8 0, .int .u8 0, .int .u8 0, .int .u8 0, .int .u8 0, .int .u8 0, .int .u8 0] 72)
  have hH : Holds ((w.alloc (.cells #[.int .i64 g, .int .i64 n] 23)).alloc (.cells #[.int .u8 0, .int .u8 0, .int .u8 0, .int .u8 0, .int .u8 0, .int .u8 0, .int .u8 0, .int .u8 0, .int .u8 0, .int .u8 0, .int .u8 0, .int .u8 0, .int .u8 0, .int .u8 0, .int .u8 0, .int .u8 0] 72)) (w.heap.size + 1) .u8 16 zeroT := by
    have h := Holds.new (w.alloc (.cells #[.int .i64 g, .int .i64 n] 23)) .u8 72 16 zeroT rfl
    rw [World.size_alloc] at h
    exact h
  have hN := Name_any g n ((w.alloc (.cells #[.int .i64 g, .int .i64 n] 23)).alloc (.cells #[.int .u8 0, .int .u8 0, .int .u8 0, .int .u8 0, .int .u8 0, .int .u8 0, .int .u8 0, .int .u8 0, .int .u8 0, .int .u8 0, .int .u8 0, .int .u8 0, .int .u8 0, .int .u8 0, .int .u8 0, .int .u8 0] 72)) (he.next hb2)
  rw [show nameE g n = 1 from if_neg hp, show nameV g n = [] from if_neg hp] at hN
  go_enter Tryz.func32, Tryz.ntmps32
  go_wp2_with fail
  refine hN.mono ?_
  rintro e w1 ⟨rfl, hb3⟩
  have hB1 := hb2.trans (hb3.mono hb2.size)
  have hH1 := hH.below hb3 (by simp)
  clear hN
  go_wp2_with (first | (refine wpList_store_holds rfl 72 _ _ rfl (w.heap.size + 1) .u8 16 zeroT zeroT rfl rfl hH1 rfl Tryz.size51 ?_))
  exact bodyPost_ret (results_cell_tmp rfl _ _ _ rfl rfl (run_loadVar_holds (hH1.sets zeroT rfl) 72 _ Tryz.underlying72 rfl Tryz.size51)) rfl ⟨rfl, hB1.trans ((only_setCells (w.heap.size + 1) _ _ _).below (Nat.le_succ _))⟩

set_option maxRecDepth 20000 in
set_option maxHeartbeats 2000000 in
theorem tagOf_nil (g n : Int) (t : List UInt8) (w : World) (he : EnvP w) (hp : isP g n) :
    Calls Tryz.prog 32 #[.pointer none, .agg #[.int .i64 g, .int .i64 n], .string (bs t)] w fun e W' => e = .returned (.tuple #[.agg (arr .u8 zeroT), .int .i64 7]) ∧ Below w.heap.size w W' := by
  have hb1 : Below w.heap.size w (w.alloc (.cells #[.int .i64 g, .int .i64 n] 23)) := (Below.refl _ w).alloc (Nat.le_refl _) _
  have hb2 := hb1.alloc hb1.size (.cells #[.int .u8 0, .int .u8 0, .int .u8 0, .int .u8 0, .int .u8 0, .int .u8 0, .int .u8 0, .int .u8 0, .int .u8 0, .int .u8 0, .int .u8 0, .int .u8 0, .int .u8 0, .int .u8 0, .int .u8 0, .int .u8 0] 72)
  have hH : Holds ((w.alloc (.cells #[.int .i64 g, .int .i64 n] 23)).alloc (.cells #[.int .u8 0, .int .u8 0, .int .u8 0, .int .u8 0, .int .u8 0, .int .u8 0, .int .u8 0, .int .u8 0, .int .u8 0, .int .u8 0, .int .u8 0, .int .u8 0, .int .u8 0, .int .u8 0, .int .u8 0, .int .u8 0] 72)) (w.heap.size + 1) .u8 16 zeroT := by
    have h := Holds.new (w.alloc (.cells #[.int .i64 g, .int .i64 n] 23)) .u8 72 16 zeroT rfl
    rw [World.size_alloc] at h
    exact h
  have hN := Name_any g n ((w.alloc (.cells #[.int .i64 g, .int .i64 n] 23)).alloc (.cells #[.int .u8 0, .int .u8 0, .int .u8 0, .int .u8 0, .int .u8 0, .int .u8 0, .int .u8 0, .int .u8 0, .int .u8 0, .int .u8 0, .int .u8 0, .int .u8 0, .int .u8 0, .int .u8 0, .int .u8 0, .int .u8 0] 72)) (he.next hb2)
  rw [show nameE g n = 0 from if_pos hp, show nameV g n = nameL g n from if_pos hp] at hN
  obtain ⟨NM, hNM⟩ : ∃ NM, nameL g n = NM := ⟨_, rfl⟩
  rw [hNM] at hN
  clear hNM hp
  go_enter Tryz.func32, Tryz.ntmps32
  go_wp2_with fail
  refine hN.mono ?_
  rintro e w1 ⟨rfl, hb3⟩
  have hB1 := hb2.trans (hb3.mono hb2.size)
  have hH1 := hH.below hb3 (by simp)
  clear hN
  go_wp2_with (first | (refine wpList_store_holds rfl 72 _ _ rfl (w.heap.size + 1) .u8 16 zeroT zeroT rfl rfl hH1 rfl Tryz.size51 ?_))
  exact bodyPost_ret (results_cell_tmp rfl _ _ _ rfl rfl (run_loadVar_holds (hH1.sets zeroT rfl) 72 _ Tryz.underlying72 rfl Tryz.size51)) rfl ⟨rfl, hB1.trans ((only_setCells (w.heap.size + 1) _ _ _).below (Nat.le_succ _))⟩

set_option maxRecDepth 20000 in
set_option maxHeartbeats 2000000 in
theorem tagOf_ok (B : Nat) (seed : List UInt8) (g n : Int) (t : List UInt8) (w : World) (he : EnvP w) (hb : EnvB w) (hp : isP g n) (hs : seed.length ≤ 32) (ht : t.length ≤ 140737488355328) (hr : w.cell? ⟨B, 0, none⟩ = some (.string (bs seed))) :
    Calls Tryz.prog 32 #[.pointer (some ⟨B, 0, none⟩), .agg #[.int .i64 g, .int .i64 n], .string (bs t)] w fun e W' => e = .returned (.tuple #[.agg (arr .u8 (bn (tagS seed g n t))), .int .i64 0]) ∧ Below w.heap.size w W' := by
  have hBl := World.block_lt_of_cell? w _ hr
  have hb1 : Below w.heap.size w (w.alloc (.cells #[.int .i64 g, .int .i64 n] 23)) := (Below.refl _ w).alloc (Nat.le_refl _) _
  have hb2 := hb1.alloc hb1.size (.cells #[.int .u8 0, .int .u8 0, .int .u8 0, .int .u8 0, .int .u8 0, .int .u8 0, .int .u8 0, .int .u8 0, .int .u8 0, .int .u8 0, .int .u8 0, .int .u8 0, .int .u8 0, .int .u8 0, .int .u8 0, .int .u8 0] 72)
  have hH : Holds ((w.alloc (.cells #[.int .i64 g, .int .i64 n] 23)).alloc (.cells #[.int .u8 0, .int .u8 0, .int .u8 0, .int .u8 0, .int .u8 0, .int .u8 0, .int .u8 0, .int .u8 0, .int .u8 0, .int .u8 0, .int .u8 0, .int .u8 0, .int .u8 0, .int .u8 0, .int .u8 0, .int .u8 0] 72)) (w.heap.size + 1) .u8 16 zeroT := by
    have h := Holds.new (w.alloc (.cells #[.int .i64 g, .int .i64 n] 23)) .u8 72 16 zeroT rfl
    rw [World.size_alloc] at h
    exact h
  have hN := Name_any g n ((w.alloc (.cells #[.int .i64 g, .int .i64 n] 23)).alloc (.cells #[.int .u8 0, .int .u8 0, .int .u8 0, .int .u8 0, .int .u8 0, .int .u8 0, .int .u8 0, .int .u8 0, .int .u8 0, .int .u8 0, .int .u8 0, .int .u8 0, .int .u8 0, .int .u8 0, .int .u8 0, .int .u8 0] 72)) (he.next hb2)
  rw [show nameE g n = 0 from if_pos hp, show nameV g n = nameL g n from if_pos hp] at hN
  have hnl := name_len g n hp
  have htl := tagS_len seed g n t
  obtain ⟨TG, hTG⟩ : ∃ TG, tagS seed g n t = TG := ⟨_, rfl⟩
  have HTG : Hid (tagS seed g n t = TG) := hTG
  rw [hTG] at htl ⊢
  clear hTG
  obtain ⟨NM, hNM⟩ : ∃ NM, nameL g n = NM := ⟨_, rfl⟩
  rw [hNM] at hN hnl
  have HNM : Hid (nameL g n = NM) := hNM
  clear hNM hp
  go_enter Tryz.func32, Tryz.ntmps32
  go_wp2_with fail
  refine hN.mono ?_
  clear hN
  rintro e w1 ⟨rfl, hb3⟩
  have hB1 := hb2.trans (hb3.mono hb2.size)
  have hH1 := hH.below hb3 (by simp)
  have k0 := (hB1.cell (p := ⟨B, 0, none⟩) hBl).trans hr
  have eb1 := hb.next hB1
  have hz1 : w.heap.size + 1 < w1.heap.size := Nat.lt_of_lt_of_le (by simp) hb3.size
  clear hH hb2 hb1 hb3
  go_wp2_with fail
  refine (SumL_any seed NM w1 hs (by omega) eb1).mono ?_
  have hkl := bl_len seed NM
  obtain ⟨KY, hKY⟩ : ∃ KY, bl seed NM = KY := ⟨_, rfl⟩
  rw [hKY] at hkl ⊢
  have HKY : Hid (bl seed NM = KY) := hKY
  clear hKY
  rintro e w2 ⟨rfl, hb4⟩
  have hB2 := hB1.trans (hb4.mono hB1.size)
  have hH2 := hH1.below hb4 hz1
  have eb2 := eb1.next hb4
  have hz2 := Nat.lt_of_lt_of_le hz1 hb4.size
  clear hH1 hB1 hb4 eb1
  go_wp2_with fail
  refine (SumL_any KY t w2 (by omega) ht eb2).mono ?_
  have hsl := bl_len KY t
  obtain ⟨SM, hSM⟩ : ∃ SM, bl KY t = SM := ⟨_, rfl⟩
  rw [hSM] at hsl ⊢
  have hTGe : SM.take 16 = TG := by rw [← HTG.out, tagS, HNM.out, HKY.out, hSM]
  have hex : (bs SM).extract 0 16 = bs TG := bs_of _ _ (by rw [extract_list, bs_list, List.drop_zero, hTGe])
  have hss : (bs SM).size = 32 := by rw [bs_size, hsl]
  clear hSM hTGe
  rintro e w3 ⟨rfl, hb5⟩
  have hB3 := hB2.trans (hb5.mono hB2.size)
  have hH3 := hH2.below hb5 hz2
  have hz3 := Nat.lt_of_lt_of_le hz2 hb5.size
  have hTT := toTag_any TG w3
  rw [if_pos htl, decide_eq_true htl] at hTT
  have hbl : (bn TG).length = 16 := by rw [bn_len, htl]
  clear hH2 hB2 hb5 eb2
  go_wp2_with fail
  refine hTT.mono ?_
  clear hTT
  rintro e w4 ⟨rfl, hb6⟩
  have hB4 := hB3.trans (hb6.mono hB3.size)
  have hH4 := hH3.below hb6 hz3
  have hz4 := Nat.lt_of_lt_of_le hz3 hb6.size
  have hHn : Holds (w4.alloc (.cells #[.int .u8 0, .int .u8 0, .int .u8 0, .int .u8 0, .int .u8 0, .int .u8 0, .int .u8 0, .int .u8 0, .int .u8 0, .int .u8 0, .int .u8 0, .int .u8 0, .int .u8 0, .int .u8 0, .int .u8 0, .int .u8 0] 72)) w4.heap.size .u8 16 zeroT := Holds.new w4 .u8 72 16 zeroT rfl
  have hHt := hHn.sets (bn TG) hbl
  have hbn : Below w4.heap.size w4 (w4.alloc (.cells #[.int .u8 0, .int .u8 0, .int .u8 0, .int .u8 0, .int .u8 0, .int .u8 0, .int .u8 0, .int .u8 0, .int .u8 0, .int .u8 0, .int .u8 0, .int .u8 0, .int .u8 0, .int .u8 0, .int .u8 0, .int .u8 0] 72)) := (Below.refl _ w4).alloc (Nat.le_refl _) _
  have hbo : Below w4.heap.size w4 ((w4.alloc (.cells #[.int .u8 0, .int .u8 0, .int .u8 0, .int .u8 0, .int .u8 0, .int .u8 0, .int .u8 0, .int .u8 0, .int .u8 0, .int .u8 0, .int .u8 0, .int .u8 0, .int .u8 0, .int .u8 0, .int .u8 0, .int .u8 0] 72)).setCells w4.heap.size 0 (cellsOf .u8 (bn TG))) := hbn.trans ((only_setCells w4.heap.size _ _ _).below (Nat.le_refl _))
  have hHr := hH4.below hbo hz4
  have hB5 := hB4.trans (hbo.mono hB4.size)
  clear hH3 hB3 hb6
  go_wp2_with (first
    | (refine wpList_store_holds rfl 72 _ _ rfl w4.heap.size .u8 16 zeroT (bn TG) rfl rfl hHn hbl Tryz.size51 ?_)
    | (refine wpList_load_holds rfl 72 _ rfl w4.heap.size rfl .u8 16 (bn TG) _ hHt Tryz.underlying72 rfl Tryz.size51 ?_)
    | (refine wpList_store_holds rfl 72 _ _ rfl (w.heap.size + 1) .u8 16 zeroT (bn TG) rfl rfl hHr hbl Tryz.size51 ?_))
  exact bodyPost_ret (results_cell_tmp rfl _ _ _ rfl rfl (run_loadVar_holds (hHr.sets (bn TG) hbl) 72 _ Tryz.underlying72 rfl Tryz.size51)) rfl ⟨rfl, hB5.trans ((only_setCells (w.heap.size + 1) _ _ _).below (Nat.le_succ _))⟩
end
section
open Go.RowKit
attribute [local go_sem ↓] Go.wp_at_zero Go.wp_at_succ

/-- Is a ring there, with this seed? -/
def RingAt (w : World) (r : Option Addr) (seed : Option (List UInt8)) : Prop :=
  (r = none ∧ seed = none) ∨ ∃ B s, r = some ⟨B, 0, none⟩ ∧ seed = some s ∧ s.length ≤ 32 ∧ w.cell? ⟨B, 0, none⟩ = some (.string (bs s))
def tagErr (seed : Option (List UInt8)) (g n : Int) : Int := if ¬ isP g n then 1 else if seed = none then 7 else 0
def tagNum (seed : Option (List UInt8)) (g n : Int) (t : List UInt8) : List Int := if tagErr seed g n = 0 then bn (tagS (seed.getD []) g n t) else zeroT
theorem tagOf_any (r : Option Addr) (seed : Option (List UInt8)) (g n : Int) (t : List UInt8) (w : World) (he : EnvP w) (hb : EnvB w) (hr : RingAt w r seed) (ht : seed ≠ none → t.length ≤ 140737488355328) :
    Calls Tryz.prog 32 #[.pointer r, .agg #[.int .i64 g, .int .i64 n], .string (bs t)] w fun e W' => e = .returned (.tuple #[.agg (arr .u8 (tagNum seed g n t)), .int .i64 (tagErr seed g n)]) ∧ Below w.heap.size w W' := by
  by_cases hp : isP g n
  · rcases hr with ⟨rfl, rfl⟩ | ⟨B, s, rfl, rfl, hs, hc⟩
    · have e1 : tagErr none g n = 7 := by simp [tagErr, hp]
      have e2 : tagNum none g n t = zeroT := by simp [tagNum, e1]
      rw [e1, e2]
      exact tagOf_nil g n t w he hp
    · have e1 : tagErr (some s) g n = 0 := by simp [tagErr, hp]
      have e2 : tagNum (some s) g n t = bn (tagS s g n t) := by simp [tagNum, e1]
      rw [e1, e2]
      exact tagOf_ok B s g n t w he hb hp hs (ht (by simp)) hc
  · have e1 : tagErr seed g n = 1 := by simp only [tagErr, if_pos hp]
    have e2 : tagNum seed g n t = zeroT := by simp [tagNum, e1]
    rw [e1, e2]
    exact tagOf_no r g n t w he hp
theorem tagNum_len (seed : Option (List UInt8)) (g n : Int) (t : List UInt8) : (tagNum seed g n t).length = 16 := by
  unfold tagNum
  split
  · rw [bn_len, tagS_len]
  · rfl
/-- A party's tag of a text, or none. -/
def sigV (seed : Option (List UInt8)) (g n : Int) (t : List UInt8) : List UInt8 := if tagErr seed g n = 0 then tagS (seed.getD []) g n t else []

theorem str_bn (l : List UInt8) : strOfNums (bn l) = bs l := by
  unfold strOfNums bn bs
  congr 1
  congr 1
  rw [List.map_map]
  conv => rhs; rw [← List.map_id l]
  apply List.map_congr_left
  intro b _
  simp
set_option maxRecDepth 20000 in
set_option maxHeartbeats 2000000 in
theorem Tag_any (r : Option Addr) (seed : Option (List UInt8)) (g n : Int) (t : List UInt8) (w : World) (he : EnvP w) (hb : EnvB w) (hr : RingAt w r seed) (ht : seed ≠ none → t.length ≤ 140737488355328) :
    Calls Tryz.prog 15 #[.pointer r, .agg #[.int .i64 g, .int .i64 n], .string (bs t)] w fun e W' => e = .returned (.tuple #[.string (bs (sigV seed g n t)), .int .i64 (tagErr seed g n)]) ∧ Below w.heap.size w W' := by
  have hb1 : Below w.heap.size w (w.alloc (.cells #[.int .i64 g, .int .i64 n] 23)) := (Below.refl _ w).alloc (Nat.le_refl _) _
  have hrw : RingAt (w.alloc (.cells #[.int .i64 g, .int .i64 n] 23)) r seed := by
    rcases hr with h | ⟨B, s, h1, h2, h3, h4⟩
    · exact .inl h
    · exact .inr ⟨B, s, h1, h2, h3, (hb1.cell (p := ⟨B, 0, none⟩) (World.block_lt_of_cell? w _ h4)).trans h4⟩
  have hT := tagOf_any r seed g n t _ (he.next hb1) (hb.next hb1) hrw ht
  have hnl := tagNum_len seed g n t
  by_cases h0 : tagErr seed g n = 0
  · have e1 : sigV seed g n t = tagS (seed.getD []) g n t := if_pos h0
    have e2 : tagNum seed g n t = bn (sigV seed g n t) := by rw [e1]; exact if_pos h0
    rw [e2, h0] at hT
    rw [e2] at hnl
    rw [h0]
    obtain ⟨TV, hTV⟩ : ∃ TV, sigV seed g n t = TV := ⟨_, rfl⟩
    rw [hTV] at hT hnl ⊢
    clear hTV e1 e2 h0
    go_enter Tryz.func15, Tryz.ntmps15
    go_wp2_with fail
    refine hT.mono ?_
    clear hT
    rintro e w1 ⟨rfl, hb2⟩
    have hB1 := hb1.trans (hb2.mono hb1.size)
    have hHn : Holds (w1.alloc (.cells #[.int .u8 0, .int .u8 0, .int .u8 0, .int .u8 0, .int .u8 0, .int .u8 0, .int .u8 0, .int .u8 0, .int .u8 0, .int .u8 0, .int .u8 0, .int .u8 0, .int .u8 0, .int .u8 0, .int .u8 0, .int .u8 0] 72)) w1.heap.size .u8 16 zeroT := Holds.new w1 .u8 72 16 zeroT rfl
    have hHt := hHn.sets (bn TV) hnl
    have hcv : (convert 75 9 (.slice (some ⟨w1.heap.size, 0, none⟩) 16 16)).run Tryz.prog ((w1.alloc (.cells #[.int .u8 0, .int .u8 0, .int .u8 0, .int .u8 0, .int .u8 0, .int .u8 0, .int .u8 0, .int .u8 0, .int .u8 0, .int .u8 0, .int .u8 0, .int .u8 0, .int .u8 0, .int .u8 0, .int .u8 0, .int .u8 0] 72)).setCells w1.heap.size 0 (cellsOf .u8 (bn TV))) = .ok (.string (bs TV)) ((w1.alloc (.cells #[.int .u8 0, .int .u8 0, .int .u8 0, .int .u8 0, .int .u8 0, .int .u8 0, .int .u8 0, .int .u8 0, .int .u8 0, .int .u8 0, .int .u8 0, .int .u8 0, .int .u8 0, .int .u8 0, .int .u8 0, .int .u8 0] 72)).setCells w1.heap.size 0 (cellsOf .u8 (bn TV))) := by
      have h := run_convert_bytes_arg (P := Tryz.prog) ((w1.alloc (.cells #[.int .u8 0, .int .u8 0, .int .u8 0, .int .u8 0, .int .u8 0, .int .u8 0, .int .u8 0, .int .u8 0, .int .u8 0, .int .u8 0, .int .u8 0, .int .u8 0, .int .u8 0, .int .u8 0, .int .u8 0, .int .u8 0] 72)).setCells w1.heap.size 0 (cellsOf .u8 (bn TV))) 75 5 Tryz.underlying75 Tryz.underlying5 w1.heap.size 0 16 16 (bn TV) hnl (fun i hi => by rw [Nat.zero_add, hHt.cellN i (by omega)]; simp [gv, List.getElem?_eq_getElem (show i < (bn TV).length by omega)]) 9 Tryz.underlying9
      rw [str_bn] at h
      exact h
    have hBt := hB1.trans (((Below.refl w1.heap.size w1).alloc (Nat.le_refl _) (.cells #[.int .u8 0, .int .u8 0, .int .u8 0, .int .u8 0, .int .u8 0, .int .u8 0, .int .u8 0, .int .u8 0, .int .u8 0, .int .u8 0, .int .u8 0, .int .u8 0, .int .u8 0, .int .u8 0, .int .u8 0, .int .u8 0] 72)).trans ((only_setCells w1.heap.size (cellsOf .u8 (bn TV)) 0 _).below (Nat.le_refl _)) |>.mono hB1.size)
    go_wp2_with (first
      | (refine wpList_store_holds rfl 72 _ _ rfl w1.heap.size .u8 16 zeroT (bn TV) rfl rfl hHn hnl Tryz.size51 ?_))
    go_ret2
    exact ⟨rfl, hBt⟩
  · have e1 : sigV seed g n t = [] := if_neg h0
    have hq : (tagErr seed g n != 0) = true := by simpa using h0
    rw [e1]
    obtain ⟨E, hE⟩ : ∃ E, tagErr seed g n = E := ⟨_, rfl⟩
    rw [hE] at hT hq ⊢
    obtain ⟨TN, hTN⟩ : ∃ TN, tagNum seed g n t = TN := ⟨_, rfl⟩
    rw [hTN] at hT hnl
    clear hTN hE h0 e1
    go_enter Tryz.func15, Tryz.ntmps15
    go_wp2_with fail
    refine hT.mono ?_
    clear hT
    rintro e w1 ⟨rfl, hb2⟩
    have hB1 := hb1.trans (hb2.mono hb1.size)
    have hHn : Holds (w1.alloc (.cells #[.int .u8 0, .int .u8 0, .int .u8 0, .int .u8 0, .int .u8 0, .int .u8 0, .int .u8 0, .int .u8 0, .int .u8 0, .int .u8 0, .int .u8 0, .int .u8 0, .int .u8 0, .int .u8 0, .int .u8 0, .int .u8 0] 72)) w1.heap.size .u8 16 zeroT := Holds.new w1 .u8 72 16 zeroT rfl
    go_wp2_with (first
      | (refine wpList_store_holds rfl 72 _ _ rfl w1.heap.size .u8 16 zeroT TN rfl rfl hHn hnl Tryz.size51 ?_))
    go_ret2
    exact ⟨rfl, hB1.trans (((Below.refl w1.heap.size w1).alloc (Nat.le_refl _) _).trans ((only_setCells w1.heap.size _ 0 _).below (Nat.le_refl _)) |>.mono hB1.size)⟩
end
section
open Go.RowKit

set_option maxRecDepth 20000 in
set_option maxHeartbeats 4000000 in
theorem eq16 (a0 a1 a2 a3 a4 a5 a6 a7 a8 a9 a10 a11 a12 a13 a14 a15 b0 b1 b2 b3 b4 b5 b6 b7 b8 b9 b10 b11 b12 b13 b14 b15 : Int) (w : World) : (Op.equalIn 10000 72 (.agg #[.int .u8 a0, .int .u8 a1, .int .u8 a2, .int .u8 a3, .int .u8 a4, .int .u8 a5, .int .u8 a6, .int .u8 a7, .int .u8 a8, .int .u8 a9, .int .u8 a10, .int .u8 a11, .int .u8 a12, .int .u8 a13, .int .u8 a14, .int .u8 a15]) (.agg #[.int .u8 b0, .int .u8 b1, .int .u8 b2, .int .u8 b3, .int .u8 b4, .int .u8 b5, .int .u8 b6, .int .u8 b7, .int .u8 b8, .int .u8 b9, .int .u8 b10, .int .u8 b11, .int .u8 b12, .int .u8 b13, .int .u8 b14, .int .u8 b15])).run Tryz.prog w = .ok (decide ([a0, a1, a2, a3, a4, a5, a6, a7, a8, a9, a10, a11, a12, a13, a14, a15] = [b0, b1, b2, b3, b4, b5, b6, b7, b8, b9, b10, b11, b12, b13, b14, b15])) w := by
  have hu5 := Tryz.underlying5
  have ha5 := Tryz.isAgg5
  have hz5 := Tryz.sizeOf5
  rw [show (10000 : Nat) = 9999 + 1 from rfl, Op.equalIn]
  simp only [Sem.run_bind, run_underlying Tryz.underlying72, Result.andThen_ok]
  simp only [Std.Legacy.Range.forIn_eq_forIn_range', Std.Legacy.Range.size, Nat.sub_zero, Nat.add_sub_cancel, Nat.div_one, List.range'_succ, List.range'_zero, List.forIn_cons, List.forIn_nil]
  go_simp
  by_cases h0 : a0 = b0
  case neg => simp [h0]
  subst h0
  by_cases h1 : a1 = b1
  case neg => simp [h1]
  subst h1
  by_cases h2 : a2 = b2
  case neg => simp [h2]
  subst h2
  by_cases h3 : a3 = b3
  case neg => simp [h3]
  subst h3
  by_cases h4 : a4 = b4
  case neg => simp [h4]
  subst h4
  by_cases h5 : a5 = b5
  case neg => simp [h5]
  subst h5
  by_cases h6 : a6 = b6
  case neg => simp [h6]
  subst h6
  by_cases h7 : a7 = b7
  case neg => simp [h7]
  subst h7
  by_cases h8 : a8 = b8
  case neg => simp [h8]
  subst h8
  by_cases h9 : a9 = b9
  case neg => simp [h9]
  subst h9
  by_cases h10 : a10 = b10
  case neg => simp [h10]
  subst h10
  by_cases h11 : a11 = b11
  case neg => simp [h11]
  subst h11
  by_cases h12 : a12 = b12
  case neg => simp [h12]
  subst h12
  by_cases h13 : a13 = b13
  case neg => simp [h13]
  subst h13
  by_cases h14 : a14 = b14
  case neg => simp [h14]
  subst h14
  by_cases h15 : a15 = b15
  case neg => simp [h15]
  subst h15
  simp
theorem list16 (v : List Int) (h : v.length = 16) : v = [gv v 0, gv v 1, gv v 2, gv v 3, gv v 4, gv v 5, gv v 6, gv v 7, gv v 8, gv v 9, gv v 10, gv v 11, gv v 12, gv v 13, gv v 14, gv v 15] := by
  match v, h with
  | [x0, x1, x2, x3, x4, x5, x6, x7, x8, x9, x10, x11, x12, x13, x14, x15], _ => rfl
theorem bn_inj {ms cs : List UInt8} (h : bn ms = bn cs) : ms = cs := by
  have : strOfNums (bn ms) = strOfNums (bn cs) := by rw [h]
  rw [str_bn, str_bn] at this
  exact bs_inj this
set_option maxRecDepth 20000 in
theorem eqarr (ms cs : List UInt8) (ha : ms.length = 16) (hc : cs.length = 16) (w : World) : (Op.equalIn 10000 72 (.agg (arr .u8 (bn ms))) (.agg (arr .u8 (bn cs)))).run Tryz.prog w = .ok (decide (ms = cs)) w := by
  have e1 := list16 (bn ms) (by rw [bn_len, ha])
  have e2 := list16 (bn cs) (by rw [bn_len, hc])
  have h := eq16 (gv (bn ms) 0) (gv (bn ms) 1) (gv (bn ms) 2) (gv (bn ms) 3) (gv (bn ms) 4) (gv (bn ms) 5) (gv (bn ms) 6) (gv (bn ms) 7) (gv (bn ms) 8) (gv (bn ms) 9) (gv (bn ms) 10) (gv (bn ms) 11) (gv (bn ms) 12) (gv (bn ms) 13) (gv (bn ms) 14) (gv (bn ms) 15) (gv (bn cs) 0) (gv (bn cs) 1) (gv (bn cs) 2) (gv (bn cs) 3) (gv (bn cs) 4) (gv (bn cs) 5) (gv (bn cs) 6) (gv (bn cs) 7) (gv (bn cs) 8) (gv (bn cs) 9) (gv (bn cs) 10) (gv (bn cs) 11) (gv (bn cs) 12) (gv (bn cs) 13) (gv (bn cs) 14) (gv (bn cs) 15) w
  rw [← e1, ← e2] at h
  have a1 : arr .u8 (bn ms) = #[.int .u8 (gv (bn ms) 0), .int .u8 (gv (bn ms) 1), .int .u8 (gv (bn ms) 2), .int .u8 (gv (bn ms) 3), .int .u8 (gv (bn ms) 4), .int .u8 (gv (bn ms) 5), .int .u8 (gv (bn ms) 6), .int .u8 (gv (bn ms) 7), .int .u8 (gv (bn ms) 8), .int .u8 (gv (bn ms) 9), .int .u8 (gv (bn ms) 10), .int .u8 (gv (bn ms) 11), .int .u8 (gv (bn ms) 12), .int .u8 (gv (bn ms) 13), .int .u8 (gv (bn ms) 14), .int .u8 (gv (bn ms) 15)] := congrArg (arr .u8) e1
  have a2 : arr .u8 (bn cs) = #[.int .u8 (gv (bn cs) 0), .int .u8 (gv (bn cs) 1), .int .u8 (gv (bn cs) 2), .int .u8 (gv (bn cs) 3), .int .u8 (gv (bn cs) 4), .int .u8 (gv (bn cs) 5), .int .u8 (gv (bn cs) 6), .int .u8 (gv (bn cs) 7), .int .u8 (gv (bn cs) 8), .int .u8 (gv (bn cs) 9), .int .u8 (gv (bn cs) 10), .int .u8 (gv (bn cs) 11), .int .u8 (gv (bn cs) 12), .int .u8 (gv (bn cs) 13), .int .u8 (gv (bn cs) 14), .int .u8 (gv (bn cs) 15)] := congrArg (arr .u8) e2
  have hd : decide (bn ms = bn cs) = decide (ms = cs) := by
    by_cases h2 : ms = cs
    · subst h2; simp
    · rw [decide_eq_false h2, decide_eq_false (fun h3 => h2 (bn_inj h3))]
  rw [a1, a2, h, hd]
theorem wpList_load_holds_g {P : Program} {ops : Array Oper} {rest : List Oper} {op : Oper} {a : Act} {w : World} {Q : Exit → Act → World → Prop} (ty : TypeId) (x : Operand) (ho : op.op = .load ty x)
    (B : Nat) (hx : a.eval x = .pointer (some ⟨B, 0, none⟩)) (k : IntKind) (n : Nat) (v : List Int) (d : TypeDesc) (hH : Holds w B k n v)
    (hu : P.underlying ty = some d) (hd : d.isRow = true) (hi : (P.info? ty).map (·.size) = some n) (hw : Region.wanted op (yielded ops a.tmps) = true)
    (h : wpList P ops Q rest (a.put op.dst (.agg (arr k v))) w) : wpList P ops Q (op :: rest) a w :=
  wpList_step fun K hK => by
    rw [if_pos hw]
    exact wp_load_mid ty x ho B 0 hx (cellsOf k v) d hH.range hu hd (by rw [hi, cells_len, hH.len]) (hK _ _ h)
end
section
open Go.RowKit
attribute [local go_sem ↓] Go.wp_at_zero Go.wp_at_succ

theorem RingAt.below {w w' : World} {r : Option Addr} {seed : Option (List UInt8)} (h : RingAt w r seed) {B : Nat} (hb : Below B w w') (hB : w.heap.size ≤ B) : RingAt w' r seed := by
  rcases h with h | ⟨B', s, h1, h2, h3, h4⟩
  · exact .inl h
  · exact .inr ⟨B', s, h1, h2, h3, (hb.cell (p := ⟨B', 0, none⟩) (Nat.lt_of_lt_of_le (World.block_lt_of_cell? w _ h4) hB)).trans h4⟩
def checkE (seed : Option (List UInt8)) (g n : Int) (t tg : List UInt8) : Int := if tagErr seed g n ≠ 0 then tagErr seed g n else if tg = sigV seed g n t then 0 else 30
set_option maxRecDepth 20000 in
set_option maxHeartbeats 2000000 in
theorem sCheck_any (r : Option Addr) (seed : Option (List UInt8)) (g n : Int) (t tg : List UInt8) (w : World) (he : EnvP w) (hb : EnvB w) (hr : RingAt w r seed) (ht : seed ≠ none → t.length ≤ 140737488355328) :
    Calls Tryz.prog 22 #[.pointer r, .agg #[.int .i64 g, .int .i64 n, .string (bs t), .string (bs tg)]] w fun e W' => e = .returned (.int .i64 (checkE seed g n t tg)) ∧ Below w.heap.size w W' := by
  have hb1 : Below w.heap.size w (w.alloc (.cells #[.int .i64 g, .int .i64 n, .string (bs t), .string (bs tg)] 58)) := (Below.refl _ w).alloc (Nat.le_refl _) _
  have p0 : (w.alloc (.cells #[.int .i64 g, .int .i64 n, .string (bs t), .string (bs tg)] 58)).heap[w.heap.size]? = some (.cells #[.int .i64 g, .int .i64 n, .string (bs t), .string (bs tg)] 58) := heap_alloc_new _ _
  have hT := tagOf_any r seed g n t _ (he.next hb1) (hb.next hb1) (hr.below hb1 (Nat.le_refl _)) ht
  have hnl := tagNum_len seed g n t
  by_cases h0 : tagErr seed g n = 0
  · rw [h0] at hT
    have e2 : tagNum seed g n t = bn (sigV seed g n t) := by rw [sigV, if_pos h0]; exact if_pos h0
    rw [e2] at hT hnl
    have hcE : checkE seed g n t tg = if tg = sigV seed g n t then 0 else 30 := by rw [checkE, if_neg (fun h => h h0)]
    rw [hcE]
    obtain ⟨SV, hSV⟩ : ∃ SV, sigV seed g n t = SV := ⟨_, rfl⟩
    rw [hSV] at hT hnl ⊢
    obtain ⟨RR, hRR⟩ : ∃ RR : Int, (if tg = SV then 0 else 30) = RR := ⟨_, rfl⟩
    rw [hRR]
    have HRR : Hid ((if tg = SV then 0 else 30) = RR) := hRR
    clear hSV e2 h0 hcE hRR
    go_enter Tryz.func22, Tryz.ntmps22
    go_wp2_with fail
    refine hT.mono ?_
    clear hT
    rintro e w1 ⟨rfl, hb2⟩
    have hB1 := hb1.trans (hb2.mono hb1.size)
    have k3 := (hb2.cell (p := ⟨w.heap.size, 3, none⟩) (by simp)).trans (cellB p0 3 (.string (bs tg)) rfl)
    have hlw : w.heap.size < w1.heap.size := Nat.lt_of_lt_of_le (by simp) hb2.size
    have hHn : Holds (w1.alloc (.cells #[.int .u8 0, .int .u8 0, .int .u8 0, .int .u8 0, .int .u8 0, .int .u8 0, .int .u8 0, .int .u8 0, .int .u8 0, .int .u8 0, .int .u8 0, .int .u8 0, .int .u8 0, .int .u8 0, .int .u8 0, .int .u8 0] 72)) w1.heap.size .u8 16 zeroT := Holds.new w1 .u8 72 16 zeroT rfl
    have hHw := hHn.sets (bn SV) hnl
    have hbw : Below w1.heap.size w1 ((w1.alloc (.cells #[.int .u8 0, .int .u8 0, .int .u8 0, .int .u8 0, .int .u8 0, .int .u8 0, .int .u8 0, .int .u8 0, .int .u8 0, .int .u8 0, .int .u8 0, .int .u8 0, .int .u8 0, .int .u8 0, .int .u8 0, .int .u8 0] 72)).setCells w1.heap.size 0 (cellsOf .u8 (bn SV))) := ((Below.refl w1.heap.size w1).alloc (Nat.le_refl _) (.cells #[.int .u8 0, .int .u8 0, .int .u8 0, .int .u8 0, .int .u8 0, .int .u8 0, .int .u8 0, .int .u8 0, .int .u8 0, .int .u8 0, .int .u8 0, .int .u8 0, .int .u8 0, .int .u8 0, .int .u8 0, .int .u8 0] 72)).trans ((only_setCells w1.heap.size (cellsOf .u8 (bn SV)) 0 _).below (Nat.le_refl _))
    have hB2 := hB1.trans (hbw.mono hB1.size)
    have k3' := (hbw.cell (p := ⟨w.heap.size, 3, none⟩) hlw).trans k3
    have hTT := toTag_any tg ((w1.alloc (.cells #[.int .u8 0, .int .u8 0, .int .u8 0, .int .u8 0, .int .u8 0, .int .u8 0, .int .u8 0, .int .u8 0, .int .u8 0, .int .u8 0, .int .u8 0, .int .u8 0, .int .u8 0, .int .u8 0, .int .u8 0, .int .u8 0] 72)).setCells w1.heap.size 0 (cellsOf .u8 (bn SV)))
    have hlW := hHw.lt (by decide)
    go_wp2_with (first
      | (refine wpList_store_holds rfl 72 _ _ rfl w1.heap.size .u8 16 zeroT (bn SV) rfl rfl hHn hnl Tryz.size51 ?_))
    obtain ⟨W2, hW2⟩ : ∃ W, ((w1.alloc (.cells #[.int .u8 0, .int .u8 0, .int .u8 0, .int .u8 0, .int .u8 0, .int .u8 0, .int .u8 0, .int .u8 0, .int .u8 0, .int .u8 0, .int .u8 0, .int .u8 0, .int .u8 0, .int .u8 0, .int .u8 0, .int .u8 0] 72)).setCells w1.heap.size 0 (cellsOf .u8 (bn SV))) = W := ⟨_, rfl⟩
    rw [hW2] at hTT hHw hB2 k3' hlW ⊢
    clear hW2 hbw hHn k3
    refine hTT.mono ?_
    clear hTT
    rintro e w3 ⟨rfl, hb3⟩
    have hB3 := hB2.trans (hb3.mono hB2.size)
    have hHw3 := hHw.below hb3 hlW
    have hHn : Holds (w3.alloc (.cells #[.int .u8 0, .int .u8 0, .int .u8 0, .int .u8 0, .int .u8 0, .int .u8 0, .int .u8 0, .int .u8 0, .int .u8 0, .int .u8 0, .int .u8 0, .int .u8 0, .int .u8 0, .int .u8 0, .int .u8 0, .int .u8 0] 72)) w3.heap.size .u8 16 zeroT := Holds.new w3 .u8 72 16 zeroT rfl
    have hbn : Below w3.heap.size w3 (w3.alloc (.cells #[.int .u8 0, .int .u8 0, .int .u8 0, .int .u8 0, .int .u8 0, .int .u8 0, .int .u8 0, .int .u8 0, .int .u8 0, .int .u8 0, .int .u8 0, .int .u8 0, .int .u8 0, .int .u8 0, .int .u8 0, .int .u8 0] 72)) := (Below.refl _ w3).alloc (Nat.le_refl _) _
    have hlW3 := Nat.lt_of_lt_of_le hlW hb3.size
    by_cases h16 : tg.length = 16
    · rw [if_pos h16, decide_eq_true h16]
      have hbl : (bn tg).length = 16 := by rw [bn_len, h16]
      have hHg := hHn.sets (bn tg) hbl
      have hbo : Below w3.heap.size w3 ((w3.alloc (.cells #[.int .u8 0, .int .u8 0, .int .u8 0, .int .u8 0, .int .u8 0, .int .u8 0, .int .u8 0, .int .u8 0, .int .u8 0, .int .u8 0, .int .u8 0, .int .u8 0, .int .u8 0, .int .u8 0, .int .u8 0, .int .u8 0] 72)).setCells w3.heap.size 0 (cellsOf .u8 (bn tg))) := hbn.trans ((only_setCells w3.heap.size _ _ _).below (Nat.le_refl _))
      have hHv := hHw3.below hbo hlW3
      have hB4 := hB3.trans (hbo.mono hB3.size)
      have heq := eqarr tg SV h16 (by rw [bn_len] at hnl; exact hnl) ((w3.alloc (.cells #[.int .u8 0, .int .u8 0, .int .u8 0, .int .u8 0, .int .u8 0, .int .u8 0, .int .u8 0, .int .u8 0, .int .u8 0, .int .u8 0, .int .u8 0, .int .u8 0, .int .u8 0, .int .u8 0, .int .u8 0, .int .u8 0] 72)).setCells w3.heap.size 0 (cellsOf .u8 (bn tg)))
      by_cases hts : tg = SV
      · have HE : Hid (RR = 0) := by show RR = 0; rw [← HRR.out, if_pos hts]
        rw [decide_eq_true hts] at heq
        clear hts
        go_wp2_with (first
          | (refine wpList_store_holds rfl 72 _ _ rfl w3.heap.size .u8 16 zeroT (bn tg) rfl rfl hHn hbl Tryz.size51 ?_)
          | (refine wpList_load_holds_g 72 _ rfl w3.heap.size rfl .u8 16 (bn tg) _ hHg Tryz.underlying72 rfl Tryz.size51 rfl ?_)
          | (refine wpList_load_holds_g 72 _ rfl w1.heap.size rfl .u8 16 (bn SV) _ hHv Tryz.underlying72 rfl Tryz.size51 rfl ?_))
        go_ret
        rw [HE.out]
        exact ⟨rfl, hB4⟩
      · have HE : Hid (RR = 30) := by show RR = 30; rw [← HRR.out, if_neg hts]
        rw [decide_eq_false hts] at heq
        clear hts
        go_wp2_with (first
          | (refine wpList_store_holds rfl 72 _ _ rfl w3.heap.size .u8 16 zeroT (bn tg) rfl rfl hHn hbl Tryz.size51 ?_)
          | (refine wpList_load_holds_g 72 _ rfl w3.heap.size rfl .u8 16 (bn tg) _ hHg Tryz.underlying72 rfl Tryz.size51 rfl ?_)
          | (refine wpList_load_holds_g 72 _ rfl w1.heap.size rfl .u8 16 (bn SV) _ hHv Tryz.underlying72 rfl Tryz.size51 rfl ?_))
        go_ret
        rw [HE.out]
        exact ⟨rfl, hB4⟩
    · rw [if_neg h16, decide_eq_false h16]
      have hne : ¬ tg = SV := by rintro rfl; rw [bn_len] at hnl; exact h16 hnl
      have HNE : Hid (RR = 30) := by show RR = 30; rw [← HRR.out, if_neg hne]
      obtain ⟨zz, hzz⟩ : ∃ zz, zeroT = zz := ⟨_, rfl⟩
      have hzl : zz.length = 16 := by rw [← hzz]; rfl
      rw [hzz] at hHn ⊢
      have hbo : Below w3.heap.size w3 ((w3.alloc (.cells #[.int .u8 0, .int .u8 0, .int .u8 0, .int .u8 0, .int .u8 0, .int .u8 0, .int .u8 0, .int .u8 0, .int .u8 0, .int .u8 0, .int .u8 0, .int .u8 0, .int .u8 0, .int .u8 0, .int .u8 0, .int .u8 0] 72)).setCells w3.heap.size 0 (cellsOf .u8 zz)) := hbn.trans ((only_setCells w3.heap.size (cellsOf .u8 zz) 0 (w3.alloc (.cells #[.int .u8 0, .int .u8 0, .int .u8 0, .int .u8 0, .int .u8 0, .int .u8 0, .int .u8 0, .int .u8 0, .int .u8 0, .int .u8 0, .int .u8 0, .int .u8 0, .int .u8 0, .int .u8 0, .int .u8 0, .int .u8 0] 72))).below (Nat.le_refl _))
      have hB4 := hB3.trans (hbo.mono hB3.size)
      clear hzz
      go_wp2_with (first
        | (refine wpList_store_holds rfl 72 _ _ rfl w3.heap.size .u8 16 zz zz rfl rfl hHn hzl Tryz.size51 ?_))
      go_ret
      rw [HNE.out]
      exact ⟨rfl, hB4⟩
  · have hcE : checkE seed g n t tg = tagErr seed g n := by rw [checkE, if_pos h0]
    have hq : (tagErr seed g n != 0) = true := by simpa using h0
    rw [hcE]
    obtain ⟨E, hE⟩ : ∃ E, tagErr seed g n = E := ⟨_, rfl⟩
    rw [hE] at hT hq ⊢
    obtain ⟨TN, hTN⟩ : ∃ TN, tagNum seed g n t = TN := ⟨_, rfl⟩
    rw [hTN] at hT hnl
    clear hTN hE h0 hcE
    go_enter Tryz.func22, Tryz.ntmps22
    go_wp2_with fail
    refine hT.mono ?_
    clear hT
    rintro e w1 ⟨rfl, hb2⟩
    have hB1 := hb1.trans (hb2.mono hb1.size)
    have hHn : Holds (w1.alloc (.cells #[.int .u8 0, .int .u8 0, .int .u8 0, .int .u8 0, .int .u8 0, .int .u8 0, .int .u8 0, .int .u8 0, .int .u8 0, .int .u8 0, .int .u8 0, .int .u8 0, .int .u8 0, .int .u8 0, .int .u8 0, .int .u8 0] 72)) w1.heap.size .u8 16 zeroT := Holds.new w1 .u8 72 16 zeroT rfl
    have hbw := hB1.trans ((((Below.refl w1.heap.size w1).alloc (Nat.le_refl _) (.cells #[.int .u8 0, .int .u8 0, .int .u8 0, .int .u8 0, .int .u8 0, .int .u8 0, .int .u8 0, .int .u8 0, .int .u8 0, .int .u8 0, .int .u8 0, .int .u8 0, .int .u8 0, .int .u8 0, .int .u8 0, .int .u8 0] 72)).trans ((only_setCells w1.heap.size (cellsOf .u8 TN) 0 (w1.alloc (.cells #[.int .u8 0, .int .u8 0, .int .u8 0, .int .u8 0, .int .u8 0, .int .u8 0, .int .u8 0, .int .u8 0, .int .u8 0, .int .u8 0, .int .u8 0, .int .u8 0, .int .u8 0, .int .u8 0, .int .u8 0, .int .u8 0] 72))).below (Nat.le_refl _))).mono hB1.size)
    go_wp2_with (first
      | (refine wpList_store_holds rfl 72 _ _ rfl w1.heap.size .u8 16 zeroT TN rfl rfl hHn hnl Tryz.size51 ?_))
    go_ret
    exact ⟨rfl, hbw⟩
end
end Go.Proofs.YtmkjcfakopbdhaaGreatDoor
