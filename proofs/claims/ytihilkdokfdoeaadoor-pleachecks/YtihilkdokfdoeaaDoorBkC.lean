import Derived.Test.YtihilkdokfdoeaaDoorBkB
import Derived.Deep.MidRow
import Derived.KernelRfl
namespace Go.Proofs.YtihilkdokfdoeaaDoor
open Go.RowKit
attribute [local go_sem ↓] Go.wp_at_zero Go.wp_at_succ

theorem Holds.cellN {w : World} {B : Nat} {k : IntKind} {n : Nat} {v : List Int} (h : Holds w B k n v) (i : Nat) (hi : i < n) : w.cell? ⟨B, i, none⟩ = some (.int k (gv v i)) := by
  have := h.cell i (by omega) (by omega); simpa using this
theorem Holds.freeN {w : World} {B : Nat} {k : IntKind} {n : Nat} {v : List Int} (h : Holds w B k n v) (i : Nat) (hi : i < n) : w.frozen? ⟨B, i, none⟩ = false := by
  have := h.free i (by omega) (by omega); simpa using this
theorem Holds.setN {w : World} {B : Nat} {k : IntKind} {n : Nat} {v : List Int} (h : Holds w B k n v) (i : Nat) (x : Int) (hi : i < n) : Holds (w.setCell ⟨B, i, none⟩ (.int k x)) B k n (pv v i x) := by
  have := h.set i x (by omega) (by omega); simpa using this
theorem Holds.lt {w : World} {B : Nat} {k : IntKind} {n : Nat} {v : List Int} (h : Holds w B k n v) (hn : 0 < n) : B < w.heap.size := by
  have := h.cellN 0 hn
  unfold World.cell? at this
  by_cases hb : B < w.heap.size
  · exact hb
  · simp [Array.getElem?_eq_none (Nat.le_of_not_lt hb)] at this
/-- What can be read. -/
def Reads (w : World) (B : Nat) (k : IntKind) (n : Nat) (v : List Int) : Prop := ∀ i : Nat, i < n → w.cell? ⟨B, i, none⟩ = some (.int k (gv v i))
theorem Reads.below {w w' : World} {n C m : Nat} {k : IntKind} {v : List Int} (h : Reads w C k m v) (o : Below n w w') (hC : C < n) : Reads w' C k m v :=
  fun i hi => (o.cell (p := ⟨C, i, none⟩) hC).trans (h i hi)
theorem Reads.only {w w' : World} {C B m : Nat} {k : IntKind} {v : List Int} (h : Reads w C k m v) (o : Only B w w') (hne : C ≠ B) : Reads w' C k m v :=
  fun i hi => (o.cell (p := ⟨C, i, none⟩) hne).trans (h i hi)
theorem Reads.ob {w w' : World} {B n C m : Nat} {k : IntKind} {v : List Int} (h : Reads w C k m v) (o : OB B n w w') (hC : C < n) (hne : C ≠ B) : Reads w' C k m v :=
  fun i hi => (World.cell?_of_block (w := w) (a := ⟨C, i, none⟩) (o.block C hC hne)).trans (h i hi)

def cellsOf (k : IntKind) (v : List Int) : List Value := v.map (Value.int k)
theorem arr_eq (k : IntKind) (v : List Int) : arr k v = (cellsOf k v).toArray := rfl
theorem cells_len (k : IntKind) (v : List Int) : (cellsOf k v).length = v.length := by simp [cellsOf]
theorem Holds.range {w : World} {B : Nat} {k : IntKind} {n : Nat} {v : List Int} (h : Holds w B k n v) : w.rangeAt B 0 (cellsOf k v) := by
  intro j x hx
  have hj : j < v.length := by
    by_cases hj : j < v.length
    · exact hj
    · simp [cellsOf, List.getElem?_eq_none (Nat.le_of_not_lt hj)] at hx
  have := h.cellN j (by have := h.len; omega)
  simp [cellsOf, List.getElem?_eq_getElem hj] at hx
  rw [Nat.zero_add, this, ← hx]
  simp [gv, List.getElem?_eq_getElem hj]
theorem Holds.there {w : World} {B : Nat} {k : IntKind} {n : Nat} {v : List Int} (h : Holds w B k n v) : w.there B 0 n := by
  intro j hj
  rw [Nat.zero_add, h.cellN j hj]
  exact ⟨rfl, h.freeN j hj⟩
theorem oneCells (k : IntKind) (v : List Int) : (cellsOf k v).toArray.all (·.oneCell') = true := by
  apply all_oneCell_toArray
  intro x hx
  simp [cellsOf] at hx
  obtain ⟨a, _, rfl⟩ := hx
  rfl
theorem only_setCells (B : Nat) : ∀ (vs : List Value) (o : Nat) (w : World), Only B w (w.setCells B o vs)
  | [], _, w => Only.refl B w
  | v :: r, o, w => ((Only.refl B w).set o v).trans (only_setCells B r (o + 1) _)
theorem Holds.sets {w : World} {B : Nat} {k : IntKind} {n : Nat} {v : List Int} (h : Holds w B k n v) (u : List Int) (hu : u.length = n) : Holds (w.setCells B 0 (cellsOf k u)) B k n u := by
  refine ⟨hu, fun i i0 i1 => ?_, fun i i0 i1 => ?_⟩
  · have hi : i.toNat < u.length := by omega
    have := World.cell?_setCells_in B (cellsOf k u) 0 w (fun j hj => by rw [Nat.zero_add, h.cellN j (by simp [cellsOf] at hj; omega)]; rfl) i.toNat (by rw [cells_len]; exact hi)
    rw [Nat.zero_add] at this
    rw [this]
    simp [cellsOf, gv, List.getElem?_eq_getElem hi]
  · rw [World.frozen?_setCells]; exact h.free i i0 i1
theorem list_of_gv {u v : List Int} (hl : u.length = v.length) (h : ∀ j : Int, 0 ≤ j → j < v.length → gv u j = gv v j) : u = v := by
  apply List.ext_getElem hl
  intro i h1 h2
  have := h i (by omega) (by omega)
  simpa [gv, List.getElem?_eq_getElem h1, List.getElem?_eq_getElem h2] using this

def ivL : List Int := [1779033703, 3144134277, 1013904242, 2773480762, 1359893119, 2600822924, 528734635, 1541459225]

theorem Tryd.size45 : (Tryd.prog.info? 144).map (·.size) = some 8 := by kernel_rfl
theorem results_cell1 {fn : Func} {p : Tmp} {ty : TypeId} (h : fn.results = #[.cell p ty]) (tmps : Array Value) (P : Program) (w : World) {a : Addr} (ha : tmps[p]?.getD undef = .pointer (some a)) {x : Value} (hl : (loadVar ty a).run P w = .ok x w) :
    (results fn tmps).run P w = .ok x w := by
  simp only [results, h]
  simp [ha, asAddr, hl]

section
variable {P : Program}
theorem wpList_load_holds {ops : Array Oper} {rest : List Oper} {op : Oper} {a : Act} {w : World} {Q : Exit → Act → World → Prop} (hgd : op.guard = none) (ty : TypeId) (x : Operand) (ho : op.op = .load ty x)
    (B : Nat) (hx : a.eval x = .pointer (some ⟨B, 0, none⟩)) (k : IntKind) (n : Nat) (v : List Int) (d : TypeDesc) (hH : Holds w B k n v)
    (hu : P.underlying ty = some d) (hd : d.isRow = true) (hi : (P.info? ty).map (·.size) = some n)
    (h : wpList P ops Q rest (a.put op.dst (.agg (arr k v))) w) : wpList P ops Q (op :: rest) a w :=
  wpList_load_mid hgd ty x ho B 0 hx (cellsOf k v) d hH.range hu hd (by rw [hi, cells_len, hH.len]) h
theorem wpList_store_holds {ops : Array Oper} {rest : List Oper} {op : Oper} {a : Act} {w : World} {Q : Exit → Act → World → Prop} (hgd : op.guard = none) (ty : TypeId) (x y : Operand) (ho : op.op = .store ty x y)
    (B : Nat) (k : IntKind) (n : Nat) (v u : List Int) (hx : a.eval x = .pointer (some ⟨B, 0, none⟩)) (hy : a.eval y = .agg (arr k u)) (hH : Holds w B k n v) (hu : u.length = n)
    (hi : (P.info? ty).map (·.size) = some n)
    (h : wpList P ops Q rest (a.put op.dst undef) (w.setCells B 0 (cellsOf k u))) : wpList P ops Q (op :: rest) a w :=
  wpList_store_mid hgd ty x y ho B 0 (arr k u) hx hy (by have := hH.there; simpa [arr, hu] using this) (by rw [hi]; simp [arr, hu]) (oneCells k u) (by simpa [arr, cellsOf] using h)
theorem run_loadVar_holds {w : World} {B : Nat} {k : IntKind} {n : Nat} {v : List Int} (hH : Holds w B k n v) (ty : TypeId) (d : TypeDesc)
    (hu : P.underlying ty = some d) (hd : d.isRow = true) (hi : (P.info? ty).map (·.size) = some n) : (loadVar ty ⟨B, 0, none⟩).run P w = .ok (.agg (arr k v)) w :=
  run_loadVar_mid w B 0 ty (cellsOf k v) d hH.range hu hd (by rw [hi, cells_len, hH.len])
end

def beginL (n : Int) : List Int := pv ivL 0 (bits .xor .u32 (gv ivL 0) (bits .xor .u32 (bits .xor .u32 16842752 (n * 256)) 32))

set_option maxRecDepth 4000 in
set_option maxHeartbeats 1000000 in
theorem begin_any (n : Int) (w : World) (h0 : 0 ≤ n) (h1 : n ≤ 32) (hg : Reads w 0 .u32 8 ivL) (hz : 1 < w.heap.size) :
    Calls Tryd.prog 68 #[.int .i64 n] w fun e w' => e = .returned (.agg (arr .u32 (beginL n))) ∧ Below w.heap.size w w' := by
  go_enter Tryd.func68, Tryd.ntmps68
  go_wp2
  obtain ⟨N, hN⟩ : ∃ N, w.heap.size = N := ⟨_, rfl⟩
  have nB : Below w.heap.size w ((w.alloc (.cells #[.int .u32 0, .int .u32 0, .int .u32 0, .int .u32 0, .int .u32 0, .int .u32 0, .int .u32 0, .int .u32 0] 144)).alloc (.cells #[.int .u32 0, .int .u32 0, .int .u32 0, .int .u32 0, .int .u32 0, .int .u32 0, .int .u32 0, .int .u32 0] 144)) := ((Below.refl _ w).alloc (Nat.le_refl _) _).alloc (by simp) _
  have nH : Holds ((w.alloc (.cells #[.int .u32 0, .int .u32 0, .int .u32 0, .int .u32 0, .int .u32 0, .int .u32 0, .int .u32 0, .int .u32 0] 144)).alloc (.cells #[.int .u32 0, .int .u32 0, .int .u32 0, .int .u32 0, .int .u32 0, .int .u32 0, .int .u32 0, .int .u32 0] 144)) (w.alloc (.cells #[.int .u32 0, .int .u32 0, .int .u32 0, .int .u32 0, .int .u32 0, .int .u32 0, .int .u32 0, .int .u32 0] 144)).heap.size .u32 8 (List.replicate 8 0) := Holds.new (w.alloc (.cells #[.int .u32 0, .int .u32 0, .int .u32 0, .int .u32 0, .int .u32 0, .int .u32 0, .int .u32 0, .int .u32 0] 144)) .u32 144 8 (List.replicate 8 0) (by simp)
  have nR : Holds ((w.alloc (.cells #[.int .u32 0, .int .u32 0, .int .u32 0, .int .u32 0, .int .u32 0, .int .u32 0, .int .u32 0, .int .u32 0] 144)).alloc (.cells #[.int .u32 0, .int .u32 0, .int .u32 0, .int .u32 0, .int .u32 0, .int .u32 0, .int .u32 0, .int .u32 0] 144)) w.heap.size .u32 8 (List.replicate 8 0) := (Holds.new w .u32 144 8 (List.replicate 8 0) (by simp)).below ((Below.refl _ _).alloc (Nat.le_refl _) _) (by simp)
  have ng := hg.below nB (by omega)
  rw [World.size_alloc] at nH
  rw [hN] at nB nH nR hz ⊢
  obtain ⟨W0, hW0⟩ : ∃ W0, (w.alloc (.cells #[.int .u32 0, .int .u32 0, .int .u32 0, .int .u32 0, .int .u32 0, .int .u32 0, .int .u32 0, .int .u32 0] 144)).alloc (.cells #[.int .u32 0, .int .u32 0, .int .u32 0, .int .u32 0, .int .u32 0, .int .u32 0, .int .u32 0, .int .u32 0] 144) = W0 := ⟨_, rfl⟩
  rw [hW0] at nB nH nR ng ⊢
  have HN : Hid (w.heap.size = N) := hN
  clear hW0 hN hg
  go_loopw [5] (fun i wr => ∃ (k : Nat) (v : List Int), k ≤ 8 ∧ i = .int .i64 k ∧ Holds wr (N + 1) .u32 8 v ∧ (∀ j : Int, 0 ≤ j → j < k → gv v j = gv ivL j) ∧ Only (N + 1) W0 wr) (fun i _ => 8 - (intOf i).toNat)
  case atStart => exact ⟨0, _, by omega, rfl, nH, fun j h1 h2 => by omega, Only.refl _ _⟩
  case round =>
    obtain ⟨k, v, hk, rfl, hH, hv, hO⟩ := hrel
    have hg1 := ng.only hO (by omega)
    have hR := nR.only hO (by omega)
    have hb := nB.trans (hO.below (n := N) (by omega))
    have HV : Hid (∀ j : Int, 0 ≤ j → j < k → gv v j = gv ivL j) := hv
    clear hv ng nR nB nH
    by_cases hlt : k < 8
    · have c1 := hg1 k hlt
      have c2 := hH.cellN k hlt
      have f2 := hH.freeN k hlt
      go_wp2
      go_roundw
      case rel =>
        refine ⟨k + 1, _, by omega, by go_num, hH.setN k _ hlt, fun j j0 j1 => ?_, hO.set _ _⟩
        by_cases e : (k : Int) = j
        · subst e; rw [gv_pv_same _ _ _ (by omega) (by have := hH.len; omega)]
        · rw [gv_pv_other _ _ _ _ (by omega) j0 e]; exact HV.out j j0 (by omega)
      case measure => simp [intOf]; omega
    · obtain rfl : k = 8 := by omega
      obtain rfl : v = ivL := list_of_gv (by rw [hH.len]; rfl) (fun j j0 j1 => HV.out j j0 (by have e : (ivL.length : Int) = 8 := rfl; omega))
      clear HV hg1
      have c2 := hH.cellN 0 (by decide)
      have f2 := hH.freeN 0 (by decide)
      have hS : Holds (wr.setCell ⟨N + 1, 0, none⟩ (.int .u32 (bits .xor .u32 (gv ivL 0) (bits .xor .u32 (bits .xor .u32 16842752 (n * 256)) 32)))) (N + 1) .u32 8 (beginL n) := hH.setN 0 _ (by decide)
      have hR2 : Holds (wr.setCell ⟨N + 1, 0, none⟩ (.int .u32 (bits .xor .u32 (gv ivL 0) (bits .xor .u32 (bits .xor .u32 16842752 (n * 256)) 32)))) N .u32 8 (List.replicate 8 0) := hR.only ((Only.refl (N + 1) wr).set 0 _) (by omega)
      have hb2 : Below N w (wr.setCell ⟨N + 1, 0, none⟩ (.int .u32 (bits .xor .u32 (gv ivL 0) (bits .xor .u32 (bits .xor .u32 16842752 (n * 256)) 32)))) := hb.setCell (p := ⟨N + 1, 0, none⟩) (by show N ≤ N + 1; omega) _
      go_wp2_with (first | (refine wpList_load_holds rfl 144 _ rfl (N + 1) rfl .u32 8 (beginL n) _ (by exact hS) Tryd.underlying144 rfl Tryd.size45 ?_) | (refine wpList_store_holds rfl 144 _ _ rfl N .u32 8 (List.replicate 8 0) (beginL n) rfl rfl (by exact hR2) rfl Tryd.size45 ?_))
      exact bodyPost_ret (results_cell1 Tryd.results68 _ _ _ rfl (run_loadVar_holds (hR2.sets (beginL n) rfl) 144 _ Tryd.underlying144 rfl Tryd.size45)) rfl ⟨rfl, by rw [HN.out]; exact hb2.trans ((only_setCells N _ _ _).below (Nat.le_refl _))⟩
end Go.Proofs.YtihilkdokfdoeaaDoor
