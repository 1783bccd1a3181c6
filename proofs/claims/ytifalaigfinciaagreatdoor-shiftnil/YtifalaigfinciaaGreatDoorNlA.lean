/- Arrays of bytes, and a nil ring's tags: none. -/
import Derived.Test.YtifalaigfinciaaGreatDoorShY
import Derived.Deep.MidRow
import Derived.KernelRfl
namespace Go.Proofs.YtifalaigfinciaaGreatDoor
open Go.RowKit
attribute [local go_sem ↓] Go.wp_at_zero Go.wp_at_succ

/-- Nothing but block B has turned. -/
structure Only (B : Nat) (w w' : World) : Prop where
  os : w'.os = w.os
  tape : w'.tape = w.tape
  output : w'.output = w.output
  size : w'.heap.size = w.heap.size
  block : ∀ k, k ≠ B → w'.heap[k]? = w.heap[k]?
theorem Only.refl (B : Nat) (w : World) : Only B w w := ⟨rfl, rfl, rfl, rfl, fun _ _ => rfl⟩
theorem Only.trans {B : Nat} {a b c : World} (h : Only B a b) (k : Only B b c) : Only B a c :=
  ⟨k.os.trans h.os, k.tape.trans h.tape, k.output.trans h.output, k.size.trans h.size, fun i hi => (k.block i hi).trans (h.block i hi)⟩
theorem Only.drew {B : Nat} {a w : World} (h : Only B a w) : Only B a w.drew := ⟨h.os, h.tape, h.output, h.size, h.block⟩
theorem Only.set {B : Nat} {a w : World} (h : Only B a w) (i : Nat) (u : Value) : Only B a (w.setCell ⟨B, i, none⟩ u) :=
  h.trans ⟨rfl, rfl, rfl, by simp [World.setCell], fun k hk => Below.heap_setCell _ _ _ _ hk⟩
theorem Only.below {B n : Nat} {w w' : World} (h : Only B w w') (hn : n ≤ B) : Below n w w' :=
  ⟨h.os, h.tape, h.output, Nat.le_of_eq h.size.symm, fun k hk => h.block k (by omega)⟩
theorem Only.cell {B : Nat} {w w' : World} (h : Only B w w') {p : Addr} (hp : p.block ≠ B) : w'.cell? p = w.cell? p := World.cell?_of_block (w := w) (h.block p.block hp)
theorem Only.frozen {B : Nat} {w w' : World} (h : Only B w w') {p : Addr} (hp : p.block ≠ B) : w'.frozen? p = w.frozen? p := World.frozen?_of_block (w := w) (h.block p.block hp)

def gv (v : List Int) (i : Int) : Int := v.getD i.toNat 0
def pv (v : List Int) (i : Int) (x : Int) : List Int := v.set i.toNat x
theorem gv_pv_same (v : List Int) (i x : Int) (h0 : 0 ≤ i) (h1 : i < v.length) : gv (pv v i x) i = x := by
  unfold gv pv; simp; rw [List.getElem?_eq_getElem (by simp; omega)]; simp
theorem gv_pv_other (v : List Int) (i j x : Int) (h0 : 0 ≤ i) (hj : 0 ≤ j) (h : i ≠ j) : gv (pv v i x) j = gv v j := by
  unfold gv pv; simp [List.getElem?_set]; rw [if_neg (by omega)]

/-- Block B holds n words of kind k. -/
structure Holds (w : World) (B : Nat) (k : IntKind) (n : Nat) (v : List Int) : Prop where
  len : v.length = n
  cell : ∀ i : Int, 0 ≤ i → i < n → w.cell? ⟨B, i.toNat, none⟩ = some (.int k (gv v i))
  free : ∀ i : Int, 0 ≤ i → i < n → w.frozen? ⟨B, i.toNat, none⟩ = false
theorem Holds.drew {w : World} {B : Nat} {k : IntKind} {n : Nat} {v : List Int} (h : Holds w B k n v) : Holds w.drew B k n v := ⟨h.len, h.cell, h.free⟩
theorem Holds.set {w : World} {B : Nat} {k : IntKind} {n : Nat} {v : List Int} (h : Holds w B k n v) (i x : Int) (h0 : 0 ≤ i) (h1 : i < n) : Holds (w.setCell ⟨B, i.toNat, none⟩ (.int k x)) B k n (pv v i x) := by
  refine ⟨by unfold pv; simpa using h.len, fun j j0 j1 => ?_, fun j j0 j1 => ?_⟩
  · by_cases e : i = j
    · subst e
      rw [World.cell?_setCell_same _ _ _ (h.cell i h0 h1), gv_pv_same v i x h0 (by have := h.len; omega)]
    · rw [World.cell?_setCell_other _ _ _ _ (by intro hh; injection hh; omega), h.cell j j0 j1, gv_pv_other v i j x h0 j0 e]
  · rw [World.frozen?_setCell]; exact h.free j j0 j1
theorem Holds.only {w w' : World} {B C : Nat} {k : IntKind} {n : Nat} {v : List Int} (h : Holds w B k n v) (o : Only C w w') (hne : B ≠ C) : Holds w' B k n v :=
  ⟨h.len, fun i i0 i1 => (o.cell (p := ⟨B, i.toNat, none⟩) hne).trans (h.cell i i0 i1), fun i i0 i1 => (o.frozen (p := ⟨B, i.toNat, none⟩) hne).trans (h.free i i0 i1)⟩

theorem Holds.below {w w' : World} {n C m : Nat} {k : IntKind} {v : List Int} (h : Holds w C k m v) (o : Below n w w') (hC : C < n) : Holds w' C k m v :=
  ⟨h.len, fun i i0 i1 => (o.cell (p := ⟨C, i.toNat, none⟩) hC).trans (h.cell i i0 i1), fun i i0 i1 => (o.frozen (p := ⟨C, i.toNat, none⟩) hC).trans (h.free i i0 i1)⟩

def arr (k : IntKind) (v : List Int) : Array Value := (v.map (Value.int k)).toArray

theorem Holds.new (w : World) (k : IntKind) (t : TypeId) (n : Nat) (v : List Int) (hn : v.length = n) : Holds (w.alloc (.cells (arr k v) t)) w.heap.size k n v := by
  have hh : (w.alloc (.cells (arr k v) t)).heap[w.heap.size]? = some (.cells (arr k v) t) := heap_alloc_new w _
  refine ⟨hn, fun i i0 i1 => ?_, fun i i0 i1 => ?_⟩
  · unfold World.cell?
    simp only [hh]
    have hl : i.toNat < v.length := by omega
    simp [arr, gv, List.getElem?_eq_getElem hl]
  · unfold World.frozen?
    simp only [hh]
    simp
    try omega

theorem Holds.cellN {w : World} {B : Nat} {k : IntKind} {n : Nat} {v : List Int} (h : Holds w B k n v) (i : Nat) (hi : i < n) : w.cell? ⟨B, i, none⟩ = some (.int k (gv v i)) := by
  have := h.cell i (by omega) (by omega); simpa using this
theorem Holds.freeN {w : World} {B : Nat} {k : IntKind} {n : Nat} {v : List Int} (h : Holds w B k n v) (i : Nat) (hi : i < n) : w.frozen? ⟨B, i, none⟩ = false := by
  have := h.free i (by omega) (by omega); simpa using this
theorem Holds.setN {w : World} {B : Nat} {k : IntKind} {n : Nat} {v : List Int} (h : Holds w B k n v) (i : Nat) (x : Int) (hi : i < n) : Holds (w.setCell ⟨B, i, none⟩ (.int k x)) B k n (pv v i x) := by
  have := h.set i x (by omega) (by omega); simpa using this
theorem Holds.lt {w : World} {B : Nat} {k : IntKind} {n : Nat} {v : List Int} (h : Holds w B k n v) (hn : 0 < n) : B < w.heap.size := by
  have := h.cellN 0 hn
  unfold World.cell? at this
  by_cases hb : B < w.heap.size
  · exact hb
  · simp [Array.getElem?_eq_none (Nat.le_of_not_lt hb)] at this
def cellsOf (k : IntKind) (v : List Int) : List Value := v.map (Value.int k)
theorem arr_eq (k : IntKind) (v : List Int) : arr k v = (cellsOf k v).toArray := rfl
theorem cells_len (k : IntKind) (v : List Int) : (cellsOf k v).length = v.length := by simp [cellsOf]
theorem Holds.range {w : World} {B : Nat} {k : IntKind} {n : Nat} {v : List Int} (h : Holds w B k n v) : w.rangeAt B 0 (cellsOf k v) := by
  intro j x hx
  have hj : j < v.length := by
    by_cases hj : j < v.length
    · exact hj
    · simp [cellsOf, List.getElem?_eq_none (Nat.le_of_not_lt hj)] at hx
  have := h.cellN j (by have := h.len; omega)
  simp [cellsOf, List.getElem?_eq_getElem hj] at hx
  rw [Nat.zero_add, this, ← hx]
  simp [gv, List.getElem?_eq_getElem hj]
theorem Holds.there {w : World} {B : Nat} {k : IntKind} {n : Nat} {v : List Int} (h : Holds w B k n v) : w.there B 0 n := by
  intro j hj
  rw [Nat.zero_add, h.cellN j hj]
  exact ⟨rfl, h.freeN j hj⟩
theorem oneCells (k : IntKind) (v : List Int) : (cellsOf k v).toArray.all (·.oneCell') = true := by
  apply all_oneCell_toArray
  intro x hx
  simp [cellsOf] at hx
  obtain ⟨a, _, rfl⟩ := hx
  rfl
theorem only_setCells (B : Nat) : ∀ (vs : List Value) (o : Nat) (w : World), Only B w (w.setCells B o vs)
  | [], _, w => Only.refl B w
  | v :: r, o, w => ((Only.refl B w).set o v).trans (only_setCells B r (o + 1) _)
theorem Holds.sets {w : World} {B : Nat} {k : IntKind} {n : Nat} {v : List Int} (h : Holds w B k n v) (u : List Int) (hu : u.length = n) : Holds (w.setCells B 0 (cellsOf k u)) B k n u := by
  refine ⟨hu, fun i i0 i1 => ?_, fun i i0 i1 => ?_⟩
  · have hi : i.toNat < u.length := by omega
    have := World.cell?_setCells_in B (cellsOf k u) 0 w (fun j hj => by rw [Nat.zero_add, h.cellN j (by simp [cellsOf] at hj; omega)]; rfl) i.toNat (by rw [cells_len]; exact hi)
    rw [Nat.zero_add] at this
    rw [this]
    simp [cellsOf, gv, List.getElem?_eq_getElem hi]
  · rw [World.frozen?_setCells]; exact h.free i i0 i1
section
variable {P : Program}
theorem wpList_load_holds {ops : Array Oper} {rest : List Oper} {op : Oper} {a : Act} {w : World} {Q : Exit → Act → World → Prop} (hgd : op.guard = none) (ty : TypeId) (x : Operand) (ho : op.op = .load ty x)
    (B : Nat) (hx : a.eval x = .pointer (some ⟨B, 0, none⟩)) (k : IntKind) (n : Nat) (v : List Int) (d : TypeDesc) (hH : Holds w B k n v)
    (hu : P.underlying ty = some d) (hd : d.isRow = true) (hi : (P.info? ty).map (·.size) = some n)
    (h : wpList P ops Q rest (a.put op.dst (.agg (arr k v))) w) : wpList P ops Q (op :: rest) a w :=
  wpList_load_mid hgd ty x ho B 0 hx (cellsOf k v) d hH.range hu hd (by rw [hi, cells_len, hH.len]) h
theorem wpList_store_holds {ops : Array Oper} {rest : List Oper} {op : Oper} {a : Act} {w : World} {Q : Exit → Act → World → Prop} (hgd : op.guard = none) (ty : TypeId) (x y : Operand) (ho : op.op = .store ty x y)
    (B : Nat) (k : IntKind) (n : Nat) (v u : List Int) (hx : a.eval x = .pointer (some ⟨B, 0, none⟩)) (hy : a.eval y = .agg (arr k u)) (hH : Holds w B k n v) (hu : u.length = n)
    (hi : (P.info? ty).map (·.size) = some n)
    (h : wpList P ops Q rest (a.put op.dst undef) (w.setCells B 0 (cellsOf k u))) : wpList P ops Q (op :: rest) a w :=
  wpList_store_mid hgd ty x y ho B 0 (arr k u) hx hy (by have := hH.there; simpa [arr, hu] using this) (by rw [hi]; simp [arr, hu]) (oneCells k u) (by simpa [arr, cellsOf] using h)
theorem run_loadVar_holds {w : World} {B : Nat} {k : IntKind} {n : Nat} {v : List Int} (hH : Holds w B k n v) (ty : TypeId) (d : TypeDesc)
    (hu : P.underlying ty = some d) (hd : d.isRow = true) (hi : (P.info? ty).map (·.size) = some n) : (loadVar ty ⟨B, 0, none⟩).run P w = .ok (.agg (arr k v)) w :=
  run_loadVar_mid w B 0 ty (cellsOf k v) d hH.range hu hd (by rw [hi, cells_len, hH.len])
end

def zeroT : List Int := List.replicate 16 0
theorem Tryz.size98 : (Tryz.prog.info? 98).map (·.size) = some 16 := by kernel_rfl
theorem results_cell_tmp {fn : Func} {p q : Tmp} {ty : TypeId} (h : fn.results = #[.cell p ty, .tmp q]) (tmps : Array Value) (P : Program) (w : World) {a : Addr} (ha : tmps[p]?.getD undef = .pointer (some a)) {x y : Value} (hy : tmps[q]?.getD undef = y) (hl : (loadVar ty a).run P w = .ok x w) :
    (results fn tmps).run P w = .ok (.tuple #[x, y]) w := by
  simp only [results, h]
  simp [ha, hy, asAddr, hl]
theorem arr_zero : arr .u8 zeroT = #[.int .u8 0, .int .u8 0, .int .u8 0, .int .u8 0, .int .u8 0, .int .u8 0, .int .u8 0, .int .u8 0, .int .u8 0, .int .u8 0, .int .u8 0, .int .u8 0, .int .u8 0, .int .u8 0, .int .u8 0, .int .u8 0] := rfl
/-- Is it a party? -/
abbrev isP (g n : Int) : Prop := -1 ≤ g ∧ g ≤ 4 ∧ 0 ≤ n ∧ n ≤ 15
/-- A party's name. -/
def nameL (g n : Int) : List UInt8 := packL [Lib.itoa g, Lib.itoa n]
def nameV (g n : Int) : List UInt8 := if isP g n then nameL g n else []
def nameE (g n : Int) : Int := if isP g n then 0 else 1
theorem name_tot {g n : Int} (h : isP g n) : tot [Lib.itoa g, Lib.itoa n] ≤ 6 := by
  have h1 := itoa_len2 g (by omega) (by omega)
  have h2 := itoa_len2 n (by omega) (by omega)
  simp [tot]; omega

set_option maxHeartbeats 1000000 in
set_option maxRecDepth 20000 in
theorem Name_any (g n : Int) (w : World) (he : EnvP w) :
    Calls Tryz.prog 46 #[.agg #[.int .i64 g, .int .i64 n]] w fun e W' => e = .returned (.tuple #[.string (bs (nameV g n)), .int .i64 (nameE g n)]) ∧ Below w.heap.size w W' := by
  by_cases hp : isP g n
  · have e1 : nameV g n = nameL g n := if_pos hp
    have e2 : nameE g n = 0 := if_pos hp
    have ht := name_tot hp
    rw [e1, e2, nameL]
    clear e1 e2
    obtain ⟨h1, h2, h3, h4⟩ := hp
    go_enter Tryz.func46, Tryz.ntmps46
    have hb0 : Below w.heap.size w (w.alloc (.cells #[.int .i64 g, .int .i64 n] 94)) := (Below.refl _ w).alloc (Nat.le_refl _) _
    have he0 := (he.next hb0)
    have he0d : EnvP (w.alloc (.cells #[.int .i64 g, .int .i64 n] 94)).drew := ⟨he0.pow, he0.size⟩
    have hb0d : Below w.heap.size w (w.alloc (.cells #[.int .i64 g, .int .i64 n] 94)).drew := ⟨hb0.os, hb0.tape, hb0.output, hb0.size, hb0.block⟩
    have hc0 : (w.alloc (.cells #[.int .i64 g, .int .i64 n] 94)).drew.cell? ⟨w.heap.size, 1, none⟩ = some (.int .i64 n) := by
      have hh := heap_alloc_new w (.cells #[.int .i64 g, .int .i64 n] 94)
      show (w.alloc (.cells #[.int .i64 g, .int .i64 n] 94)).cell? ⟨w.heap.size, 1, none⟩ = _
      unfold World.cell?
      simp only [hh]
      rfl
    have hl0 : w.heap.size < (w.alloc (.cells #[.int .i64 g, .int .i64 n] 94)).drew.heap.size := by show w.heap.size < (w.alloc _).heap.size; simp
    go_wp2_with fail
    go_region_with (first
      | (go_at_call 22; refine (Num_any g _ (by omega) (by omega) he0d).mono ?_; rintro e w1 ⟨rfl, hb1⟩; have hcn := (hb1.cell (p := ⟨w.heap.size, 1, none⟩) hl0).trans hc0; have he1 := he0d.next hb1; have hB1 := hb0d.trans (hb1.mono hb0d.size))
      | (go_at_call 22; refine (Num_any n _ (by omega) (by omega) he1).mono ?_; rintro e w2 ⟨rfl, hb2⟩; have hb3 := hb2.trans ((Below.refl w1.heap.size w2).alloc hb2.size (.cells #[.string (bs (Lib.itoa g)), .string (bs (Lib.itoa n))] 9)); have he3 := he1.next hb3; have hB3 := hB1.trans (hb3.mono hB1.size))
      | (go_at_call 18; refine (Pack_any [Lib.itoa g, Lib.itoa n] _ _ (Nat.le_trans ht (by decide)) (by simp) he3 (Sl_built w2 _ _)).mono ?_; rintro e w4 ⟨rfl, hb4⟩; have hB4 := hB3.trans (hb4.mono hB3.size)))
    all_goals (go_wp2; go_ret2; exact ⟨rfl, hB4⟩)
  · have e1 : nameV g n = [] := if_neg hp
    have e2 : nameE g n = 1 := if_neg hp
    rw [e1, e2]
    go_enter Tryz.func46, Tryz.ntmps46
    have hb0 : Below w.heap.size w (w.alloc (.cells #[.int .i64 g, .int .i64 n] 94)) := (Below.refl _ w).alloc (Nat.le_refl _) _
    by_cases c1 : g < -1
    · go_wp2
      go_ret2
      exact ⟨rfl, hb0⟩
    by_cases c2 : 4 < g
    · go_wp2
      go_ret2
      exact ⟨rfl, hb0⟩
    by_cases c3 : n < 0
    · go_wp2
      go_ret2
      exact ⟨rfl, hb0⟩
    have c4 : 15 < n := by
      apply Int.not_le.1
      intro h
      exact hp ⟨by omega, by omega, by omega, by omega⟩
    go_wp2
    go_ret2
    exact ⟨rfl, hb0⟩
set_option maxRecDepth 20000 in
set_option maxHeartbeats 2000000 in
theorem tagOf_nil (g n : Int) (t : List UInt8) (w : World) (he : EnvP w) (hp : isP g n) :
    Calls Tryz.prog 39 #[.pointer none, .agg #[.int .i64 g, .int .i64 n], .string (bs t)] w fun e W' => e = .returned (.tuple #[.agg (arr .u8 zeroT), .int .i64 7]) ∧ Below w.heap.size w W' := by
  have hb1 : Below w.heap.size w (w.alloc (.cells #[.int .i64 g, .int .i64 n] 94)) := (Below.refl _ w).alloc (Nat.le_refl _) _
  have hb2 := hb1.alloc hb1.size (.cells #[.int .u8 0, .int .u8 0, .int .u8 0, .int .u8 0, .int .u8 0, .int .u8 0, .int .u8 0, .int .u8 0, .int .u8 0, .int .u8 0, .int .u8 0, .int .u8 0, .int .u8 0, .int .u8 0, .int .u8 0, .int .u8 0] 98)
  have hH : Holds ((w.alloc (.cells #[.int .i64 g, .int .i64 n] 94)).alloc (.cells #[.int .u8 0, .int .u8 0, .int .u8 0, .int .u8 0, .int .u8 0, .int .u8 0, .int .u8 0, .int .u8 0, .int .u8 0, .int .u8 0, .int .u8 0, .int .u8 0, .int .u8 0, .int .u8 0, .int .u8 0, .int .u8 0] 98)) (w.heap.size + 1) .u8 16 zeroT := by
    have h := Holds.new (w.alloc (.cells #[.int .i64 g, .int .i64 n] 94)) .u8 98 16 zeroT rfl
    rw [World.size_alloc] at h
    exact h
  have hN := Name_any g n ((w.alloc (.cells #[.int .i64 g, .int .i64 n] 94)).alloc (.cells #[.int .u8 0, .int .u8 0, .int .u8 0, .int .u8 0, .int .u8 0, .int .u8 0, .int .u8 0, .int .u8 0, .int .u8 0, .int .u8 0, .int .u8 0, .int .u8 0, .int .u8 0, .int .u8 0, .int .u8 0, .int .u8 0] 98)) (he.next hb2)
  rw [show nameE g n = 0 from if_pos hp, show nameV g n = nameL g n from if_pos hp] at hN
  obtain ⟨NM, hNM⟩ : ∃ NM, nameL g n = NM := ⟨_, rfl⟩
  rw [hNM] at hN
  clear hNM hp
  go_enter Tryz.func39, Tryz.ntmps39
  go_wp2_with fail
  refine hN.mono ?_
  rintro e w1 ⟨rfl, hb3⟩
  have hB1 := hb2.trans (hb3.mono hb2.size)
  have hH1 := hH.below hb3 (by simp)
  clear hN
  go_wp2_with (first | (refine wpList_store_holds rfl 98 _ _ rfl (w.heap.size + 1) .u8 16 zeroT zeroT rfl rfl hH1 rfl Tryz.size98 ?_))
  exact bodyPost_ret (results_cell_tmp rfl _ _ _ rfl rfl (run_loadVar_holds (hH1.sets zeroT rfl) 98 _ Tryz.underlying98 rfl Tryz.size98)) rfl ⟨rfl, hB1.trans ((only_setCells (w.heap.size + 1) _ _ _).below (Nat.le_succ _))⟩

end Go.Proofs.YtifalaigfinciaaGreatDoor
