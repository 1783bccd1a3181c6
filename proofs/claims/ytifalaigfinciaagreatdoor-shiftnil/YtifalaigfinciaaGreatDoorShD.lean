/- Best orders and changes as they lie in memory; the orders one by one. -/
import Derived.Test.YtifalaigfinciaaGreatDoorShC
import Derived.Test.YtifalaigfinciaaGreatDoorShP
namespace Go.Proofs.YtifalaigfinciaaGreatDoor
open Go.RowKit Go.Shelf
attribute [local go_sem] Oper.semAt_some

/-- v is a slice of just these best orders, five cells each, in a block below n. -/
def Bl (n : Nat) (w : World) (v : Value) (l : List Bv) : Prop :=
  (l = [] ∧ ∃ a c, v = .slice a 0 c) ∨ ∃ b o cap, v = .slice (some ⟨b, o, none⟩) l.length cap ∧ b < n ∧ ∀ (i : Nat) x, l[i]? = some x → w.cell? ⟨b, o + i * 5, none⟩ = some (.int .i64 x.n) ∧ w.cell? ⟨b, o + i * 5 + 1, none⟩ = some (.int .i64 x.v) ∧ w.cell? ⟨b, o + i * 5 + 2, none⟩ = some (.string (bs x.t)) ∧ w.cell? ⟨b, o + i * 5 + 3, none⟩ = some (.int .i64 x.g) ∧ w.cell? ⟨b, o + i * 5 + 4, none⟩ = some (.slice x.ta x.tn x.tc)
theorem Bl.below {n m : Nat} {w w' : World} {v : Value} {l : List Bv} (h : Bl n w v l) (hb : Below m w w') (hm : n ≤ m) : Bl n w' v l := by
  rcases h with h | ⟨b, o, cap, rfl, hlt, h⟩
  · exact .inl h
  · refine .inr ⟨b, o, cap, rfl, hlt, fun i x hx => ?_⟩
    obtain ⟨h0, h1, h2, h3, h4⟩ := h i x hx
    have hl : b < m := by omega
    exact ⟨(hb.cell (p := ⟨b, o + i * 5, none⟩) hl).trans h0, (hb.cell (p := ⟨b, o + i * 5 + 1, none⟩) hl).trans h1, (hb.cell (p := ⟨b, o + i * 5 + 2, none⟩) hl).trans h2, (hb.cell (p := ⟨b, o + i * 5 + 3, none⟩) hl).trans h3, (hb.cell (p := ⟨b, o + i * 5 + 4, none⟩) hl).trans h4⟩
theorem Bl.mono {n m : Nat} {w : World} {v : Value} {l : List Bv} (h : Bl n w v l) (hm : n ≤ m) : Bl m w v l := by
  rcases h with h | ⟨b, o, cap, rfl, hlt, h⟩
  · exact .inl h
  · exact .inr ⟨b, o, cap, rfl, by omega, h⟩
theorem Bl.slice {n : Nat} {w : World} {v : Value} {l : List Bv} (h : Bl n w v l) : ∃ a c, v = .slice a l.length c := by
  rcases h with ⟨rfl, a, c, rfl⟩ | ⟨b, o, cap, rfl, _⟩
  · exact ⟨a, c, rfl⟩
  · exact ⟨_, _, rfl⟩
/-- v is a slice of just these changes, six cells each, in a block below n, and so are their best orders. -/
def Cl (n : Nat) (w : World) (v : Value) (l : List Cv) : Prop :=
  (l = [] ∧ ∃ a c, v = .slice a 0 c) ∨ ∃ b o cap, v = .slice (some ⟨b, o, none⟩) l.length cap ∧ b < n ∧ ∀ (i : Nat) x, l[i]? = some x → (w.cell? ⟨b, o + i * 6, none⟩ = some (.int .i64 x.v) ∧ w.cell? ⟨b, o + i * 6 + 1, none⟩ = some (.int .i64 x.low) ∧ w.cell? ⟨b, o + i * 6 + 2, none⟩ = some (.string (bs x.mt)) ∧ w.cell? ⟨b, o + i * 6 + 3, none⟩ = some (.int .i64 x.mg) ∧ w.cell? ⟨b, o + i * 6 + 4, none⟩ = some (.slice x.ma x.mn x.mc) ∧ w.cell? ⟨b, o + i * 6 + 5, none⟩ = some x.bv) ∧ Bl n w x.bv x.bl
theorem Cl.below {n m : Nat} {w w' : World} {v : Value} {l : List Cv} (h : Cl n w v l) (hb : Below m w w') (hm : n ≤ m) : Cl n w' v l := by
  rcases h with h | ⟨b, o, cap, rfl, hlt, h⟩
  · exact .inl h
  · refine .inr ⟨b, o, cap, rfl, hlt, fun i x hx => ?_⟩
    obtain ⟨⟨h0, h1, h2, h3, h4, h5⟩, h6⟩ := h i x hx
    have hl : b < m := by omega
    exact ⟨⟨(hb.cell (p := ⟨b, o + i * 6, none⟩) hl).trans h0, (hb.cell (p := ⟨b, o + i * 6 + 1, none⟩) hl).trans h1, (hb.cell (p := ⟨b, o + i * 6 + 2, none⟩) hl).trans h2, (hb.cell (p := ⟨b, o + i * 6 + 3, none⟩) hl).trans h3, (hb.cell (p := ⟨b, o + i * 6 + 4, none⟩) hl).trans h4, (hb.cell (p := ⟨b, o + i * 6 + 5, none⟩) hl).trans h5⟩, h6.below hb hm⟩
theorem Cl.mono {n m : Nat} {w : World} {v : Value} {l : List Cv} (h : Cl n w v l) (hm : n ≤ m) : Cl m w v l := by
  rcases h with h | ⟨b, o, cap, rfl, hlt, h⟩
  · exact .inl h
  · exact .inr ⟨b, o, cap, rfl, by omega, fun i x hx => ⟨(h i x hx).1, (h i x hx).2.mono hm⟩⟩
theorem Cl.slice {n : Nat} {w : World} {v : Value} {l : List Cv} (h : Cl n w v l) : ∃ a c, v = .slice a l.length c := by
  rcases h with ⟨rfl, a, c, rfl⟩ | ⟨b, o, cap, rfl, _⟩
  · exact ⟨a, c, rfl⟩
  · exact ⟨_, _, rfl⟩
theorem Bl.cells {n : Nat} {w : World} {a : Option Addr} {cap : Nat} {l : List Bv} (h : Bl n w (.slice a l.length cap) l) {k : Nat} {x : Bv} (hx : l[k]? = some x) : ∃ b o, a = some ⟨b, o, none⟩ ∧ b < n ∧ w.cell? ⟨b, o + k * 5, none⟩ = some (.int .i64 x.n) ∧ w.cell? ⟨b, o + k * 5 + 1, none⟩ = some (.int .i64 x.v) ∧ w.cell? ⟨b, o + k * 5 + 2, none⟩ = some (.string (bs x.t)) ∧ w.cell? ⟨b, o + k * 5 + 3, none⟩ = some (.int .i64 x.g) ∧ w.cell? ⟨b, o + k * 5 + 4, none⟩ = some (.slice x.ta x.tn x.tc) := by
  rcases h with ⟨rfl, _⟩ | ⟨b, o, cap', h1, hlt, h⟩
  · cases hx
  · injection h1 with h1
    exact ⟨b, o, h1, hlt, h k x hx⟩
theorem Cl.cells {n : Nat} {w : World} {a : Option Addr} {cap : Nat} {l : List Cv} (h : Cl n w (.slice a l.length cap) l) {k : Nat} {x : Cv} (hx : l[k]? = some x) : ∃ b o, a = some ⟨b, o, none⟩ ∧ b < n ∧ (w.cell? ⟨b, o + k * 6, none⟩ = some (.int .i64 x.v) ∧ w.cell? ⟨b, o + k * 6 + 1, none⟩ = some (.int .i64 x.low) ∧ w.cell? ⟨b, o + k * 6 + 2, none⟩ = some (.string (bs x.mt)) ∧ w.cell? ⟨b, o + k * 6 + 3, none⟩ = some (.int .i64 x.mg) ∧ w.cell? ⟨b, o + k * 6 + 4, none⟩ = some (.slice x.ma x.mn x.mc) ∧ w.cell? ⟨b, o + k * 6 + 5, none⟩ = some x.bv) ∧ Bl n w x.bv x.bl := by
  rcases h with ⟨rfl, _⟩ | ⟨b, o, cap', h1, hlt, h⟩
  · cases hx
  · injection h1 with h1
    exact ⟨b, o, h1, hlt, h k x hx⟩
theorem allB_take {L : List Cv} {k : Nat} {c : Cv} (h : L[k]? = some c) : allB (L.take (k + 1)) = allB (L.take k) ++ c.bl := by
  unfold allB
  rw [List.take_add_one, h]
  simp
theorem allB_lt {L : List Cv} {k : Nat} {c : Cv} (h : L[k]? = some c) {j : Nat} (hj : j < c.bl.length) : (allB (L.take k) ++ c.bl.take j).length < (allB L).length := by
  have hk := (List.getElem?_eq_some_iff.1 h).1
  have e : allB L = allB (L.take (k + 1)) ++ allB (L.drop (k + 1)) := by
    unfold allB
    rw [← List.flatMap_append, List.take_append_drop]
  rw [e, allB_take h]
  simp only [List.length_append, List.length_take]
  omega
/-- What a round gets. -/
abbrev encB (x : Bv) : Array Value := #[.agg #[.int .i64 x.n, .int .i64 x.v, .string (bs x.t), .int .i64 x.g, .slice x.ta x.tn x.tc]]

set_option maxRecDepth 100000 in
set_option maxHeartbeats 1000000 in
theorem bests1_in (n : Nat) (hn : 1 ≤ n) (l Bn n₀ : Nat) (L : List Cv) (v : Value) (hL : L.length ≤ 1000) (hbl : ∀ c ∈ L, c.bl.length ≤ 1000) (J Jx : List Bv → World → Prop) (W : World)
    (hn0 : n₀ ≤ W.heap.size) (hJ : AbidesFrom W.heap.size J)
    (hY : ∀ pre x W1, J pre W1 → pre.length < (allB L).length → YieldAt Fence.wide (n - 1) Tryz.prog l (encB x) W1 fun e W' =>
      (e = .returned (.bool true) ∧ J (pre ++ [x]) W' ∧ Below n₀ W1 W') ∨ (e = .returned (.bool false) ∧ Jx (pre ++ [x]) W'))
    (hBn : W.cell? ⟨Bn, 0, none⟩ = some v) (hv : Cl n₀ W v L) (h0 : J [] W) :
    CallsIn Fence.wide n Tryz.prog 37 #[.func (.yield l) #[] #[], .pointer (some ⟨Bn, 0, none⟩)] W fun e W' => (∃ v, e = .returned v) ∧
      ((∃ ys : List Bv, ys = allB L ∧ J ys W') ∨ (∃ pre : List Bv, True ∧ Jx pre W')) := by
  obtain ⟨va, vc, rfl⟩ := hv.slice
  refine callsIn_of_wp Tryz.func37 rfl trivial ?_ rfl
  simp only [Tryz.ntmps37, List.size_toArray, List.length_cons, List.length_nil, Nat.reduceAdd, Nat.reduceSub, Array.replicate_succ, Array.replicate_zero, List.push_toArray, List.append_toArray, List.nil_append, List.cons_append]
  gi_wp2
  gi_loopw [9] (fun p wr => ∃ k : Nat, p = .int .i64 k ∧ k ≤ L.length ∧ J (allB (L.take k)) wr ∧ Below n₀ W wr)
    (fun p _ => L.length - (intOf p).toNat)
  case atStart =>
    exact ⟨0, rfl, Nat.zero_le _, h0, Below.refl _ _⟩
  case round =>
    obtain ⟨k, rfl, hk, hJs, hB⟩ := hrel
    by_cases hk1 : k = L.length
    · subst hk1
      rw [List.take_length] at hJs
      gi_wp2
      go_end0
      exact ⟨⟨_, rfl⟩, .inl ⟨_, rfl, hJs⟩⟩
    · have hk2 : k < L.length := by omega
      obtain ⟨c, hc⟩ : ∃ c, L[k]? = some c := ⟨_, List.getElem?_eq_getElem hk2⟩
      have hcm := hbl c (List.mem_of_getElem? hc)
      obtain ⟨vb, vo, rfl, hvl, ⟨c0, c1, c2, c3, c4, c5⟩, hbv⟩ := (hv.below hB (Nat.le_refl _)).cells hc
      have hlt := fun j hj => allB_lt hc (j := j) hj
      have htk := allB_take hc
      obtain ⟨cv, clow, cmt, cmg, cma, cmn, cmc, cbv, cbl⟩ := c
      simp only at c0 c1 c2 c3 c4 c5 hbv hcm hlt htk
      obtain ⟨ba, bc, rfl⟩ := hbv.slice
      have hJ1 := hJ _ wr (wr.alloc (.cells #[.int .i64 cv, .int .i64 clow, .string (bs cmt), .int .i64 cmg, .slice cma cmn cmc, .slice ba cbl.length bc] 27)) none hJs (grown_of_below ((Below.refl _ wr).alloc (Nat.le_refl _) _)) (fun r e => by cases e)
      have hB1 : Below n₀ W (wr.alloc (.cells #[.int .i64 cv, .int .i64 clow, .string (bs cmt), .int .i64 cmg, .slice cma cmn cmc, .slice ba cbl.length bc] 27)) := hB.alloc (Nat.le_trans hn0 hB.size) _
      clear hJs
      gi_wp2
      gi_loopw [16] (fun p wr => ∃ j : Nat, p = .int .i64 j ∧ j ≤ cbl.length ∧ J (allB (L.take k) ++ cbl.take j) wr ∧ Below n₀ W wr)
        (fun p _ => cbl.length - (intOf p).toNat)
      case atStart => exact ⟨0, rfl, Nat.zero_le _, by simpa using hJ1, hB1⟩
      case round =>
        obtain ⟨j, rfl, hj, hJs, hB2⟩ := hrel
        by_cases hj1 : j = cbl.length
        · subst hj1
          rw [List.take_length, ← htk] at hJs
          gi_wp2
          go_roundw
          case rel => exact ⟨k + 1, by go_num, hk2, hJs, hB2⟩
          case measure => simp [intOf]; omega
        · have hj2 : j < cbl.length := by omega
          obtain ⟨x, hx⟩ : ∃ x, cbl[j]? = some x := ⟨_, List.getElem?_eq_getElem hj2⟩
          have hbv2 : Bl n₀ wr (.slice ba cbl.length bc) cbl := by
            obtain ⟨_, _, _, _, _, h⟩ := (hv.below hB2 (Nat.le_refl _)).cells hc
            exact h
          obtain ⟨vb2, vo2, rfl, hvl2, d0, d1, d2, d3, d4⟩ := hbv2.cells hx
          have hln := hlt j hj2
          have htj : cbl.take (j + 1) = cbl.take j ++ [x] := by rw [List.take_add_one, hx]; rfl
          have hJ2 := hJ _ wr (wr.alloc (.cells #[.int .i64 x.n, .int .i64 x.v, .string (bs x.t), .int .i64 x.g, .slice x.ta x.tn x.tc] 34)) none hJs (grown_of_below ((Below.refl _ wr).alloc (Nat.le_refl _) _)) (fun r e => by cases e)
          have hB3 : Below n₀ W (wr.alloc (.cells #[.int .i64 x.n, .int .i64 x.v, .string (bs x.t), .int .i64 x.g, .slice x.ta x.tn x.tc] 34)) := hB2.alloc (Nat.le_trans hn0 hB2.size) _
          obtain ⟨fn, tmps, assign, body, hy, hR⟩ := hY _ x _ hJ2 hln
          dsimp only [encB] at hy
          gi_wp2
          refine hR.mono ?_
          rintro e W3 (⟨rfl, hJ3, hk3⟩ | ⟨rfl, hJx3⟩)
          · gi_wp2
            go_roundw
            case rel => exact ⟨j + 1, by go_num, hj2, by rw [htj, ← List.append_assoc]; exact hJ3, hB3.trans hk3⟩
            case measure => simp [intOf]; omega
          · gi_wp2
            refine bodyPost_ret (results_none rfl _ _ _) rfl ?_
            exact ⟨⟨_, rfl⟩, .inr ⟨_, trivial, hJx3⟩⟩

theorem bests_any (v : Value) (a : Option Addr) (m c : Nat) (hv : v = .slice a m c) (w : World) :
    Calls Tryz.prog 23 #[v] w fun e w' => e = .returned (.func (.func 37) #[] #[.pointer (some ⟨w.heap.size, 0, none⟩)]) ∧ w' = w.alloc (.cells #[v] 40) := by
  subst hv
  go_enter Tryz.func23, Tryz.ntmps23
  go_wp2
  go_ret
  exact ⟨rfl, rfl⟩
/-- The function that bests hands back, as a loop takes it. -/
theorem bests_stops (n : Nat) (hn : 1 ≤ n) (Bn n₀ : Nat) (L : List Cv) (v : Value) (hL : L.length ≤ 1000) (hbl : ∀ c ∈ L, c.bl.length ≤ 1000) (w : World) (hBn : Bn < w.heap.size) (hn0 : n₀ ≤ w.heap.size)
    (hc : w.cell? ⟨Bn, 0, none⟩ = some v) (hv : Cl n₀ w v L) :
    SeqStopsK Fence.wide n Tryz.prog 37 #[.pointer (some ⟨Bn, 0, none⟩)] encB (Below n₀) (fun ys => ys = allB L) (fun _ => True) (allB L).length w := fun l J Jx W hW hJ _ hY h0 =>
  bests1_in n hn l Bn n₀ L v hL hbl J Jx W (Nat.le_trans hn0 hW.size) hJ hY ((hW.cell (p := ⟨Bn, 0, none⟩) hBn).trans hc) (hv.below hW hn0) h0

/-- What keeps a box. -/
def KpB (B : Nat) (W W' : World) : Prop := ∀ v, Boxed W B 3 v → Boxed W' B 3 v
theorem kpB_t {B : Nat} {X Y Z : World} (h : KpB B X Y) (k : KpB B Y Z) : KpB B X Z := fun v hv => k v (h v hv)
theorem kpB_b {B : Nat} {w : World} (hB : B < w.heap.size) (W : World) (l : Nat) (o o' : Obj) (hl : w.heap.size ≤ l) (_ : W.heap[l]? = some o) (_ : o.isCells = false) (_ : o.isWalk = false) : KpB B W (W.putObj l o') := fun _ hv =>
  hv.kept (grownBy_putObj' W l o') (by simp; omega)
theorem kpB_below {B : Nat} {W W' : World} {n : Nat} (h : Below n W W') (hB : B < n) : KpB B W W' := fun _ hv => (h.block B hB).trans hv

abbrev encI (x : Int) : Array Value := #[.int .i64 x]
theorem numsL_take (a b : Int) (k : Nat) (h : a + 1 + (k : Int) ≤ b) : (numsL a b).take (k + 1) = (numsL a b).take k ++ [a + 1 + (k : Int)] := by
  rw [List.take_add_one]
  congr 1
  have : k < (b - a).toNat := by omega
  simp [numsL, this]
theorem numsL_len (a b : Int) : (numsL a b).length = (b - a).toNat := by simp [numsL]

set_option maxRecDepth 100000 in
set_option maxHeartbeats 1000000 in
theorem numbers1_in (n : Nat) (hn : 1 ≤ n) (l Ba Bb : Nat) (a b : Int) (ha : 0 ≤ a) (ha2 : a ≤ 1099511627776) (hb : b ≤ 2000000000000) (J Jx : List Int → World → Prop) (W : World)
    (hY : ∀ pre x W1, J pre W1 → pre.length < (numsL a b).length → YieldAt Fence.wide (n - 1) Tryz.prog l (encI x) W1 fun e W' =>
      (e = .returned (.bool true) ∧ J (pre ++ [x]) W' ∧ KpB Bb W1 W') ∨ (e = .returned (.bool false) ∧ Jx (pre ++ [x]) W'))
    (hBa : Boxed W Ba 3 (.int .i64 a)) (hBb : Boxed W Bb 3 (.int .i64 b)) (h0 : J [] W) :
    CallsIn Fence.wide n Tryz.prog 24 #[.func (.yield l) #[] #[], .pointer (some ⟨Ba, 0, none⟩), .pointer (some ⟨Bb, 0, none⟩)] W fun e W' => (∃ v, e = .returned v) ∧
      ((∃ ys : List Int, ys = numsL a b ∧ J ys W') ∨ (∃ pre : List Int, True ∧ Jx pre W')) := by
  have hc0 := hBa.cell
  refine callsIn_of_wp Tryz.func24 rfl trivial ?_ rfl
  simp only [Tryz.ntmps24, List.size_toArray, List.length_cons, List.length_nil, Nat.reduceAdd, Nat.reduceSub, Array.replicate_succ, Array.replicate_zero, List.push_toArray, List.append_toArray, List.nil_append, List.cons_append]
  gi_wp2
  gi_loopw [4] (fun p wr => ∃ k : Nat, p = .int .i64 (a + 1 + k) ∧ k ≤ (numsL a b).length ∧ J ((numsL a b).take k) wr ∧ Boxed wr Bb 3 (.int .i64 b))
    (fun p _ => (b + 1 - intOf p).toNat)
  case atStart =>
    exact ⟨0, by go_num, Nat.zero_le _, h0, hBb⟩
  case round =>
    obtain ⟨k, rfl, hk, hJs, hBx⟩ := hrel
    rw [numsL_len] at hk
    have hcb := hBx.cell
    by_cases hk1 : a + 1 + (k : Int) ≤ b
    · have hlen : ((numsL a b).take k).length < (numsL a b).length := by rw [List.length_take, numsL_len]; omega
      obtain ⟨fn, tmps, assign, body, hy, hR⟩ := hY _ (a + 1 + (k : Int)) _ hJs hlen
      dsimp only [encI] at hy
      gi_wp2
      refine hR.mono ?_
      rintro e W3 (⟨rfl, hJ3, hk3⟩ | ⟨rfl, hJx3⟩)
      · gi_wp2
        go_roundw
        case rel => exact ⟨k + 1, by go_num, by rw [numsL_len]; omega, by rw [numsL_take a b k hk1]; exact hJ3, hk3 _ hBx⟩
        case measure => simp [intOf]; omega
      · gi_wp2
        refine bodyPost_ret (results_none rfl _ _ _) rfl ?_
        exact ⟨⟨_, rfl⟩, .inr ⟨_, trivial, hJx3⟩⟩
    · have hk2 : b < a + 1 + (k : Int) := by omega
      have hkl : k = (numsL a b).length ∨ (numsL a b).length ≤ k := by rw [numsL_len]; omega
      have hall : (numsL a b).take k = numsL a b := List.take_of_length_le (by rcases hkl with h | h <;> omega)
      rw [hall] at hJs
      gi_wp2
      go_end0
      exact ⟨⟨_, rfl⟩, .inl hJs⟩

theorem numbers_any (a b : Int) (w : World) :
    Calls Tryz.prog 15 #[.int .i64 a, .int .i64 b] w fun e w' => e = .returned (.func (.func 24) #[] #[.pointer (some ⟨w.heap.size, 0, none⟩), .pointer (some ⟨w.heap.size + 1, 0, none⟩)]) ∧ w' = (w.alloc (.cells #[.int .i64 a] 3)).alloc (.cells #[.int .i64 b] 3) := by
  go_enter Tryz.func15, Tryz.ntmps15
  go_wp2
  go_ret
  exact ⟨rfl, rfl⟩
theorem numbers_stops (n : Nat) (hn : 1 ≤ n) (Ba Bb : Nat) (a b : Int) (ha : 0 ≤ a) (ha2 : a ≤ 1099511627776) (hb : b ≤ 2000000000000) (w : World) (hla : Ba < w.heap.size) (hlb : Bb < w.heap.size)
    (hBa : Boxed w Ba 3 (.int .i64 a)) (hBb : Boxed w Bb 3 (.int .i64 b)) :
    SeqStopsK Fence.wide n Tryz.prog 24 #[.pointer (some ⟨Ba, 0, none⟩), .pointer (some ⟨Bb, 0, none⟩)] encI (KpB Bb) (fun ys => ys = numsL a b) (fun _ => True) (numsL a b).length w := fun l J Jx W hW _ _ hY h0 =>
  numbers1_in n hn l Ba Bb a b ha ha2 hb J Jx W hY ((hW.block _ hla).trans hBa) ((hW.block _ hlb).trans hBb) h0
end Go.Proofs.YtifalaigfinciaaGreatDoor
