/- The document's contents: Fill of one, walked. -/
import Derived.Test.YtgmobjdjojffgaaDoorSdU
namespace Go.Proofs.YtgmobjdjojffgaaDoor
open Go.RowKit
attribute [local go_sem ↓] Go.wp_at_zero Go.wp_at_succ

/-- The document's shard that Fill makes. -/
structure Lf (wt : World) (S : Nat) (u : Value) (E : List Le) (x : Value) (wr : World) : Prop where
  blk : ∃ t, wr.heap[S]? = some (.cells #[.int .i64 0, u, x] t)
  own : wr.ownsRow (S + 1) 89 4 x E.length (lcs E)
  below : Below S wt wr
  size : S + 1 ≤ wr.heap.size
theorem Lf.on {wt wr W : World} {S : Nat} {u x : Value} {E : List Le} (h : Lf wt S u E x wr) (hb : Below wr.heap.size wr W) : Lf wt S u E x W := by
  obtain ⟨t, hh⟩ := h.blk
  have hs := h.size
  exact ⟨⟨t, (hb.block _ (by omega)).trans hh⟩, own_kept h.own hb, h.below.trans (hb.mono (by omega)), Nat.le_trans h.size hb.size⟩
/-- Four texts, wherever. -/
structure F4 (w : World) (g p0 p1 p2 p3 : Nat) (a b c d : List UInt8) : Prop where
  lt : g < w.heap.size
  c0 : w.cell? ⟨g, p0, none⟩ = some (.string (bs a))
  c1 : w.cell? ⟨g, p1, none⟩ = some (.string (bs b))
  c2 : w.cell? ⟨g, p2, none⟩ = some (.string (bs c))
  c3 : w.cell? ⟨g, p3, none⟩ = some (.string (bs d))
theorem F4.on {w W : World} {g p0 p1 p2 p3 : Nat} {a b c d : List UInt8} (h : F4 w g p0 p1 p2 p3 a b c d) (hb : Below w.heap.size w W) : F4 W g p0 p1 p2 p3 a b c d :=
  ⟨Nat.lt_of_lt_of_le h.lt hb.size, (hb.cell (p := ⟨g, p0, none⟩) h.lt).trans h.c0, (hb.cell (p := ⟨g, p1, none⟩) h.lt).trans h.c1, (hb.cell (p := ⟨g, p2, none⟩) h.lt).trans h.c2, (hb.cell (p := ⟨g, p3, none⟩) h.lt).trans h.c3⟩
theorem own_less {w : World} {base base' n : Nat} {e : TypeId} {s : Nat} {v : Value} {xs : List Value} (h : w.ownsRow base e s v n xs) (hb : base' ≤ base) : w.ownsRow base' e s v n xs := by
  obtain ⟨q1, q2⟩ := h
  rcases q2 with q2 | ⟨g, cap, cur, e1, q3, q4⟩
  · exact ⟨q1, .inl q2⟩
  · exact ⟨q1, .inr ⟨g, cap, cur, e1, by omega, q4⟩⟩
theorem own_sets {w : World} {base B n : Nat} {e : TypeId} {s : Nat} {v : Value} {xs : List Value} (h : w.ownsRow base e s v n xs) (hB : ∀ k, v.ownBlock = some k → k ≠ B) (o : Nat) (vs : List Value) : (w.setCells B o vs).ownsRow base e s v n xs := by
  obtain ⟨q1, q2⟩ := h
  rcases q2 with q2 | ⟨g, cap, cur, rfl, q3, q4, q5⟩
  · exact ⟨q1, .inl q2⟩
  · exact ⟨q1, .inr ⟨g, cap, cur, rfl, q3, (setCells_heap B vs o w g (hB g rfl)).trans q4, q5⟩⟩
theorem fill_cases {ea eb ec A U V P : Int} {lst : Nat} {d1 : List UInt8} (hP : (lst : Int) - 1 = P) (hc : ¬ (decide (ea = 0) && inR A 0 7 && (decide (eb = 0) && inR U 1 1099511627776) && (decide (ec = 0) && inR V 0 999 && decide (d1.length ≤ 64)) && decide ((lst : Int) ≤ A)) = true) : (ea != 0) = true ∨ (ea = 0 ∧ (eb != 0) = true) ∨ (ea = 0 ∧ eb = 0 ∧ (ec != 0) = true) ∨ (ea = 0 ∧ eb = 0 ∧ ec = 0 ∧ A ≤ P) ∨ (ea = 0 ∧ eb = 0 ∧ ec = 0 ∧ P < A ∧ 8 ≤ A) ∨ (ea = 0 ∧ eb = 0 ∧ ec = 0 ∧ P < A ∧ A < 8 ∧ U < 1) ∨ (ea = 0 ∧ eb = 0 ∧ ec = 0 ∧ P < A ∧ A < 8 ∧ 1 ≤ U ∧ 1099511627776 < U) ∨ (ea = 0 ∧ eb = 0 ∧ ec = 0 ∧ P < A ∧ A < 8 ∧ 1 ≤ U ∧ U ≤ 1099511627776 ∧ V < 0) ∨ (ea = 0 ∧ eb = 0 ∧ ec = 0 ∧ P < A ∧ A < 8 ∧ 1 ≤ U ∧ U ≤ 1099511627776 ∧ 0 ≤ V ∧ 999 < V) ∨ (ea = 0 ∧ eb = 0 ∧ ec = 0 ∧ P < A ∧ A < 8 ∧ 1 ≤ U ∧ U ≤ 1099511627776 ∧ 0 ≤ V ∧ V ≤ 999 ∧ (64 : Int) < (d1.length : Int)) := by
  by_cases h1 : ea = 0
  · by_cases h2 : eb = 0
    · by_cases h3 : ec = 0
      · subst h1 h2 h3
        have hc' : ¬ ((0 ≤ A ∧ A ≤ 7) ∧ (1 ≤ U ∧ U ≤ 1099511627776) ∧ (0 ≤ V ∧ V ≤ 999) ∧ (d1.length : Int) ≤ 64 ∧ (lst : Int) ≤ A) := fun ⟨⟨a, b⟩, ⟨c, d⟩, ⟨e, f⟩, g, h⟩ => hc (by
          have g' : d1.length ≤ 64 := by omega
          simp [inR, a, b, c, d, e, f, g', h])
        clear hc
        simp only [true_and, bne_self_eq_false, Bool.false_eq_true, false_or]
        obtain ⟨D, hD⟩ : ∃ D : Int, (d1.length : Int) = D := ⟨_, rfl⟩
        rw [hD] at hc' ⊢
        have hl : (0 : Int) ≤ (lst : Int) := by omega
        obtain ⟨Q, hQ⟩ : ∃ Q : Int, (lst : Int) = Q := ⟨_, rfl⟩
        rw [hQ] at hc' hP hl
        by_cases g1 : A ≤ P
        · exact .inl g1
        refine .inr ?_
        by_cases g2 : 8 ≤ A
        · exact .inl ⟨by omega, g2⟩
        refine .inr ?_
        by_cases g3 : U < 1
        · exact .inl ⟨by omega, by omega, g3⟩
        refine .inr ?_
        by_cases g4 : 1099511627776 < U
        · exact .inl ⟨by omega, by omega, by omega, g4⟩
        refine .inr ?_
        by_cases g5 : V < 0
        · exact .inl ⟨by omega, by omega, by omega, by omega, g5⟩
        refine .inr ?_
        by_cases g6 : 999 < V
        · exact .inl ⟨by omega, by omega, by omega, by omega, by omega, g6⟩
        refine .inr ⟨by omega, by omega, by omega, by omega, by omega, by omega, ?_⟩
        by_cases g7 : 64 < D
        · exact g7
        · exact absurd ⟨⟨by omega, by omega⟩, ⟨by omega, by omega⟩, ⟨by omega, by omega⟩, by omega, by omega⟩ hc'
      · exact .inr (.inr (.inl ⟨h1, h2, by simpa using h3⟩))
    · exact .inr (.inl ⟨h1, by simpa using h2⟩)
  · exact .inl (by simpa using h1)
set_option maxRecDepth 20000 in
set_option maxHeartbeats 6000000 in
theorem rFill_main (s : List UInt8) (w : World) (hs : s.length ≤ 1000000) (hg : good s) (hm4 : (texts s).length % 4 = 1) (l : List Rw) (hn : loadR ((texts s).headD []) = some l) :
    Calls Tryd.prog 23 #[.string (bs s)] w fun e W' => rFillPost w ((loadL ((texts s).drop 1) 0 fun _ => la0).map fun c => (l, c)) e W' := by
  have hU := rUnpack_any s (WF w) (by omega)
  rw [show errOf s = 0 from if_pos hg] at hU
  have HR : Hid (∀ W, Below (WF w).heap.size (WF w) W → W.heap[w.heap.size]? = some (.cells #[.int .i64 0, .slice none 0 0, .slice none 0 0] 32) ∧ w.heap.size < W.heap.size ∧ Below w.heap.size w (W.setCells w.heap.size 0 [.int .i64 0, .slice none 0 0, .slice none 0 0])) := fun W hb => ⟨(fill_res hb).1, (fill_res hb).2.2, below_sets (fill_res hb).2.1 (Nat.le_refl _) _ _⟩
  have HRB : Hid (∀ W, Below (WF w).heap.size (WF w) W → Below w.heap.size w W) := fun W hb => (fill_res hb).2.1
  obtain ⟨a, r, hL⟩ : ∃ a r, texts s = a :: r := by
    cases e : texts s with
    | nil => rw [e] at hm4; simp at hm4
    | cons a r => exact ⟨a, r, rfl⟩
  have HSM : Hid (∀ t ∈ texts s, t.length ≤ 281474976710656) := fun t ht => Nat.le_trans (text_small ht) (by omega)
  have hcnt : (texts s).length ≤ 1000000 := by
    have := items_count (s := s)
    rw [show texts s = (items s).map (·.1) from if_pos hg, List.length_map]
    omega
  have ha : a.length ≤ 1000000 := Nat.le_trans (text_small (by rw [hL]; exact List.mem_cons_self ..)) hs
  have HT : Hid (∀ W, Calls Tryd.prog 40 #[.string (bs a)] W fun e W' => ∃ x c, e = .returned (.tuple #[.agg #[.slice x l.length c], .int .i64 0]) ∧ W'.ownsRow W.heap.size 120 2 (.slice x l.length c) l.length (rcs l) ∧ Below W.heap.size W W') := fun W => by
    have := rLoad_any a W ha
    rw [hL] at hn
    rw [show loadR a = some l from hn] at this
    exact this
  have hm : (((texts s).length : Int) % 4 != 1) = false := by simp; omega
  have h0 : (texts s)[0]? = some a := by rw [hL]; rfl
  have hp : (0 : Int) < ((texts s).length : Int) := by rw [hL]; simp
  have hp2 : 0 < (texts s).length := by rw [hL]; simp
  clear hL hn
  obtain ⟨L, hL⟩ : ∃ L, texts s = L := ⟨_, rfl⟩
  rw [hL] at hU hm h0 hp hp2 hm4 HSM hcnt
  rw [hL]
  obtain ⟨Y, hY⟩ : ∃ Y, loadL (L.drop 1) 0 (fun _ => la0) = Y := ⟨_, rfl⟩
  rw [hY]
  have HY : Hid (loadL (L.drop 1) 0 (fun _ => la0) = Y) := hY
  clear hs hL hg hY
  go_enter Tryd.func23, Tryd.ntmps23
  go_upto_region 8 with (first
    | (go_at_call 29; refine hU.mono ?_; clear hU; rintro e w1 ⟨v, rfl, hown, hb1⟩; obtain ⟨va, vc, rfl⟩ := owns_slice hown; have hSl := Sl.of_owns hown; obtain ⟨b, o, rfl, hb0, hcc⟩ := hSl.at2 h0; have c0 := hcc 0 _ h0; rw [Nat.add_zero] at c0; have ht := HT.out w1; clear hown hcc HT)
    | (go_at_call 40; refine ht.mono ?_; clear ht; rintro e w2 ⟨ua, uc, rfl, hou, hb2⟩))
  have hba2 : Below w2.heap.size w2 (w2.alloc (.cells #[.slice ua l.length uc] 29)) := (Below.refl _ _).alloc (Nat.le_refl _) _
  have hbW : Below (WF w).heap.size (WF w) (w2.alloc (.cells #[.slice ua l.length uc] 29)) := (hb1.trans (hb2.mono hb1.size)).trans (hba2.mono (Nat.le_trans hb1.size hb2.size))
  have hb12 : Below w1.heap.size w1 (w2.alloc (.cells #[.slice ua l.length uc] 29)) := hb2.trans (hba2.mono hb2.size)
  have hw1s : w.heap.size < w1.heap.size := by have := hb1.size; simp at this; omega
  have hwt : (w2.alloc (.cells #[.slice ua l.length uc] 29)).heap.size = w2.heap.size + 1 := by simp
  have h00 : Lf (w2.alloc (.cells #[.slice ua l.length uc] 29)) (w2.heap.size + 1) (.slice ua l.length uc) [] (.slice none 0 0) ((w2.alloc (.cells #[.slice ua l.length uc] 29)).alloc (.cells #[.int .i64 0, .slice ua l.length uc, .slice none 0 0] 32)) := by
    rw [← hwt]
    exact ⟨⟨32, heap_alloc_new _ _⟩, World.ownsRow_nil _ _ _ _, (Below.refl _ _).alloc (Nat.le_refl _) _, by simp⟩
  have hou2 := own_kept hou hba2
  obtain ⟨WT, hWT⟩ : ∃ W, w2.alloc (.cells #[.slice ua l.length uc] 29) = W := ⟨_, rfl⟩
  rw [hWT] at hbW hb12 hwt h00 hou2
  rw [hWT]
  obtain ⟨S, hS⟩ : ∃ S, w2.heap.size + 1 = S := ⟨_, rfl⟩
  rw [hS] at hwt h00
  obtain ⟨w3, hw3⟩ : ∃ W, WT.alloc (.cells #[.int .i64 0, .slice ua l.length uc, .slice none 0 0] 32) = W := ⟨_, rfl⟩
  rw [hw3] at h00
  rw [hS, hw3]
  have HBW : Hid (∀ W, Below S WT W → Below (WF w).heap.size (WF w) W) := fun W h => hbW.trans (h.mono (by have := hbW.size; omega))
  have HF : Hid (∀ W, Below S WT W → ∀ n a1 b1 x1 d1, L[n]? = some a1 → L[n + 1]? = some b1 → L[n + 2]? = some x1 → L[n + 3]? = some d1 → F4 W b (o + n) (o + (n + 1)) (o + (n + 2)) (o + (n + 3)) a1 b1 x1 d1) := fun W h n a1 b1 x1 d1 e0 e1 e2 e3 => by
    obtain ⟨b', o', e, hlt, hc⟩ := (hSl.below (hb12.trans (h.mono (by have := hb12.size; omega))) (Nat.le_refl _)).at2 e0
    cases e
    exact ⟨hlt, hc n _ e0, hc _ _ e1, hc _ _ e2, hc _ _ e3⟩
  have HU2 : Hid (∀ W, Below S WT W → W.ownsRow w.heap.size 120 2 (.slice ua l.length uc) l.length (rcs l) ∧ ∀ k, (Value.slice ua l.length uc).ownBlock = some k → k ≠ w.heap.size) := fun W h => by
    have hk := own_kept hou2 (by rw [hwt]; exact h)
    exact ⟨own_less hk (by omega), fun k e => by have := (hk.lt k e).1; omega⟩
  have HSw : Hid (w.heap.size < S) := by show _ < _; have := hb2.size; omega
  clear hWT hw3 hba2 hbW hb12 hou hou2 hSl hb1 hb2 hS c0
  go_wp2
  go_loopg [9, 10] (L.length - 1) (fun gk bef i wr => ∃ (n : Nat) (lst : Nat) (c : Nat → La) (E : List Le) (x : Value) (M : Nat), gk = M ∧ bef = .int .i64 ((lst : Int) - 1) ∧ i = .int .i64 (n : Int) ∧ n + M = L.length ∧ M % 4 = 0 ∧ Lf WT S (.slice ua l.length uc) E x wr ∧ (∀ i, ofE E i = c i) ∧ E.length ≤ lst ∧ (∀ y ∈ E, y.1 < lst) ∧ lst ≤ 8 ∧ Hid (Y = loadL (L.drop n) lst c))
  case atStart => exact ⟨1, 0, _, [], _, L.length - 1, rfl, rfl, rfl, by omega, by omega, h00, fun i => rfl, Nat.le_refl _, (fun y hy => by cases hy), by omega, HY.out.symm⟩
  case round =>
    clear h00
    obtain ⟨n, lst, c, E, x, M, hgk, rfl, rfl, hnM, hM4, hK, hEc, hEl, hEk, hl8, hEq⟩ := hrel
    obtain ⟨xa, xc, rfl⟩ := owns_slice hK.own
    by_cases hM0 : M = 0
    · subst hM0
      have hnn : n = L.length := by omega
      have HZZ : Hid (Y = some c) := by
        show _ = _
        rw [hEq.out, hnn, List.drop_length]
        rfl
      subst hnn
      obtain ⟨bt, hbk⟩ := hK.blk
      have y0 := cellB hbk 0 _ rfl
      have y1 := cellB hbk 1 _ rfl
      have y2 := cellB hbk 2 _ rfl
      have hq := (HR.out _ (HBW.out _ hK.below)).1
      have q0 := cellB hq 0 _ rfl
      have q1 := cellB hq 1 _ rfl
      have q2 := cellB hq 2 _ rfl
      have z0 := frozenB hq 0
      have z1 := frozenB hq 1
      have z2 := frozenB hq 2
      have HT3 : Hid (_) := three_read hq rfl (.int .i64 0) (.slice ua l.length uc) (.slice xa E.length xc)
      have HB : Hid (Below w.heap.size w (wr.setCells w.heap.size 0 [.int .i64 0, .slice ua l.length uc, .slice xa E.length xc])) := below_sets (HRB.out _ (HBW.out _ hK.below)) (Nat.le_refl _) _ _
      have hSw := HSw.out
      have hSR : S ≠ w.heap.size := by omega
      obtain ⟨o1, o2⟩ := HU2.out _ hK.below
      have HO : Hid ((wr.setCells w.heap.size 0 [.int .i64 0, .slice ua l.length uc, .slice xa E.length xc]).ownsRow w.heap.size 120 2 (.slice ua l.length uc) l.length (rcs l) ∧ (wr.setCells w.heap.size 0 [.int .i64 0, .slice ua l.length uc, .slice xa E.length xc]).ownsRow w.heap.size 89 4 (.slice xa E.length xc) E.length (lcs E)) :=
        ⟨own_sets o1 o2 _ _, own_sets (own_less hK.own (by omega)) (fun k e => by have := (hK.own.lt k e).1; omega) _ _⟩
      have HEc : Hid (_) := hEc
      clear hK hEq hnM o1 o2 hbk hq hEk hEc
      go_wp2
      obtain ⟨r0, r1, r2⟩ := HT3.out
      simp only [World.setCells] at r0 r1 r2
      refine bodyPost_ret (v := .tuple #[.agg #[.int .i64 0, .slice ua l.length uc, .slice xa E.length xc], .bool true]) (by simp [results, Tryd.f23, go_sem, r0, r1, r2]) rfl ?_
      rw [HZZ.out]
      exact ⟨ua, uc, xa, xc, E, rfl, HO.out.1, HO.out.2, HEc.out, by omega, HB.out⟩
    · have hM1 : 4 ≤ M := by omega
      obtain ⟨a1, e0⟩ : ∃ x, L[n]? = some x := ⟨_, List.getElem?_eq_getElem (by omega)⟩
      obtain ⟨b1, e1⟩ : ∃ x, L[n + 1]? = some x := ⟨_, List.getElem?_eq_getElem (by omega)⟩
      obtain ⟨x1, e2⟩ : ∃ x, L[n + 2]? = some x := ⟨_, List.getElem?_eq_getElem (by omega)⟩
      obtain ⟨d1, e3⟩ : ∃ x, L[n + 3]? = some x := ⟨_, List.getElem?_eq_getElem (by omega)⟩
      have hd : L.drop n = a1 :: b1 :: x1 :: d1 :: L.drop (n + 4) := by
        have st : ∀ k x, L[k]? = some x → L.drop k = x :: L.drop (k + 1) := fun k x e => by
          obtain ⟨hk, e'⟩ := List.getElem?_eq_some_iff.1 e
          rw [List.drop_eq_getElem_cons hk, e']
        rw [st _ _ e0, st _ _ e1, st _ _ e2, st _ _ e3]
      have HEq : Hid (Y = if (fitA a1 && fitB b1 && fitC x1 d1 && decide ((lst : Int) ≤ tnV a1)) = true then loadL (L.drop (n + 4)) ((tnV a1).toNat + 1) (updC c (tnV a1).toNat (tnV b1, tnV x1, d1)) else none) := by
        show _ = _
        rw [hEq.out, hd, loadL]
      have hf4 := HF.out _ hK.below n a1 b1 x1 d1 e0 e1 e2 e3
      have hTa := rToNum_any (bs a1) wr (by rw [bs_size]; exact HSM.out _ (List.mem_of_getElem? e0))
      rw [bs_list] at hTa
      have HTb : Hid (∀ W, Calls Tryd.prog 30 #[.string (bs b1)] W fun e W' => e = .returned (.tuple #[.int .i64 (tnV b1), .int .i64 (tnE b1)]) ∧ Below W.heap.size W W') := fun W => rToNum_any (bs b1) W (by rw [bs_size]; exact HSM.out _ (List.mem_of_getElem? e1))
      have HTc : Hid (∀ W, Calls Tryd.prog 30 #[.string (bs x1)] W fun e W' => e = .returned (.tuple #[.int .i64 (tnV x1), .int .i64 (tnE x1)]) ∧ Below W.heap.size W W') := fun W => rToNum_any (bs x1) W (by rw [bs_size]; exact HSM.out _ (List.mem_of_getElem? e2))
      have hds : (bs d1).size = d1.length := bs_size d1
      obtain ⟨k1, hk1⟩ : ∃ k, n + 1 = k := ⟨_, rfl⟩
      obtain ⟨k2, hk2⟩ : ∃ k, n + 2 = k := ⟨_, rfl⟩
      obtain ⟨k3, hk3⟩ : ∃ k, n + 3 = k := ⟨_, rfl⟩
      rw [hk1, hk2, hk3] at hf4
      have wk1 : IntKind.i64.wrap ((n : Int) + 1) = (k1 : Int) := wrap_to (by omega) (by omega) (by omega)
      have wk2 : IntKind.i64.wrap ((n : Int) + 2) = (k2 : Int) := wrap_to (by omega) (by omega) (by omega)
      have wk3 : IntKind.i64.wrap ((n : Int) + 3) = (k3 : Int) := wrap_to (by omega) (by omega) (by omega)
      have m0 : (n : Int) < (L.length : Int) := by omega
      have m1 : (k1 : Int) < (L.length : Int) := by omega
      have m2 : (k2 : Int) < (L.length : Int) := by omega
      have m3 : (k3 : Int) < (L.length : Int) := by omega
      have g0 := hf4.lt
      have c0 := hf4.c0
      have HF4 : Hid (F4 wr b (o + n) (o + k1) (o + k2) (o + k3) a1 b1 x1 d1) := hf4
      have HK : Hid (Lf WT S (.slice ua l.length uc) E (.slice xa E.length xc) wr) := hK
      have HE4 : Hid ((∀ i, ofE E i = c i) ∧ E.length ≤ lst ∧ (∀ y ∈ E, y.1 < lst)) := ⟨hEc, hEl, hEk⟩
      obtain ⟨P, hP⟩ : ∃ P : Int, (lst : Int) - 1 = P := ⟨_, rfl⟩
      rw [hP]
      obtain ⟨ea, hea⟩ : ∃ e, tnE a1 = e := ⟨_, rfl⟩
      obtain ⟨eb, heb⟩ : ∃ e, tnE b1 = e := ⟨_, rfl⟩
      obtain ⟨ec, hec⟩ : ∃ e, tnE x1 = e := ⟨_, rfl⟩
      obtain ⟨A, hA⟩ : ∃ e, tnV a1 = e := ⟨_, rfl⟩
      obtain ⟨U, hU⟩ : ∃ e, tnV b1 = e := ⟨_, rfl⟩
      obtain ⟨V, hV⟩ : ∃ e, tnV x1 = e := ⟨_, rfl⟩
      have hfit : (fitA a1 && fitB b1 && fitC x1 d1 && decide ((lst : Int) ≤ tnV a1)) = (decide (ea = 0) && inR A 0 7 && (decide (eb = 0) && inR U 1 1099511627776) && (decide (ec = 0) && inR V 0 999 && decide (d1.length ≤ 64)) && decide ((lst : Int) ≤ A)) := by
        rw [fitA, fitB, fitC, hea, heb, hec, hA, hU, hV]
      rw [hfit] at HEq
      rw [hA, hU, hV] at HEq
      rw [hea, hA] at hTa
      rw [heb, hU] at HTb
      rw [hec, hV] at HTc
      clear hd e0 e1 e2 e3 hK hEq hf4 hEc hEk hfit hea heb hec hA hU hV hk1 hk2
      by_cases hc : (decide (ea = 0) && inR A 0 7 && (decide (eb = 0) && inR U 1 1099511627776) && (decide (ec = 0) && inR V 0 999 && decide (d1.length ≤ 64)) && decide ((lst : Int) ≤ A)) = true
      · rw [if_pos hc] at HEq
        simp only [Bool.and_eq_true, decide_eq_true_iff] at hc
        obtain ⟨⟨⟨⟨h1, h2⟩, h3, h4⟩, ⟨h5, h6⟩, h7⟩, h8⟩ := hc
        subst h1 h3 h5
        have i2 := inR_t h2
        have i4 := inR_t h4
        have i6 := inR_t h6
        obtain ⟨z, rfl⟩ : ∃ z : Nat, A = z := ⟨A.toNat, by omega⟩
        rw [Int.toNat_natCast] at HEq
        have j1 : P < (z : Int) := by omega
        have j2 : (z : Int) < 8 := by omega
        have j3 : 1 ≤ U := by omega
        have j4 : U ≤ 1099511627776 := by omega
        have j5 : 0 ≤ V := by omega
        have j6 : V ≤ 999 := by omega
        have j7 : (d1.length : Int) ≤ 64 := by omega
        clear h2 h4 h6 i2 i4 i6
        go_upto_region 18 with (first
        | (go_at_call 30; refine hTa.mono ?_; clear hTa; rintro e wa ⟨rfl, hba⟩; have hfa := HF4.out.on hba; have ga := hfa.lt; have c1 := hfa.c1; have hTb := HTb.out wa; clear HTb hfa)
        | (go_at_call 30; refine hTb.mono ?_; clear hTb; rintro e wb ⟨rfl, hbb⟩; have hbb2 := hba.trans (hbb.mono hba.size); have hfb := HF4.out.on hbb2; have gb := hfb.lt; have c2 := hfb.c2; have hTc := HTc.out wb; clear HTc hfb)
        | (go_at_call 30; refine hTc.mono ?_; clear hTc; rintro e wc ⟨rfl, hbc⟩; have hbc2 := hbb2.trans (hbc.mono hbb2.size); have hfc := HF4.out.on hbc2; have gc := hfc.lt; have c3 := hfc.c3; have hKc := HK.out.on hbc2; have HKc : Hid (_) := hKc; obtain ⟨hq, hltR, hB⟩ := HR.out _ (HBW.out _ hKc.below); have q0 := cellB hq 0 _ rfl; have q1 := cellB hq 1 _ rfl; have q2 := cellB hq 2 _ rfl; have z0 := frozenB hq 0; have z1 := frozenB hq 1; have z2 := frozenB hq 2; have HT3 : Hid (_) := three_read hq rfl (.int .i64 0) (.slice none 0 0) (.slice none 0 0); have HB : Hid (_) := hB; clear hB hq hfc hKc))
        have hKo := HKc.out
        obtain ⟨bt, hB5⟩ := hKo.blk
        have hown5 := hKo.own
        have hs5 := hKo.size
        obtain ⟨i0, hi, hy0, hy1, hy2⟩ := info_parts Tryd.info89L
        obtain ⟨X, hX⟩ : ∃ X, lcs E = X := ⟨_, rfl⟩
        have HX : Hid (lcs (E ++ [(z, (U, V, d1))]) = X ++ [.int .i64 z, .int .i64 U, .int .i64 V, .string (bs d1)]) := by
          show _ = _
          rw [lcs_append, hX]
          rfl
        rw [hX] at hown5
        obtain ⟨NE, hNE⟩ : ∃ m, E.length = m := ⟨_, rfl⟩
        have HNE : Hid (E.length = NE) := hNE
        rw [hNE] at hown5 hB5
        have hNE8 : NE ≤ 8 := by omega
        have x5 := cellB hB5 2 (.slice xa NE xc) rfl
        have hown6 : (wc.alloc (.cells #[.int .i64 z, .int .i64 U, .int .i64 V, .string (bs d1)] 89)).drew.ownsRow (S + 1) 89 4 (.slice xa NE xc) NE X := hown5.alloc (.cells #[.int .i64 z, .int .i64 U, .int .i64 V, .string (bs d1)] 89)
        have hsa : (wc.alloc (.cells #[.int .i64 z, .int .i64 U, .int .i64 V, .string (bs d1)] 89)).drew.heap.size = wc.heap.size + 1 := World.size_alloc _ _
        have hbs : S + 1 ≤ (wc.alloc (.cells #[.int .i64 z, .int .i64 U, .int .i64 V, .string (bs d1)] 89)).drew.heap.size := by omega
        have hbw : Below wc.heap.size wc (wc.alloc (.cells #[.int .i64 z, .int .i64 U, .int .i64 V, .string (bs d1)] 89)) := (Below.refl _ _).alloc (Nat.le_refl _) _
        have rca : (wc.alloc (.cells #[.int .i64 z, .int .i64 U, .int .i64 V, .string (bs d1)] 89)).drew.heap[S]? = some (.cells #[.int .i64 0, .slice ua l.length uc, .slice xa NE xc] bt) := (hbw.block S (by omega)).trans hB5
        have x6 : (wc.alloc (.cells #[.int .i64 z, .int .i64 U, .int .i64 V, .string (bs d1)] 89)).cell? ⟨S, 2, none⟩ = some (.slice xa NE xc) := (hbw.cell (p := ⟨S, 2, none⟩) (by show S < wc.heap.size; omega)).trans x5
        have hcn : ∀ j u, [Value.int .i64 z, .int .i64 U, .int .i64 V, .string (bs d1)][j]? = some u → (wc.alloc (.cells #[.int .i64 z, .int .i64 U, .int .i64 V, .string (bs d1)] 89)).drew.cell? ((⟨wc.heap.size, 0, none⟩ : Addr).add j) = some u := World.news_of_block (w := (wc.alloc (.cells #[.int .i64 z, .int .i64 U, .int .i64 V, .string (bs d1)] 89)).drew) (heap_alloc_new wc (.cells #[.int .i64 z, .int .i64 U, .int .i64 V, .string (bs d1)] 89))
        have hne : some S ≠ (Value.slice xa NE xc).ownBlock := fun h => by have := (hown5.lt _ h.symm).1; omega
        have hcd : S < (wc.alloc (.cells #[.int .i64 z, .int .i64 U, .int .i64 V, .string (bs d1)] 89)).drew.heap.size := by omega
        have hml : NE + 1 ≤ maxLen := by unfold maxLen; omega
        have hkb : (NE + 1) * 40 ≤ 140737488355328 := by omega
        have HBL : Hid (Below S WT (wc.alloc (.cells #[.int .i64 z, .int .i64 U, .int .i64 V, .string (bs d1)] 89)).drew) := below_drew (hKo.below.alloc (by omega) _)
        have HO6 : Hid (∀ q, (Value.slice xa NE xc).ownBlock = some q → S + 1 ≤ q) := fun q hq => (hown6.lt q hq).1
        clear hX hown5 hKo hB5 hbw hsa hNE HKc HB HT3 HK HF4 q0 q1 q2 z0 z1 z2 hltR
        go_region_law (first | (refine step_append_lies _ (by rfl) _ _ 30 (by rfl) (S + 1) 89 i0 (.agg #[.int .i64 0, .int .i64 0, .int .i64 0, .string ⟨#[]⟩]) 4 40 Tryd.underlying30 hi hy0 hy1 hy2 rfl (by decide) _ NE X (by rfl) hown6 ⟨wc.heap.size, 0, none⟩ 1 1 [.int .i64 z, .int .i64 U, .int .i64 V, .string (bs d1)] (by rfl) rfl hcn (by simp [Value.oneCell']) (by decide) hml hkb hbs _ rfl ?_; intro ga ca w6 hown7 hgrow hat hlt6; have rc6 := (hgrow.block S hcd hne).trans rca; have f2 := frozenB rc6 2; have s2 := cellB rc6 2 (.slice xa NE xc) rfl))
        all_goals
          have hrs7 := setB rc6 2 (.slice (some ⟨ga, 0, none⟩) (NE + 1) ca)
          have hgs := hgrow.size
          have hB6 : Below S WT w6 := HBL.out.grown hgrow (by omega) (fun q hq => by have := HO6.out q hq; omega)
          have hB7 := hB6.setCell (p := ⟨S, 2, none⟩) (Nat.le_refl _) (.slice (some ⟨ga, 0, none⟩) (NE + 1) ca)
          have hEl2 : (E ++ [(z, (U, V, d1))]).length = NE + 1 := by rw [List.length_append, HNE.out]; rfl
          have HL7 : Hid (Lf WT S (.slice ua l.length uc) (E ++ [(z, (U, V, d1))]) (.slice (some ⟨ga, 0, none⟩) (NE + 1) ca) (w6.setCell ⟨S, 2, none⟩ (.slice (some ⟨ga, 0, none⟩) (NE + 1) ca))) := by
            refine ⟨⟨bt, hrs7⟩, ?_, hB7, by simp only [World.setCell, Array.size_modify]; omega⟩
            rw [HX.out, hEl2]
            obtain ⟨q1, q2⟩ := hown7
            rcases q2 with q2 | ⟨g, cap, cur, e1, q3, q4, q6⟩
            · exact ⟨q1, .inl q2⟩
            · exact ⟨q1, .inr ⟨g, cap, cur, e1, q3, (set_far (by omega) _ _).trans q4, q6⟩⟩
          have HE5 : Hid ((∀ i, ofE (E ++ [(z, (U, V, d1))]) i = updC c z (U, V, d1) i) ∧ (E ++ [(z, (U, V, d1))]).length ≤ z + 1 ∧ (∀ y ∈ E ++ [(z, (U, V, d1))], y.1 < z + 1)) := by
            obtain ⟨p1, p2, p3⟩ := HE4.out
            refine ⟨fun i => ?_, by rw [hEl2]; have := HNE.out; omega, fun y hy => ?_⟩
            · rw [ofE_snoc (fun y hy => by have := p3 y hy; omega), show ofE E = c from funext p1]
            · rcases List.mem_append.1 hy with hy | hy
              · have := p3 y hy; omega
              · rw [List.mem_singleton.1 hy]; exact Nat.lt_succ_self _
          clear hrs7 hB6 hB7 rc6 f2 s2 hown7 hgrow hat hlt6 hgs hEl2 hown6 hbs rca x6 x5 hcn hne hcd
          go_wp2
          go_roundg (M - 4)
          case measure => omega
          case rel => exact ⟨n + 4, z + 1, _, _, _, M - 4, rfl, (by congr 1; omega), (by congr 1), by omega, by omega, HL7.out, HE5.out.1, HE5.out.2.1, HE5.out.2.2, by omega, HEq.out⟩
      · rw [if_neg hc] at HEq
        have hcase := fill_cases hP hc
        clear hc
        rcases hcase with h1 | ⟨rfl, h1⟩ | ⟨rfl, rfl, h1⟩ | ⟨rfl, rfl, rfl, h1⟩ | ⟨rfl, rfl, rfl, h1, h2⟩ | ⟨rfl, rfl, rfl, h1, h2, h3⟩ | ⟨rfl, rfl, rfl, h1, h2, h3, h4⟩ | ⟨rfl, rfl, rfl, h1, h2, h3, h4, h5⟩ | ⟨rfl, rfl, rfl, h1, h2, h3, h4, h5, h6⟩ | ⟨rfl, rfl, rfl, h1, h2, h3, h4, h5, h6, h7⟩
        all_goals
          go_wp2_with (first
        | (go_at_call 30; refine hTa.mono ?_; clear hTa; rintro e wa ⟨rfl, hba⟩; have hfa := HF4.out.on hba; have ga := hfa.lt; have c1 := hfa.c1; have hTb := HTb.out wa; clear HTb hfa)
        | (go_at_call 30; refine hTb.mono ?_; clear hTb; rintro e wb ⟨rfl, hbb⟩; have hbb2 := hba.trans (hbb.mono hba.size); have hfb := HF4.out.on hbb2; have gb := hfb.lt; have c2 := hfb.c2; have hTc := HTc.out wb; clear HTc hfb)
        | (go_at_call 30; refine hTc.mono ?_; clear hTc; rintro e wc ⟨rfl, hbc⟩; have hbc2 := hbb2.trans (hbc.mono hbb2.size); have hfc := HF4.out.on hbc2; have gc := hfc.lt; have c3 := hfc.c3; have hKc := HK.out.on hbc2; have HKc : Hid (_) := hKc; obtain ⟨hq, hltR, hB⟩ := HR.out _ (HBW.out _ hKc.below); have q0 := cellB hq 0 _ rfl; have q1 := cellB hq 1 _ rfl; have q2 := cellB hq 2 _ rfl; have z0 := frozenB hq 0; have z1 := frozenB hq 1; have z2 := frozenB hq 2; have HT3 : Hid (_) := three_read hq rfl (.int .i64 0) (.slice none 0 0) (.slice none 0 0); have HB : Hid (_) := hB; clear hB hq hfc hKc))
          obtain ⟨r0, r1, r2⟩ := HT3.out
          simp only [World.setCells] at r0 r1 r2
          exact bodyPost_ret (v := .tuple #[.agg #[.int .i64 0, .slice none 0 0, .slice none 0 0], .bool false]) (by simp [results, Tryd.f23, go_sem, r0, r1, r2]) rfl (rfill_none HEq.out HB.out)
theorem rFill_any (s : List UInt8) (w : World) (hs : s.length ≤ 1000000) : Calls Tryd.prog 23 #[.string (bs s)] w fun e W' => rFillPost w (loadC s) e W' := by
  unfold loadC
  by_cases hg : good s ∧ (texts s).length % 4 = 1
  · rw [if_pos hg]
    cases hn : loadR ((texts s).headD []) with
    | none => exact rFill_bad2 s w hs hg.1 hg.2 hn
    | some l => exact rFill_main s w hs hg.1 hg.2 l hn
  · rw [if_neg hg]
    exact rFill_bad1 s w hs hg
end Go.Proofs.YtgmobjdjojffgaaDoor
