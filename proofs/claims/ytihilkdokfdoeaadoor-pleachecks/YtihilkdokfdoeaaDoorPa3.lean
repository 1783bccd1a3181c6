/- Call.isCall, walked. -/
import Derived.Test.YtihilkdokfdoeaaDoorPa2
import Derived.Maps.OwnSet
import Derived.Maps.RangeWalk
import Derived.Maps.Ext
import Derived.DeepKeys4
namespace Go.Proofs.YtihilkdokfdoeaaDoor
section
open Go.RowKit
attribute [local go_sem ↓] Go.wp_at_zero Go.wp_at_succ

set_option maxRecDepth 20000 in
set_option maxHeartbeats 1500000 in
theorem isCall_any (c : Cl) (w : World) : Calls Tryd.prog 52 #[cV c.cl c.no c.op.kind c.op.k c.op.v c.op.o c.fr c.tt c.an.2 c.an.1] w fun e W' => e = .returned (.bool (okCall c)) ∧ Below w.heap.size w W' := by
  obtain ⟨cl, no, ⟨kind, k, v, o⟩, fr, tt, T, E⟩ := c
  dsimp only [okCall]
  obtain ⟨W0, hW0⟩ : ∃ W, w.alloc (.cells #[.int .i64 cl, .int .i64 no, .int .i64 kind, .string (bs k), .string (bs v), .string (bs o), .int .i64 fr, .int .i64 tt, .int .i64 E, .string (bs T)] 51) = W := ⟨_, rfl⟩
  obtain ⟨N, hN⟩ : ∃ N, w.heap.size = N := ⟨_, rfl⟩
  have hb : Below N w W0 := by rw [← hN, ← hW0]; exact (Below.refl _ w).alloc (Nat.le_refl _) _
  have hz : W0.heap.size = N + 1 := by rw [← hN, ← hW0]; simp
  have h0 : W0.heap[N]? = some (.cells #[.int .i64 cl, .int .i64 no, .int .i64 kind, .string (bs k), .string (bs v), .string (bs o), .int .i64 fr, .int .i64 tt, .int .i64 E, .string (bs T)] 51) := by rw [← hN, ← hW0]; exact heap_alloc_new _ _
  have HC : Hid (∀ W, Below (N + 1) W0 W → (W.cell? ⟨N, 0, none⟩ = some (.int .i64 cl) ∧ W.cell? ⟨N, 1, none⟩ = some (.int .i64 no) ∧ W.cell? ⟨N, 2, none⟩ = some (.int .i64 kind) ∧ W.cell? ⟨N, 3, none⟩ = some (.string (bs k)) ∧ W.cell? ⟨N, 4, none⟩ = some (.string (bs v)) ∧ W.cell? ⟨N, 5, none⟩ = some (.string (bs o)) ∧ W.cell? ⟨N, 6, none⟩ = some (.int .i64 fr) ∧ W.cell? ⟨N, 7, none⟩ = some (.int .i64 tt) ∧ W.cell? ⟨N, 8, none⟩ = some (.int .i64 E) ∧ W.cell? ⟨N, 9, none⟩ = some (.string (bs T))) ∧ Below N w W) := fun W hW => by
    have h1 := (hW.block N (by omega)).trans h0
    exact ⟨⟨cellB h1 0 _ rfl, cellB h1 1 _ rfl, cellB h1 2 _ rfl, cellB h1 3 _ rfl, cellB h1 4 _ rfl, cellB h1 5 _ rfl, cellB h1 6 _ rfl, cellB h1 7 _ rfl, cellB h1 8 _ rfl, cellB h1 9 _ rfl⟩, hb.trans (hW.mono (by omega))⟩
  have HZ : Hid (W0.heap.size = N + 1) := hz
  have HW : Hid (w.alloc (.cells #[.int .i64 cl, .int .i64 no, .int .i64 kind, .string (bs k), .string (bs v), .string (bs o), .int .i64 fr, .int .i64 tt, .int .i64 E, .string (bs T)] 51) = W0) := hW0
  have HN : Hid (w.heap.size = N) := hN
  have HA : Hid (∀ W, Calls Tryd.prog 57 #[cV cl no kind k v o fr tt E T] W fun e W' => e = .returned (.bool (decide (tt ≠ -1))) ∧ Below W.heap.size W W') := fun W => isAns_any cl no kind k v o fr tt E T W
  have HK : Hid (∀ W, Calls Tryd.prog 64 #[.agg #[.int .i64 kind, .string (bs k), .string (bs v), .string (bs o)]] W fun e W' => e = .returned (.int .i64 (chk kind k v o)) ∧ Below W.heap.size W W') := fun W => Check_any kind k v o W
  obtain ⟨⟨y0, y1, y2, y3, y4, y5, y6, y7, y8, y9⟩, hB0⟩ := HC.out W0 (Below.refl _ _)
  have HB0 : Hid (_) := hB0
  clear hW0 hN hb hz h0 hB0
  rw [HN.out]
  by_cases h1 : 0 ≤ cl
  rotate_left
  · rw [decide_eq_false h1]
    have h1' : cl < 0 := by omega
    clear h1
    go_enter Tryd.func52, Tryd.ntmps52
    go_upto_region 1 with fail
    rw [HW.out, HN.out]
    go_wp2
    all_goals first
      | (go_ret; exact ⟨by simp, HB0.out⟩)
      | (exfalso; omega)
  by_cases h2 : cl < 8
  rotate_left
  · rw [decide_eq_true h1, decide_eq_false h2]
    go_enter Tryd.func52, Tryd.ntmps52
    go_upto_region 1 with fail
    rw [HW.out, HN.out]
    go_wp2
    all_goals first
      | (go_ret; exact ⟨by simp, HB0.out⟩)
      | (exfalso; omega)
  by_cases h3 : 1 ≤ no
  rotate_left
  · rw [decide_eq_true h1, decide_eq_true h2, decide_eq_false h3]
    go_enter Tryd.func52, Tryd.ntmps52
    go_upto_region 1 with fail
    rw [HW.out, HN.out]
    go_wp2
    all_goals first
      | (go_ret; exact ⟨by simp, HB0.out⟩)
      | (exfalso; omega)
  by_cases h4 : no ≤ 1099511627776
  rotate_left
  · rw [decide_eq_true h1, decide_eq_true h2, decide_eq_true h3, decide_eq_false h4]
    go_enter Tryd.func52, Tryd.ntmps52
    go_upto_region 1 with fail
    rw [HW.out, HN.out]
    go_wp2
    all_goals first
      | (go_ret; exact ⟨by simp, HB0.out⟩)
      | (exfalso; omega)
  rw [decide_eq_true h1, decide_eq_true h2, decide_eq_true h3, decide_eq_true h4]
  obtain ⟨C, hC⟩ : ∃ C, chk kind k v o = C := ⟨_, rfl⟩
  rw [hC] at HK ⊢
  by_cases h5 : C = 0
  rotate_left
  · rw [decide_eq_false h5]
    have h5' : (C == 0) = false := by simpa using h5
    clear hC
    go_enter Tryd.func52, Tryd.ntmps52
    go_upto_region 1 with fail
    rw [HW.out, HN.out]
    go_wp2_with (go_at_call 64; refine (HK.out _).mono ?_; rintro e w1 ⟨rfl, hb1⟩; rw [HZ.out] at hb1; obtain ⟨⟨x0, x1, x2, x3, x4, x5, x6, x7, x8, x9⟩, hB1⟩ := HC.out w1 hb1)
    all_goals first
      | (go_ret; exact ⟨by simp, hB1⟩)
      | (exfalso; omega)
  subst h5
  by_cases h6 : 0 ≤ fr
  rotate_left
  · rw [decide_eq_false h6]
    clear hC
    go_enter Tryd.func52, Tryd.ntmps52
    go_upto_region 1 with fail
    rw [HW.out, HN.out]
    go_wp2_with (go_at_call 64; refine (HK.out _).mono ?_; rintro e w1 ⟨rfl, hb1⟩; rw [HZ.out] at hb1; obtain ⟨⟨x0, x1, x2, x3, x4, x5, x6, x7, x8, x9⟩, hB1⟩ := HC.out w1 hb1)
    all_goals first
      | (go_ret; exact ⟨by simp, hB1⟩)
      | (exfalso; omega)
  rw [decide_eq_true h6]
  have HC2 : Hid (∀ w1 W, Below (N + 1) W0 w1 → Below w1.heap.size w1 W → Below (N + 1) W0 W) := fun w1 W a b => a.trans (b.mono (by have := a.size; rw [HZ.out] at this; exact this))
  by_cases h7 : tt = -1
  · subst h7
    rw [show decide ((-1 : Int) ≠ -1) = false by decide] at HA
    by_cases h8 : E = 0
    · subst h8
      by_cases h9 : T = []
      · subst h9
        have s9 : (bs []).toList = [] := by rw [ByteArray.toList_eq]; rfl
        clear hC
        go_enter Tryd.func52, Tryd.ntmps52
        go_upto_region 1 with fail
        rw [HW.out, HN.out]
        go_wp2_with (first
          | (go_at_call 64; refine (HK.out _).mono ?_; rintro e w1 ⟨rfl, hb1⟩; rw [HZ.out] at hb1; obtain ⟨⟨x0, x1, x2, x3, x4, x5, x6, x7, x8, x9⟩, hB1⟩ := HC.out w1 hb1)
          | (go_at_call 57; refine (HA.out _).mono ?_; rintro e w2 ⟨rfl, hb2⟩; have hb3 := HC2.out _ _ hb1 hb2; obtain ⟨⟨z0, z1, z2, z3, z4, z5, z6, z7, z8, z9⟩, hB2⟩ := HC.out w2 hb3))
        all_goals first
          | (go_ret; refine ⟨?_, hB2⟩; first | (exfalso; omega) | (simp; done))
          | (exfalso; omega)
      · have s9 : ¬ (bs T).toList = [] := by rw [ByteArray.toList_eq]; exact h9
        clear hC
        go_enter Tryd.func52, Tryd.ntmps52
        go_upto_region 1 with fail
        rw [HW.out, HN.out]
        go_wp2_with (first
          | (go_at_call 64; refine (HK.out _).mono ?_; rintro e w1 ⟨rfl, hb1⟩; rw [HZ.out] at hb1; obtain ⟨⟨x0, x1, x2, x3, x4, x5, x6, x7, x8, x9⟩, hB1⟩ := HC.out w1 hb1)
          | (go_at_call 57; refine (HA.out _).mono ?_; rintro e w2 ⟨rfl, hb2⟩; have hb3 := HC2.out _ _ hb1 hb2; obtain ⟨⟨z0, z1, z2, z3, z4, z5, z6, z7, z8, z9⟩, hB2⟩ := HC.out w2 hb3))
        all_goals first
          | (go_ret; refine ⟨?_, hB2⟩; first | (exfalso; omega) | (simp [*]; done) | (simp; done))
          | (exfalso; omega)
    · have e8 : (E == 0) = false := by simpa using h8
      clear hC
      go_enter Tryd.func52, Tryd.ntmps52
      go_upto_region 1 with fail
      rw [HW.out, HN.out]
      go_wp2_with (first
        | (go_at_call 64; refine (HK.out _).mono ?_; rintro e w1 ⟨rfl, hb1⟩; rw [HZ.out] at hb1; obtain ⟨⟨x0, x1, x2, x3, x4, x5, x6, x7, x8, x9⟩, hB1⟩ := HC.out w1 hb1)
        | (go_at_call 57; refine (HA.out _).mono ?_; rintro e w2 ⟨rfl, hb2⟩; have hb3 := HC2.out _ _ hb1 hb2; obtain ⟨⟨z0, z1, z2, z3, z4, z5, z6, z7, z8, z9⟩, hB2⟩ := HC.out w2 hb3))
      all_goals first
        | (go_ret; exact ⟨by simp [*], hB2⟩)
        | (exfalso; omega)
  · rw [show decide (tt ≠ -1) = true by simp [h7]] at HA
    rw [if_neg h7]
    clear h7 hC
    by_cases h8 : fr ≤ tt
    · rw [decide_eq_true h8]
      go_enter Tryd.func52, Tryd.ntmps52
      go_upto_region 1 with fail
      rw [HW.out, HN.out]
      go_wp2_with (first
        | (go_at_call 64; refine (HK.out _).mono ?_; rintro e w1 ⟨rfl, hb1⟩; rw [HZ.out] at hb1; obtain ⟨⟨x0, x1, x2, x3, x4, x5, x6, x7, x8, x9⟩, hB1⟩ := HC.out w1 hb1)
        | (go_at_call 57; refine (HA.out _).mono ?_; rintro e w2 ⟨rfl, hb2⟩; have hb3 := HC2.out _ _ hb1 hb2; obtain ⟨⟨z0, z1, z2, z3, z4, z5, z6, z7, z8, z9⟩, hB2⟩ := HC.out w2 hb3))
      all_goals first
        | (go_ret; exact ⟨by simp [*], hB2⟩)
        | (exfalso; omega)
    · rw [decide_eq_false h8]
      go_enter Tryd.func52, Tryd.ntmps52
      go_upto_region 1 with fail
      rw [HW.out, HN.out]
      go_wp2_with (first
        | (go_at_call 64; refine (HK.out _).mono ?_; rintro e w1 ⟨rfl, hb1⟩; rw [HZ.out] at hb1; obtain ⟨⟨x0, x1, x2, x3, x4, x5, x6, x7, x8, x9⟩, hB1⟩ := HC.out w1 hb1)
        | (go_at_call 57; refine (HA.out _).mono ?_; rintro e w2 ⟨rfl, hb2⟩; have hb3 := HC2.out _ _ hb1 hb2; obtain ⟨⟨z0, z1, z2, z3, z4, z5, z6, z7, z8, z9⟩, hB2⟩ := HC.out w2 hb3))
      all_goals first
        | (go_ret; exact ⟨by simp [*], hB2⟩)
        | (exfalso; omega)
end
section
open Go.RowKit Go.Maps Go.WideShapes
attribute [local go_sem ↓] Go.wp_at_zero Go.wp_at_succ

/-- An element is held as it is. -/
def heldE (v : Value) : Option (DataW Value × List MemPlace) := some (.held v, [])
/-- The entries as they are read. -/
def ent (p : Lit × Value) : Lit × DataW Value := (p.1, .held p.2)
/-- D has just these entries. -/
def Rep (D : DataW Value) (l : List (Lit × Value)) : Prop := ∃ es, D = .map es ∧ es.Perm (l.map ent) ∧ l.Pairwise (fun p q => p.1 ≠ q.1) ∧ ∀ p ∈ l, WideAt.IsKeyLit p.1
theorem Rep.nil : Rep (.map []) [] := ⟨[], rfl, List.Perm.refl _, List.Pairwise.nil, by simp⟩
theorem Rep.size {D : DataW Value} {l : List (Lit × Value)} (h : Rep D l) : Maps.size D = l.length := by
  obtain ⟨es, rfl, hp, _⟩ := h
  show es.length = _
  rw [hp.length_eq, List.length_map]
theorem Rep.apart {D : DataW Value} {l : List (Lit × Value)} (h : Rep D l) : ∃ es, D = .map es ∧ es.Pairwise (fun p q => p.1 ≠ q.1) ∧ ∀ p, p ∈ es ↔ p ∈ l.map ent := by
  obtain ⟨es, rfl, hp, ha, _⟩ := h
  refine ⟨es, rfl, (hp.pairwise_iff (fun {a b} (h : a.1 ≠ b.1) => h.symm)).2 ?_, fun p => hp.mem_iff⟩
  rw [List.pairwise_map]
  exact ha
theorem Rep.at {D : DataW Value} {l : List (Lit × Value)} (h : Rep D l) {k : Lit} {v : Value} (hm : (k, v) ∈ l) (z : DataW Value) : D.atKey k z = .held v ∧ Maps.has D k = true := by
  have hk : WideAt.IsKeyLit k := by obtain ⟨_, _, _, _, h4⟩ := h; exact h4 _ hm
  obtain ⟨es, rfl, ha, he⟩ := h.apart
  have hme : (k, .held v) ∈ es := (he _).2 (List.mem_map.2 ⟨_, hm, rfl⟩)
  exact ⟨WideAt.atKey_mem z hk ha hme, List.any_eq_true.2 ⟨_, hme, WideAt.sameKey_self hk⟩⟩
theorem Rep.none {D : DataW Value} {l : List (Lit × Value)} (h : Rep D l) {k : Lit} (hm : ∀ p ∈ l, p.1 ≠ k) (z : DataW Value) : D.atKey k z = z ∧ Maps.has D k = false := by
  have hh : Maps.has D k = false := by
    obtain ⟨es, rfl, ha, he⟩ := h.apart
    show es.any (fun p => p.1.sameKey k) = false
    rw [List.any_eq_false]
    intro p hp
    obtain ⟨q, hq, rfl⟩ := List.mem_map.1 ((he p).1 hp)
    rw [show (ent q).1 = q.1 from rfl, Maps.sameKey_ne (hm q hq)]
    decide
  exact ⟨Maps.atKey_of_not_has hh z, hh⟩
theorem filter_ent (k : Lit) (l : List (Lit × Value)) : (l.map ent).filter (fun p => !p.1.sameKey k) = (l.filter (fun p => !p.1.sameKey k)).map ent := by
  rw [List.filter_map]; rfl
theorem Rep.del {D : DataW Value} {l : List (Lit × Value)} (h : Rep D l) (k : Lit) : Rep (D.del k) (l.filter (fun p => !p.1.sameKey k)) := by
  obtain ⟨es, rfl, hp, ha, hk⟩ := h
  refine ⟨es.filter (fun p => !p.1.sameKey k), rfl, ?_, ha.filter _, fun p hp => hk p (List.mem_filter.1 hp).1⟩
  rw [← filter_ent]
  exact hp.filter _
theorem Rep.put {D : DataW Value} {l : List (Lit × Value)} (h : Rep D l) {k : Lit} (hkl : WideAt.IsKeyLit k) (v : Value) : Rep (D.put k (.held v)) (l.filter (fun p => !p.1.sameKey k) ++ [(k, v)]) := by
  obtain ⟨es, rfl, hp, ha, hk⟩ := h
  refine ⟨DataW.insert (k, .held v) (es.filter (fun p => !p.1.sameKey k)), rfl, ?_, ?_, ?_⟩
  · refine (insert_perm _ _).trans ?_
    rw [List.map_append, ← filter_ent]
    refine ((hp.filter _).cons _).trans ?_
    exact (List.perm_append_singleton _ _).symm
  · rw [List.pairwise_append]
    refine ⟨ha.filter _, by simp, fun a hain b hb => ?_⟩
    simp at hb
    subst hb
    intro e
    have := (List.mem_filter.1 hain).2
    rw [e, WideAt.sameKey_self hkl] at this
    cases this
  · intro p hp
    rcases List.mem_append.1 hp with h1 | h1
    · exact hk p (List.mem_filter.1 h1).1
    · simp at h1; subst h1; exact hkl
theorem Rep.perm {D : DataW Value} {l l' : List (Lit × Value)} (h : Rep D l) (hl : l.Perm l') : Rep D l' := by
  obtain ⟨es, rfl, hp, ha, hk⟩ := h
  exact ⟨es, rfl, hp.trans (hl.map _), (hl.pairwise_iff (fun {a b} (h : a.1 ≠ b.1) => h.symm)).1 ha, fun p hp => hk p (hl.mem_iff.2 hp)⟩

/-- The key of a view and a number. -/
def pk (v n : Int) : Lit := .string (keyBytes [.int .i64 v, .int .i64 n])
set_option maxRecDepth 20000 in
theorem Tryd.laidOut : laidOutB Tryd.prog = true := by kernel_rfl
set_option maxRecDepth 20000 in
theorem Tryd.row113 : (113 : TypeId) < Tryd.prog.types.size := of_decide_eq_true (by kernel_rfl)
set_option maxRecDepth 20000 in
theorem Tryd.wide87 : (match Tryd.prog.underlying 113 with | some (.array _ _) | some (.struct _) => true | _ => false) = true := by rw [Tryd.underlying113]
set_option maxRecDepth 20000 in
theorem law87 : Keyed Tryd.prog 113 := Keyed.of_law (deep_law_laid Tryd.laidOut (m := 2) (by omega) Tryd.row113 (by kernel_rfl) Tryd.wide87)
set_option maxRecDepth 20000 in
theorem Tryd.cells113 : Tryd.prog.cellsOf 113 = 2 := by kernel_rfl
set_option maxRecDepth 20000 in
theorem Tryd.cells3 : Tryd.prog.cellsOf 3 = 1 := by kernel_rfl
set_option maxRecDepth 20000 in
theorem Tryd.key87 : Tryd.prog.keyType 113 = true := by kernel_rfl
set_option maxRecDepth 20000 in
theorem Tryd.tsize : ∃ m, Tryd.prog.types.size = m + 1 := by
  have h : (113 : Nat) < Tryd.prog.types.size := Tryd.row113
  exact ⟨Tryd.prog.types.size - 1, by omega⟩
set_option maxRecDepth 20000 in
theorem keyOf_place {v n : Int} (hv : (Lit.int .i64 v).wf = true) (hn : (Lit.int .i64 n).wf = true) : keyOf Tryd.prog 113 (.agg #[.int .i64 v, .int .i64 n]) = some (pk v n) := by
  obtain ⟨m, hm⟩ := Tryd.tsize
  unfold keyOf
  rw [hm]
  simp [Tryd.underlying113, Tryd.key87, Value.formed, Tryd.cells113, Program.keyLits, Tryd.underlying3, Tryd.cells3, Value.cells, hv, hn, pk]
set_option maxRecDepth 20000 in
theorem pk_inj {v n v' n' : Int} (hv : (Lit.int .i64 v).wf = true) (hn : (Lit.int .i64 n).wf = true) (hv' : (Lit.int .i64 v').wf = true) (hn' : (Lit.int .i64 n').wf = true) (h : pk v n = pk v' n') : v = v' ∧ n = n' := by
  have e := law87.inj (keyOf_place hv hn) (h ▸ keyOf_place hv' hn')
  injection e with e
  injection e with e
  injection e with e1 e2
  injection e2 with e2
  injection e1 with _ e1
  injection e2 with _ e2
  exact ⟨e1, e2⟩
theorem wf64 {a : Int} (h1 : -9223372036854775808 ≤ a) (h2 : a ≤ 9223372036854775807) : (Lit.int .i64 a).wf = true := WalkArith.wf_i64 ⟨h1, h2⟩
/-- A map, which may be nil, that has just these entries. -/
def MapAt (w : World) (K : TypeId) (m : Option Nat) (l : List (Lit × Value)) : Prop :=
  (m = none ∧ l = []) ∨ ∃ b D, m = some b ∧ w.ownsMap Tryd.prog K heldE b l.length D ∧ Rep D l
theorem MapAt.keep {w w' : World} {K : TypeId} {m : Option Nat} {l : List (Lit × Value)} (h : MapAt w K m l) (hb : ∀ b, m = some b → w'.heap[b]? = w.heap[b]?) : MapAt w' K m l := by
  rcases h with h | ⟨b, D, rfl, ⟨es, clock, h1, h2⟩, hr⟩
  · exact .inl h
  · exact .inr ⟨b, D, rfl, ⟨es, clock, (hb b rfl).trans h1, h2⟩, hr⟩
theorem MapAt.lt {w : World} {K : TypeId} {m : Option Nat} {l : List (Lit × Value)} (h : MapAt w K m l) {b : Nat} (hb : m = some b) : b < w.heap.size := by
  rcases h with ⟨rfl, _⟩ | ⟨b', D, rfl, ho, _⟩
  · cases hb
  · injection hb with hb; subst hb; exact ho.lt
theorem own_len {w : World} {K : TypeId} {b n : Nat} {D : DataW Value} {l : List (Lit × Value)} (h : w.ownsMap Tryd.prog K heldE b n D) (hr : Rep D l) : w.ownsMap Tryd.prog K heldE b l.length D := by
  have hs := hr.size
  obtain ⟨es, clock, hb, F, _, rfl⟩ := h
  refine ⟨es, clock, hb, F, ?_, rfl⟩
  rw [← hs]
  simp [Maps.size, length_sorted]
set_option maxRecDepth 20000 in
theorem MapAt.look {w : World} {K : TypeId} {m : Option Nat} {l : List (Lit × Value)} (h : MapAt w K m l) (law : Keyed Tryd.prog K) {t e : TypeId} (ht : Tryd.prog.underlying t = some (.map K e)) {z : Value} (hz : (zeroValue e).run Tryd.prog w = .ok z w) {key : Value} {kl : Lit} (hkey : keyOf Tryd.prog K key = some kl) :
    (∀ v, (kl, v) ∈ l → (Instr.lookup t (.map m) key true).run Tryd.prog w = .ok (.tuple #[v, .bool true]) w) ∧ ((∀ p ∈ l, p.1 ≠ kl) → (Instr.lookup t (.map m) key true).run Tryd.prog w = .ok (.tuple #[z, .bool false]) w) := by
  rcases h with ⟨rfl, rfl⟩ | ⟨b, D, rfl, ho, hr⟩
  · refine ⟨fun v hv => by simp at hv, fun _ => ?_⟩
    have := Maps.look_nil (w := w) true law ht hz hkey
    simpa using this
  · obtain ⟨v', ps, hrun, hv'⟩ := ho.look_ok law ht hz (zd := .held z) (zp := []) rfl hkey
    injection hv' with hv'
    injection hv' with hv' _
    refine ⟨fun v hv => ?_, fun hn => ?_⟩
    · obtain ⟨e1, e2⟩ := hr.at hv (.held z)
      rw [e1] at hv'
      injection hv' with hv'
      rw [hrun, e2, hv']
    · obtain ⟨e1, e2⟩ := hr.none hn (.held z)
      rw [e1] at hv'
      injection hv' with hv'
      rw [hrun, e2, hv']
set_option maxRecDepth 20000 in
theorem MapAt.store {w : World} {K : TypeId} {b : Nat} {l : List (Lit × Value)} (h : MapAt w K (some b) l) (law : Keyed Tryd.prog K) {t e : TypeId} (ht : Tryd.prog.underlying t = some (.map K e)) (hl : l.length ≤ 100000) {key val : Value} {kl : Lit} (hkey : keyOf Tryd.prog K key = some kl) :
    ∃ w', (Instr.mapUpdate t (.map (some b)) key val).run Tryd.prog w = .ok () w' ∧ MapAt w' K (some b) (l.filter (fun p => !p.1.sameKey kl) ++ [(kl, val)]) ∧ w.grownBy w' (some b) := by
  rcases h with ⟨h, _⟩ | ⟨b', D, hb, ho, hr⟩
  · cases h
  · injection hb with hb
    subst hb
    obtain ⟨w', hrun, ho', hg⟩ := ho.update law ht (by unfold maxLen; omega) hkey (d := .held val) (ps := []) rfl
    have hr' := hr.put (law.key hkey) val
    exact ⟨w', hrun, .inr ⟨b, _, rfl, own_len ho' hr', hr'⟩, hg⟩
theorem MapAt.made (w : World) (K : TypeId) : MapAt (w.alloc (.map #[] 0)) K (some w.heap.size) [] := .inr ⟨_, _, rfl, World.ownsMap_made w Tryd.prog K heldE, Rep.nil⟩

/-- Where a client and a number stand last, of the first n. -/
def lastI (ks : List (Int × Int)) (c m : Int) : Nat → Option Nat
  | 0 => none
  | n + 1 => if ks[n]? = some (c, m) then some n else lastI ks c m n
theorem lastI_succ (ks : List (Int × Int)) (c m : Int) (n : Nat) : lastI ks c m (n + 1) = if ks[n]? = some (c, m) then some n else lastI ks c m n := rfl
theorem lastI_some {ks : List (Int × Int)} {c m : Int} : ∀ {n i : Nat}, lastI ks c m n = some i → i < n ∧ ks[i]? = some (c, m)
  | 0, _, h => by cases h
  | n + 1, i, h => by
    unfold lastI at h
    by_cases e : ks[n]? = some (c, m)
    · rw [if_pos e] at h
      injection h with h
      subst h
      exact ⟨by omega, e⟩
    · rw [if_neg e] at h
      obtain ⟨h1, h2⟩ := lastI_some h
      exact ⟨by omega, h2⟩
theorem lastI_none {ks : List (Int × Int)} {c m : Int} : ∀ {n : Nat}, lastI ks c m n = none → ∀ i, i < n → ks[i]? ≠ some (c, m)
  | 0, _, i, hi => by omega
  | n + 1, h, i, hi => by
    unfold lastI at h
    by_cases e : ks[n]? = some (c, m)
    · rw [if_pos e] at h; cases h
    · rw [if_neg e] at h
      by_cases e2 : i = n
      · subst e2; exact e
      · exact lastI_none h i (by omega)
/-- An entry: a client, a number, a place. -/
def sent (a : Int × Int × Int) : Lit × Value := (pk a.1 a.2.1, .int .i64 a.2.2)
def wfK (a : Int × Int) : Prop := (Lit.int .i64 a.1).wf = true ∧ (Lit.int .i64 a.2).wf = true
/-- A map has just the last places of the first n. -/
structure QI (ks : List (Int × Int)) (n : Nat) (Q : List (Int × Int × Int)) : Prop where
  len : Q.length ≤ n
  wf : ∀ a ∈ Q, wfK (a.1, a.2.1)
  mem : ∀ a : Int × Int × Int, a ∈ Q ↔ ∃ i : Nat, lastI ks a.1 a.2.1 n = some i ∧ a.2.2 = i
theorem QI.nil (ks : List (Int × Int)) : QI ks 0 [] := ⟨Nat.le_refl _, fun _ h => (by cases h), fun a => ⟨fun h => (by cases h), fun h => by obtain ⟨i, h, _⟩ := h; cases h⟩⟩
def updQ (Q : List (Int × Int × Int)) (c m : Int) (n : Nat) : List (Int × Int × Int) := Q.filter (fun a => !(a.1 == c && a.2.1 == m)) ++ [(c, m, (n : Int))]
theorem QI.upd {ks : List (Int × Int)} {n : Nat} {Q : List (Int × Int × Int)} (h : QI ks n Q) {c m : Int} (hk : ks[n]? = some (c, m)) (hw : wfK (c, m)) : QI ks (n + 1) (updQ Q c m n) := by
  refine ⟨?_, fun a ha => ?_, fun a => ?_⟩
  · rw [updQ, List.length_append]
    have := List.length_filter_le (fun a : Int × Int × Int => !(a.1 == c && a.2.1 == m)) Q
    have := h.len
    simp only [List.length_cons, List.length_nil]
    omega
  · rcases List.mem_append.1 ha with ha | ha
    · exact h.wf a (List.mem_filter.1 ha).1
    · simp at ha
      subst ha
      exact hw
  · rw [updQ, List.mem_append, List.mem_filter, h.mem, lastI_succ]
    by_cases e : (c, m) = (a.1, a.2.1)
    · injection e with e1 e2
      subst e1; subst e2
      rw [if_pos hk]
      constructor
      · rintro (⟨_, h2⟩ | h2)
        · simp at h2
        · simp at h2
          exact ⟨n, rfl, by rw [h2]⟩
      · rintro ⟨i, h1, h2⟩
        injection h1 with h1
        subst h1
        right
        simp
        obtain ⟨x, y, z⟩ := a
        simp at h2 ⊢
        exact h2
    · have e' : ¬ ks[n]? = some (a.1, a.2.1) := fun h' => e (Option.some.inj (hk.symm.trans h'))
      rw [if_neg e']
      have hne : ¬ (a.1 = c ∧ a.2.1 = m) := fun h' => e (by rw [h'.1, h'.2])
      constructor
      · rintro (⟨h1, _⟩ | h2)
        · exact h1
        · simp at h2
          exact absurd ⟨by rw [h2], by rw [h2]⟩ hne
      · intro h1
        left
        refine ⟨h1, ?_⟩
        have hne2 : (a.1 == c && a.2.1 == m) = false := by
          rw [Bool.and_eq_false_iff]
          by_cases e1 : a.1 = c
          · right; simpa using fun h' => hne ⟨e1, h'⟩
          · left; simpa using e1
        rw [hne2]; rfl
theorem filter_q {Q : List (Int × Int × Int)} (hQ : ∀ a ∈ Q, wfK (a.1, a.2.1)) {c m : Int} (hw : wfK (c, m)) (n : Nat) : (Q.map sent).filter (fun p => !p.1.sameKey (pk c m)) ++ [(pk c m, .int .i64 (n : Int))] = (updQ Q c m n).map sent := by
  rw [updQ, List.map_append, List.filter_map]
  congr 1
  congr 1
  refine List.filter_congr fun a ha => ?_
  show (!(pk a.1 a.2.1).sameKey (pk c m)) = _
  congr 1
  by_cases e : a.1 = c ∧ a.2.1 = m
  · rw [e.1, e.2]
    rw [WideAt.sameKey_self (law87.key (keyOf_place hw.1 hw.2))]
    simp
  · have hne : pk a.1 a.2.1 ≠ pk c m := fun h' => e (pk_inj (hQ a ha).1 (hQ a ha).2 hw.1 hw.2 h')
    rw [Maps.sameKey_ne hne]
    have : (a.1 == c && a.2.1 == m) = false := by
      rw [Bool.and_eq_false_iff]
      by_cases e1 : a.1 = c
      · right; simpa using fun h' => e ⟨e1, h'⟩
      · left; simpa using e1
    rw [this]
set_option maxRecDepth 20000 in
/-- A place of a map. -/
theorem look_q {w : World} {q : Nat} {ks : List (Int × Int)} {n : Nat} {Q : List (Int × Int × Int)} (h : MapAt w 113 (some q) (Q.map sent)) (hQ : QI ks n Q) {c m : Int} (hw : wfK (c, m)) :
    (Instr.lookup 99 (.map (some q)) (.agg #[.int .i64 c, .int .i64 m]) true).run Tryd.prog w = .ok (.tuple #[.int .i64 (((lastI ks c m n).getD 0 : Nat) : Int), .bool (lastI ks c m n).isSome]) w := by
  obtain ⟨h1, h2⟩ := h.look law87 Tryd.underlying99 (z := .int .i64 0) (by kernel_rfl) (keyOf_place hw.1 hw.2)
  cases e : lastI ks c m n with
  | none =>
    refine h2 fun p hp => ?_
    obtain ⟨a, ha, rfl⟩ := List.mem_map.1 hp
    intro he
    obtain ⟨e1, e2⟩ := pk_inj (hQ.wf a ha).1 (hQ.wf a ha).2 hw.1 hw.2 he
    obtain ⟨i, h3, _⟩ := (hQ.mem a).1 ha
    have e1' : a.1 = c := e1
    have e2' : a.2.1 = m := e2
    rw [e1', e2', e] at h3
    cases h3
  | some i => exact h1 _ (List.mem_map.2 ⟨(c, m, (i : Int)), (hQ.mem _).2 ⟨i, e, rfl⟩, rfl⟩)
set_option maxRecDepth 20000 in
/-- An entry more. -/
theorem store_q {w : World} {q : Nat} {ks : List (Int × Int)} {n : Nat} {Q : List (Int × Int × Int)} (h : MapAt w 113 (some q) (Q.map sent)) (hQ : QI ks n Q) (hn : n ≤ 100000) {c m : Int} (hk : ks[n]? = some (c, m)) (hw : wfK (c, m)) :
    ∃ w', (Instr.mapUpdate 99 (.map (some q)) (.agg #[.int .i64 c, .int .i64 m]) (.int .i64 n)).run Tryd.prog w = .ok () w' ∧ MapAt w' 113 (some q) ((updQ Q c m n).map sent) ∧ QI ks (n + 1) (updQ Q c m n) ∧ w.grownBy w' (some q) := by
  obtain ⟨w', h1, h2, h3⟩ := h.store law87 Tryd.underlying99 (by rw [List.length_map]; have := hQ.len; omega) (val := .int .i64 (n : Int)) (keyOf_place hw.1 hw.2)
  rw [filter_q hQ.wf hw n] at h2
  exact ⟨w', h1, h2, hQ.upd hk hw, h3⟩
end
section
open Go.RowKit Go.Maps
attribute [local go_sem ↓] Go.wp_at_zero Go.wp_at_succ

def ck (c : Cl) : Int × Int := (c.cl, c.no)
def pk2 (p : Pt) : Int × Int := (p.cl, p.no)
theorem SlF.at10 {w : World} {a : Option Addr} {c : Nat} {l : List Cl} (h : SlF ccs 10 w (.slice a l.length c) l) {i : Nat} {cl no kind : Int} {k v od : List UInt8} {fr tt E : Int} {T : List UInt8} (hx : l[i]? = some ⟨cl, no, ⟨kind, k, v, od⟩, fr, tt, (T, E)⟩) :
    ∃ b o, a = some ⟨b, o, none⟩ ∧ w.cell? ⟨b, o + i * 10, none⟩ = some (.int .i64 cl) ∧ w.cell? ⟨b, o + i * 10 + 1, none⟩ = some (.int .i64 no) ∧ w.cell? ⟨b, o + i * 10 + 2, none⟩ = some (.int .i64 kind) ∧ w.cell? ⟨b, o + i * 10 + 3, none⟩ = some (.string (bs k)) ∧ w.cell? ⟨b, o + i * 10 + 4, none⟩ = some (.string (bs v)) ∧ w.cell? ⟨b, o + i * 10 + 5, none⟩ = some (.string (bs od)) ∧ w.cell? ⟨b, o + i * 10 + 6, none⟩ = some (.int .i64 fr) ∧ w.cell? ⟨b, o + i * 10 + 7, none⟩ = some (.int .i64 tt) ∧ w.cell? ⟨b, o + i * 10 + 8, none⟩ = some (.int .i64 E) ∧ w.cell? ⟨b, o + i * 10 + 9, none⟩ = some (.string (bs T)) := by
  obtain ⟨b, o, e, -, hc⟩ := h.at hx
  exact ⟨b, o, e, hc 0 _ rfl, hc 1 _ rfl, hc 2 _ rfl, hc 3 _ rfl, hc 4 _ rfl, hc 5 _ rfl, hc 6 _ rfl, hc 7 _ rfl, hc 8 _ rfl, hc 9 _ rfl⟩
theorem SlF.at5 {w : World} {a : Option Addr} {c : Nat} {l : List Pt} (h : SlF pks 5 w (.slice a l.length c) l) {i : Nat} {tm cl no E : Int} {T : List UInt8} (hx : l[i]? = some ⟨tm, cl, no, (T, E)⟩) :
    ∃ b o, a = some ⟨b, o, none⟩ ∧ w.cell? ⟨b, o + i * 5, none⟩ = some (.int .i64 tm) ∧ w.cell? ⟨b, o + i * 5 + 1, none⟩ = some (.int .i64 cl) ∧ w.cell? ⟨b, o + i * 5 + 2, none⟩ = some (.int .i64 no) ∧ w.cell? ⟨b, o + i * 5 + 3, none⟩ = some (.int .i64 E) ∧ w.cell? ⟨b, o + i * 5 + 4, none⟩ = some (.string (bs T)) := by
  obtain ⟨b, o, e, -, hc⟩ := h.at hx
  exact ⟨b, o, e, hc 0 _ rfl, hc 1 _ rfl, hc 2 _ rfl, hc 3 _ rfl, hc 4 _ rfl⟩
theorem set3h {w : World} {B : Nat} {t : TypeId} {fr : Nat × Nat} {x0 x1 x2 : Value} (h : w.heap[B]? = some (.cells #[x0, x1, x2] t fr)) (a0 a1 a2 : Value) :
    (((w.setCell ⟨B, 0, none⟩ a0).setCell ⟨B, 1, none⟩ a1).setCell ⟨B, 2, none⟩ a2).heap[B]? = some (.cells #[a0, a1, a2] t fr) := setB (setB (setB h 0 a0) 1 a1) 2 a2
theorem MapAt.set {w : World} {K : TypeId} {m : Option Nat} {l : List (Lit × Value)} (h : MapAt w K m l) {x : Nat} (hx : m ≠ some x) (j : Nat) (v : Value) : MapAt (w.setCell ⟨x, j, none⟩ v) K m l :=
  h.keep fun b hb => set_far (fun e => hx (by rw [hb, e])) _ _
/-- In the midst of newHistory. -/
structure NH (ks : List (Int × Int)) (N R H q : Nat) (vc vp : Value) (w : World) (Q : List (Int × Int × Int)) (n : Nat) (W : World) : Prop where
  res : W.heap[R]? = some (.cells #[.slice none 0 0, .slice none 0 0, .map none] 101)
  box : W.heap[H]? = some (.cells #[vc, vp, .map (some q)] 101)
  map : MapAt W 113 (some q) (Q.map sent)
  qi : QI ks n Q
  ne : R ≠ q ∧ H ≠ q ∧ N ≤ q ∧ N ≤ R ∧ N ≤ H
  below : Below N w W
theorem NH.on {ks : List (Int × Int)} {N R H q : Nat} {vc vp : Value} {w : World} {Q : List (Int × Int × Int)} {n : Nat} {W W' : World} (h : NH ks N R H q vc vp w Q n W) (hb : Below W.heap.size W W') : NH ks N R H q vc vp w Q n W' := by
  have hR : R < W.heap.size := (Array.getElem?_eq_some_iff.1 h.res).1
  have hH : H < W.heap.size := (Array.getElem?_eq_some_iff.1 h.box).1
  exact ⟨(hb.block R hR).trans h.res, (hb.block H hH).trans h.box, h.map.keep fun b e => hb.block b (h.map.lt e), h.qi, h.ne, h.below.trans (hb.mono (by have := h.ne.2.2.2.1; omega))⟩
theorem NH.grown {ks : List (Int × Int)} {N R H q : Nat} {vc vp : Value} {w : World} {Q Q' : List (Int × Int × Int)} {n n' : Nat} {W W' : World} (h : NH ks N R H q vc vp w Q n W) (hM : MapAt W' 113 (some q) (Q'.map sent)) (hQ : QI ks n' Q') (hg : W.grownBy W' (some q)) : NH ks N R H q vc vp w Q' n' W' := by
  have hR : R < W.heap.size := (Array.getElem?_eq_some_iff.1 h.res).1
  have hH : H < W.heap.size := (Array.getElem?_eq_some_iff.1 h.box).1
  exact ⟨(hg.block R hR (fun e => h.ne.1 (Option.some.inj e))).trans h.res, (hg.block H hH (fun e => h.ne.2.1 (Option.some.inj e))).trans h.box, hM, hQ, h.ne, h.below.grown hg (by have := h.ne.2.2.2.1; omega) (fun z hz => by injection hz with hz; subst hz; exact h.ne.2.2.1)⟩
set_option maxRecDepth 20000 in
set_option maxHeartbeats 2000000 in
theorem newHistory_any (calls : List Cl) (vc : Value) (pa : Option Addr) (pl pcap : Nat) (w : World) (hc : SlF ccs 10 w vc calls) (hl : calls.length ≤ 100000) (hw : ∀ c ∈ calls, wfK (ck c)) :
    Calls Tryd.prog 37 #[vc, .slice pa pl pcap] w fun e W' => ∃ q Q, e = .returned (.agg #[vc, .slice pa pl pcap, .map (some q)]) ∧ MapAt W' 113 (some q) (Q.map sent) ∧ QI (calls.map ck) calls.length Q ∧ w.heap.size ≤ q ∧ Below w.heap.size w W' := by
  obtain ⟨va, vcap, rfl⟩ := hc.slice
  have HV : Hid (SlF ccs 10 w (.slice va calls.length vcap) calls ∧ ∀ c ∈ calls, wfK (ck c)) := ⟨hc, hw⟩
  clear hc hw
  have hmm := @run_makeMap Tryd.prog
  go_enter Tryd.func37, Tryd.ntmps37
  go_upto_region 2 with fail
  obtain ⟨N, hN⟩ : ∃ N, w.heap.size = N := ⟨_, rfl⟩
  have hb2 : Below w.heap.size w (((w.alloc (.cells #[.slice none 0 0, .slice none 0 0, .map none] 101)).alloc (.map #[] 0)).alloc (.cells #[.slice va calls.length vcap, .slice pa pl pcap, .map (some (w.heap.size + 1))] 101)) := (((Below.refl _ w).alloc (Nat.le_refl _) _).alloc (by simp) _).alloc (by simp; omega) _
  have hr2 : (((w.alloc (.cells #[.slice none 0 0, .slice none 0 0, .map none] 101)).alloc (.map #[] 0)).alloc (.cells #[.slice va calls.length vcap, .slice pa pl pcap, .map (some (w.heap.size + 1))] 101)).heap[w.heap.size]? = some (.cells #[.slice none 0 0, .slice none 0 0, .map none] 101) := ((((Below.refl (w.heap.size + 1) (w.alloc (.cells #[.slice none 0 0, .slice none 0 0, .map none] 101))).alloc (by simp) _).alloc (by simp) _).block w.heap.size (by omega)).trans (heap_alloc_new _ _)
  have hm2 : MapAt (((w.alloc (.cells #[.slice none 0 0, .slice none 0 0, .map none] 101)).alloc (.map #[] 0)).alloc (.cells #[.slice va calls.length vcap, .slice pa pl pcap, .map (some (w.heap.size + 1))] 101)) 113 (some (w.heap.size + 1)) [] := by
    have h1 := MapAt.made (w.alloc (.cells #[.slice none 0 0, .slice none 0 0, .map none] 101)) 113
    rw [World.size_alloc] at h1
    exact h1.keep fun b hb => by
      injection hb with hb
      subst hb
      exact ((Below.refl (w.heap.size + 2) _).alloc (by simp) _).block (w.heap.size + 1) (by omega)
  have hh2 : (((w.alloc (.cells #[.slice none 0 0, .slice none 0 0, .map none] 101)).alloc (.map #[] 0)).alloc (.cells #[.slice va calls.length vcap, .slice pa pl pcap, .map (some (w.heap.size + 1))] 101)).heap[w.heap.size + 1 + 1]? = some (.cells #[.slice va calls.length vcap, .slice pa pl pcap, .map (some (w.heap.size + 1))] 101) := by
    have := heap_alloc_new ((w.alloc (.cells #[.slice none 0 0, .slice none 0 0, .map none] 101)).alloc (.map #[] 0)) (.cells #[.slice va calls.length vcap, .slice pa pl pcap, .map (some (w.heap.size + 1))] 101)
    rw [World.size_alloc, World.size_alloc] at this
    exact this
  have HN : Hid (w.heap.size = N) := hN
  rw [hN] at hb2 hr2 hm2 hh2 ⊢
  obtain ⟨Wa, hWa⟩ : ∃ W, (((w.alloc (.cells #[.slice none 0 0, .slice none 0 0, .map none] 101)).alloc (.map #[] 0)).alloc (.cells #[.slice va calls.length vcap, .slice pa pl pcap, .map (some (N + 1))] 101)) = W := ⟨_, rfl⟩
  rw [hWa] at hb2 hr2 hm2 hh2
  try rw [hWa]
  have hNH : NH (calls.map ck) N N (N + 1 + 1) (N + 1) (.slice va calls.length vcap) (.slice pa pl pcap) w [] 0 Wa := ⟨hr2, hh2, hm2, QI.nil _, ⟨by omega, by omega, by omega, by omega, by omega⟩, hb2⟩
  have HNH : Hid (_) := hNH
  clear hb2 hr2 hm2 hh2 hWa hNH hN hmm
  go_wp2_with fail
  go_loopg [14] calls.length (fun gk j wr => ∃ (n : Nat) (Q : List (Int × Int × Int)), n + gk = calls.length ∧ j = .int .i64 n ∧ NH (calls.map ck) N N (N + 1 + 1) (N + 1) (.slice va calls.length vcap) (.slice pa pl pcap) w Q n wr)
  case atStart => exact ⟨0, [], by omega, rfl, HNH.out⟩
  case round =>
    obtain ⟨n, Q, hnn, rfl, hR⟩ := hrel
    by_cases hn1 : n = calls.length
    · subst hn1
      have hres := hR.res
      have hbox := hR.box
      have a0 := cellB hres 0 _ rfl
      have a1 := cellB hres 1 _ rfl
      have a2 := cellB hres 2 _ rfl
      have f0 := frozenB hres 0
      have f1 := frozenB hres 1
      have f2 := frozenB hres 2
      have b0 := cellB hbox 0 _ rfl
      have b1 := cellB hbox 1 _ rfl
      have b2 := cellB hbox 2 _ rfl
      have hS := set3h hres (.slice va calls.length vcap) (.slice pa pl pcap) (.map (some (N + 1)))
      have r0 := cellB hS 0 _ rfl
      have r1 := cellB hS 1 _ rfl
      have r2 := cellB hS 2 _ rfl
      have HR : Hid (_) := And.intro r0 (And.intro r1 r2)
      have HQ : Hid (NH (calls.map ck) N N (N + 1 + 1) (N + 1) (.slice va calls.length vcap) (.slice pa pl pcap) w Q calls.length wr) := hR
      clear hS r0 r1 r2 hres hbox hR HNH HV
      go_wp2
      obtain ⟨r0, r1, r2⟩ := HR.out
      have hR := HQ.out
      refine bodyPost_ret (v := .agg #[.slice va calls.length vcap, .slice pa pl pcap, .map (some (N + 1))]) (by simp [results, Tryd.f37, go_sem, r0, r1, r2]) rfl ⟨N + 1, Q, rfl, ((hR.map.set ?_ _ _).set ?_ _ _).set ?_ _ _, hR.qi, by rw [HN.out]; omega, ?_⟩
      · simp
      · simp
      · simp
      · rw [HN.out]
        exact ((hR.below.setCell (p := ⟨N, 0, none⟩) (Nat.le_refl _) _).setCell (p := ⟨N, 1, none⟩) (Nat.le_refl _) _).setCell (p := ⟨N, 2, none⟩) (Nat.le_refl _) _
    · have hn2 : n < calls.length := by omega
      obtain ⟨c, ho⟩ : ∃ c, calls[n]? = some c := ⟨_, List.getElem?_eq_getElem hn2⟩
      have hwf := HV.out.2 c (List.mem_of_getElem? ho)
      have hks : (calls.map ck)[n]? = some (ck c) := by rw [List.getElem?_map, ho]; rfl
      obtain ⟨cl, no, ⟨kind, k, v, od⟩, fr, tt, T, E⟩ := c
      obtain ⟨g, e', hg', y0, y1, y2, y3, y4, y5, y6, y7, y8, y9⟩ := (HV.out.1.on (hR.below) (by rw [HN.out]; exact Nat.le_refl _)).at10 ho
      subst hg'
      have d0 : (0 : Int) ≤ (n : Int) := by omega
      have d1 : (n : Int) < (calls.length : Int) := by omega
      clear ho
      go_upto_region 5 with fail
      obtain ⟨D, hD⟩ : ∃ D, wr.heap.size = D := ⟨_, rfl⟩
      have rD := heap_alloc_new wr (.cells #[.int .i64 cl, .int .i64 no, .int .i64 kind, .string (bs k), .string (bs v), .string (bs od), .int .i64 fr, .int .i64 tt, .int .i64 E, .string (bs T)] 51)
      have hbA := (Below.refl wr.heap.size wr).alloc (Nat.le_refl _) (.cells #[.int .i64 cl, .int .i64 no, .int .i64 kind, .string (bs k), .string (bs v), .string (bs od), .int .i64 fr, .int .i64 tt, .int .i64 E, .string (bs T)] 51)
      obtain ⟨WA, hWA⟩ : ∃ W, wr.alloc (.cells #[.int .i64 cl, .int .i64 no, .int .i64 kind, .string (bs k), .string (bs v), .string (bs od), .int .i64 fr, .int .i64 tt, .int .i64 E, .string (bs T)] 51) = W := ⟨_, rfl⟩
      rw [hWA] at rD hbA ⊢
      have hRA := hR.on hbA
      have b2 := cellB hRA.box 2 _ rfl
      rw [hD] at rD ⊢
      have x0 := cellB rD 0 _ rfl
      have x1 := cellB rD 1 _ rfl
      obtain ⟨w', hup, hM', hQ', hg⟩ := store_q hRA.map hRA.qi (by omega) hks hwf
      have hR2 := hRA.grown hM' hQ' hg
      have HR2 : Hid (_) := hR2
      have hup' : (Instr.mapUpdate 99 (.map (some (N + 1))) (.agg #[.int .i64 cl, .int .i64 no]) (.int .i64 n)).run Tryd.prog WA = .ok () w' := hup
      clear hup hM' hQ' hg hR2 hRA hR rD hbA hWA hD y0 y1 y2 y3 y4 y5 y6 y7 y8 y9 hks hwf
      go_wp2_with fail
      go_roundg (calls.length - (n + 1))
      case measure => omega
      case rel => exact ⟨n + 1, _, by omega, by go_num, HR2.out⟩
end
section
open Go.RowKit Go.Maps
attribute [local go_sem ↓] Go.wp_at_zero Go.wp_at_succ

theorem set10h {w : World} {B : Nat} {t : TypeId} {fr : Nat × Nat} {x0 x1 x2 x3 x4 x5 x6 x7 x8 x9 : Value} (h : w.heap[B]? = some (.cells #[x0, x1, x2, x3, x4, x5, x6, x7, x8, x9] t fr)) (a0 a1 a2 a3 a4 a5 a6 a7 a8 a9 : Value) :
    ((((((((((w.setCell ⟨B, 0, none⟩ (a0)).setCell ⟨B, 1, none⟩ (a1)).setCell ⟨B, 2, none⟩ (a2)).setCell ⟨B, 3, none⟩ (a3)).setCell ⟨B, 4, none⟩ (a4)).setCell ⟨B, 5, none⟩ (a5)).setCell ⟨B, 6, none⟩ (a6)).setCell ⟨B, 7, none⟩ (a7)).setCell ⟨B, 8, none⟩ (a8)).setCell ⟨B, 9, none⟩ (a9)).heap[B]? = some (.cells #[a0, a1, a2, a3, a4, a5, a6, a7, a8, a9] t fr) := by
  have h0 := setB h 0 a0
  have h1 := setB h0 1 a1
  have h2 := setB h1 2 a2
  have h3 := setB h2 3 a3
  have h4 := setB h3 4 a4
  have h5 := setB h4 5 a5
  have h6 := setB h5 6 a6
  have h7 := setB h6 7 a7
  have h8 := setB h7 8 a8
  have h9 := setB h8 9 a9
  simpa using h9
theorem below_set10 {w W : World} {b B : Nat} (h : Below b w W) (hB : b ≤ B) (a0 a1 a2 a3 a4 a5 a6 a7 a8 a9 : Value) : Below b w ((((((((((W.setCell ⟨B, 0, none⟩ (a0)).setCell ⟨B, 1, none⟩ (a1)).setCell ⟨B, 2, none⟩ (a2)).setCell ⟨B, 3, none⟩ (a3)).setCell ⟨B, 4, none⟩ (a4)).setCell ⟨B, 5, none⟩ (a5)).setCell ⟨B, 6, none⟩ (a6)).setCell ⟨B, 7, none⟩ (a7)).setCell ⟨B, 8, none⟩ (a8)).setCell ⟨B, 9, none⟩ (a9)) :=
  ((((((((((h.setCell (p := ⟨B, 0, none⟩) hB a0).setCell (p := ⟨B, 1, none⟩) hB a1).setCell (p := ⟨B, 2, none⟩) hB a2).setCell (p := ⟨B, 3, none⟩) hB a3).setCell (p := ⟨B, 4, none⟩) hB a4).setCell (p := ⟨B, 5, none⟩) hB a5).setCell (p := ⟨B, 6, none⟩) hB a6).setCell (p := ⟨B, 7, none⟩) hB a7).setCell (p := ⟨B, 8, none⟩) hB a8).setCell (p := ⟨B, 9, none⟩) hB a9)
theorem MapAt.set10 {w : World} {K : TypeId} {m : Option Nat} {l : List (Lit × Value)} (h : MapAt w K m l) {x : Nat} (hx : m ≠ some x) (a0 a1 a2 a3 a4 a5 a6 a7 a8 a9 : Value) : MapAt ((((((((((w.setCell ⟨x, 0, none⟩ (a0)).setCell ⟨x, 1, none⟩ (a1)).setCell ⟨x, 2, none⟩ (a2)).setCell ⟨x, 3, none⟩ (a3)).setCell ⟨x, 4, none⟩ (a4)).setCell ⟨x, 5, none⟩ (a5)).setCell ⟨x, 6, none⟩ (a6)).setCell ⟨x, 7, none⟩ (a7)).setCell ⟨x, 8, none⟩ (a8)).setCell ⟨x, 9, none⟩ (a9)) K m l :=
  ((((((((((h.set hx 0 a0).set hx 1 a1).set hx 2 a2).set hx 3 a3).set hx 4 a4).set hx 5 a5).set hx 6 a6).set hx 7 a7).set hx 8 a8).set hx 9 a9)

/-- The call of a point. -/
def callOf (calls : List Cl) (p : Pt) : Option Cl := (lastI (calls.map ck) p.cl p.no calls.length).bind fun i => calls[i]?
def clZ : Cl := ⟨0, 0, ⟨0, [], [], []⟩, 0, 0, ([], 0)⟩
def clV (c : Cl) : Value := .agg #[.int .i64 c.cl, .int .i64 c.no, .int .i64 c.op.kind, .string (bs c.op.k), .string (bs c.op.v), .string (bs c.op.o), .int .i64 c.fr, .int .i64 c.tt, .int .i64 c.an.2, .string (bs c.an.1)]
def ptV (p : Pt) : Value := .agg #[.int .i64 p.tm, .int .i64 p.cl, .int .i64 p.no, .int .i64 p.an.2, .string (bs p.an.1)]
theorem callOf_lt {calls : List Cl} {p : Pt} {i : Nat} (h : lastI (calls.map ck) p.cl p.no calls.length = some i) : ∃ c, calls[i]? = some c ∧ i < calls.length ∧ callOf calls p = some c := by
  obtain ⟨h1, h2⟩ := lastI_some h
  rw [List.getElem?_map] at h2
  cases e : calls[i]? with
  | none => rw [e] at h2; cases h2
  | some c => exact ⟨c, rfl, h1, by rw [callOf, h]; exact e⟩
set_option maxRecDepth 20000 in
set_option maxHeartbeats 3000000 in
theorem callOf_any (calls : List Cl) (vc : Value) (pa : Option Addr) (pl pcap q : Nat) (Q : List (Int × Int × Int)) (p : Pt) (w : World) (hc : SlF ccs 10 w vc calls) (hM : MapAt w 113 (some q) (Q.map sent)) (hQ : QI (calls.map ck) calls.length Q) (hw : wfK (pk2 p)) :
    Calls Tryd.prog 54 #[.agg #[vc, .slice pa pl pcap, .map (some q)], ptV p] w fun e W' => e = .returned (.tuple #[clV ((callOf calls p).getD clZ), .bool (callOf calls p).isSome]) ∧ Below w.heap.size w W' := by
  obtain ⟨va, vcap, rfl⟩ := hc.slice
  obtain ⟨tm, pcl, pno, pT, pE⟩ := p
  show Calls Tryd.prog 54 #[.agg #[.slice va calls.length vcap, .slice pa pl pcap, .map (some q)], .agg #[.int .i64 tm, .int .i64 pcl, .int .i64 pno, .int .i64 pE, .string (bs pT)]] w _
  obtain ⟨W3, hW3⟩ : ∃ W, ((w.alloc (.cells #[.slice va calls.length vcap, .slice pa pl pcap, .map (some q)] 101)).alloc (.cells #[.int .i64 tm, .int .i64 pcl, .int .i64 pno, .int .i64 pE, .string (bs pT)] 56)).alloc (.cells #[.int .i64 0, .int .i64 0, .int .i64 0, .string ⟨#[]⟩, .string ⟨#[]⟩, .string ⟨#[]⟩, .int .i64 0, .int .i64 0, .int .i64 0, .string ⟨#[]⟩] 51) = W := ⟨_, rfl⟩
  obtain ⟨N, hN⟩ : ∃ N, w.heap.size = N := ⟨_, rfl⟩
  have hb1 : Below N w W3 := by rw [← hW3, ← hN]; exact (((Below.refl _ w).alloc (Nat.le_refl _) _).alloc (by simp) _).alloc (by simp; omega) _
  have hz : W3.heap.size = N + 3 := by rw [← hW3, ← hN]; simp
  have z0 : W3.heap[N]? = some (.cells #[.slice va calls.length vcap, .slice pa pl pcap, .map (some q)] 101) := by
    rw [← hW3, ← hN]
    exact (((Below.refl (w.heap.size + 1) _).alloc (by simp) _).alloc (by simp) _).block w.heap.size (by omega) |>.trans (heap_alloc_new _ _)
  have z1 : W3.heap[N + 1]? = some (.cells #[.int .i64 tm, .int .i64 pcl, .int .i64 pno, .int .i64 pE, .string (bs pT)] 56) := by
    rw [← hW3, ← hN]
    refine (((Below.refl (w.heap.size + 2) _).alloc (by simp) _).block (w.heap.size + 1) (by omega)).trans ?_
    have := heap_alloc_new (w.alloc (.cells #[.slice va calls.length vcap, .slice pa pl pcap, .map (some q)] 101)) (.cells #[.int .i64 tm, .int .i64 pcl, .int .i64 pno, .int .i64 pE, .string (bs pT)] 56)
    rw [World.size_alloc] at this
    exact this
  have z2 : W3.heap[N + 1 + 1]? = some (.cells #[.int .i64 0, .int .i64 0, .int .i64 0, .string ⟨#[]⟩, .string ⟨#[]⟩, .string ⟨#[]⟩, .int .i64 0, .int .i64 0, .int .i64 0, .string ⟨#[]⟩] 51) := by
    rw [← hW3, ← hN]
    have := heap_alloc_new ((w.alloc (.cells #[.slice va calls.length vcap, .slice pa pl pcap, .map (some q)] 101)).alloc (.cells #[.int .i64 tm, .int .i64 pcl, .int .i64 pno, .int .i64 pE, .string (bs pT)] 56)) (.cells #[.int .i64 0, .int .i64 0, .int .i64 0, .string ⟨#[]⟩, .string ⟨#[]⟩, .string ⟨#[]⟩, .int .i64 0, .int .i64 0, .int .i64 0, .string ⟨#[]⟩] 51)
    rw [World.size_alloc, World.size_alloc] at this
    exact this
  have hc3 := hc.on hb1 (by omega)
  have hM3 : MapAt W3 113 (some q) (Q.map sent) := hM.keep fun b e => hb1.block b (by have := hM.lt e; omega)
  have HP : Hid (∀ W, Below (N + 3) W3 W → Calls Tryd.prog 56 #[.agg #[.int .i64 tm, .int .i64 pcl, .int .i64 pno, .int .i64 pE, .string (bs pT)]] W fun e W' => e = .returned (.agg #[.int .i64 pcl, .int .i64 pno]) ∧ Below N w W' ∧ W'.heap[N + 1 + 1]? = some (.cells #[.int .i64 0, .int .i64 0, .int .i64 0, .string ⟨#[]⟩, .string ⟨#[]⟩, .string ⟨#[]⟩, .int .i64 0, .int .i64 0, .int .i64 0, .string ⟨#[]⟩] 51) ∧ SlF ccs 10 W' (.slice va calls.length vcap) calls ∧ (Instr.lookup 99 (.map (some q)) (.agg #[.int .i64 pcl, .int .i64 pno]) true).run Tryd.prog W' = .ok (.tuple #[.int .i64 (((lastI (calls.map ck) pcl pno calls.length).getD 0 : Nat) : Int), .bool (lastI (calls.map ck) pcl pno calls.length).isSome]) W' ∧ W'.cell? ⟨N, 0, none⟩ = some (.slice va calls.length vcap) ∧ W'.cell? ⟨N, 2, none⟩ = some (.map (some q)) ∧ W'.cell? ⟨N + 1, 0, none⟩ = some (.int .i64 tm) ∧ W'.cell? ⟨N + 1, 1, none⟩ = some (.int .i64 pcl) ∧ W'.cell? ⟨N + 1, 2, none⟩ = some (.int .i64 pno) ∧ W'.cell? ⟨N + 1, 3, none⟩ = some (.int .i64 pE) ∧ W'.cell? ⟨N + 1, 4, none⟩ = some (.string (bs pT))) := fun W hW => (request_any tm pcl pno pE pT W).mono fun e W' hh => by
    have hb' := hW.trans (hh.2.mono (by have := hW.size; omega))
    have g0 := (hb'.block N (by omega)).trans z0
    have g1 := (hb'.block (N + 1) (by omega)).trans z1
    exact ⟨hh.1, hb1.trans (hb'.mono (by omega)), (hb'.block (N + 1 + 1) (by omega)).trans z2, hc3.on hb' (by omega), look_q (hM3.keep fun b e => hb'.block b (by have := hM3.lt e; omega)) hQ hw, cellB g0 0 _ rfl, cellB g0 2 _ rfl, cellB g1 0 _ rfl, cellB g1 1 _ rfl, cellB g1 2 _ rfl, cellB g1 3 _ rfl, cellB g1 4 _ rfl⟩
  have HW : Hid (((w.alloc (.cells #[.slice va calls.length vcap, .slice pa pl pcap, .map (some q)] 101)).alloc (.cells #[.int .i64 tm, .int .i64 pcl, .int .i64 pno, .int .i64 pE, .string (bs pT)] 56)).alloc (.cells #[.int .i64 0, .int .i64 0, .int .i64 0, .string ⟨#[]⟩, .string ⟨#[]⟩, .string ⟨#[]⟩, .int .i64 0, .int .i64 0, .int .i64 0, .string ⟨#[]⟩] 51) = W3) := hW3
  have HN : Hid (w.heap.size = N) := hN
  have c0 := cellB z0 0 _ rfl
  have c2 := cellB z0 2 _ rfl
  have d0 := cellB z1 0 _ rfl
  have d1 := cellB z1 1 _ rfl
  have d2 := cellB z1 2 _ rfl
  have d3 := cellB z1 3 _ rfl
  have d4 := cellB z1 4 _ rfl
  clear hc hM hQ hw hW3 hN hb1 hz z0 z1 z2 hc3 hM3
  cases hL : lastI (calls.map ck) pcl pno calls.length with
  | none =>
    rw [hL] at HP
    have hcf : callOf calls ⟨tm, pcl, pno, (pT, pE)⟩ = none := by show Option.bind (lastI (calls.map ck) pcl pno calls.length) _ = none; rw [hL]; rfl
    rw [hcf]
    have HP' : Hid (∀ W, Below (N + 3) W3 W → Calls Tryd.prog 56 #[.agg #[.int .i64 tm, .int .i64 pcl, .int .i64 pno, .int .i64 pE, .string (bs pT)]] W fun e W' => e = .returned (.agg #[.int .i64 pcl, .int .i64 pno]) ∧ Below N w W' ∧ W'.heap[N + 1 + 1]? = some (.cells #[.int .i64 0, .int .i64 0, .int .i64 0, .string ⟨#[]⟩, .string ⟨#[]⟩, .string ⟨#[]⟩, .int .i64 0, .int .i64 0, .int .i64 0, .string ⟨#[]⟩] 51) ∧ SlF ccs 10 W' (.slice va calls.length vcap) calls ∧ (Instr.lookup 99 (.map (some q)) (.agg #[.int .i64 pcl, .int .i64 pno]) true).run Tryd.prog W' = .ok (.tuple #[.int .i64 0, .bool false]) W' ∧ W'.cell? ⟨N, 0, none⟩ = some (.slice va calls.length vcap) ∧ W'.cell? ⟨N, 2, none⟩ = some (.map (some q)) ∧ W'.cell? ⟨N + 1, 0, none⟩ = some (.int .i64 tm) ∧ W'.cell? ⟨N + 1, 1, none⟩ = some (.int .i64 pcl) ∧ W'.cell? ⟨N + 1, 2, none⟩ = some (.int .i64 pno) ∧ W'.cell? ⟨N + 1, 3, none⟩ = some (.int .i64 pE) ∧ W'.cell? ⟨N + 1, 4, none⟩ = some (.string (bs pT))) := HP.out
    clear HP hcf hL
    go_enter Tryd.func54, Tryd.ntmps54
    go_upto_region 1 with fail
    rw [HN.out, HW.out]
    go_region_held3 (fun W => W.cell? ⟨N, 0, none⟩ = some (.slice va calls.length vcap) ∧ W.cell? ⟨N, 2, none⟩ = some (.map (some q)) ∧ W.cell? ⟨N + 1, 0, none⟩ = some (.int .i64 tm) ∧ W.cell? ⟨N + 1, 1, none⟩ = some (.int .i64 pcl) ∧ W.cell? ⟨N + 1, 2, none⟩ = some (.int .i64 pno) ∧ W.cell? ⟨N + 1, 3, none⟩ = some (.int .i64 pE) ∧ W.cell? ⟨N + 1, 4, none⟩ = some (.string (bs pT))) (go_keep)
      (first | (go_at_call 56; refine (HP'.out _ (by first | exact Below.refl _ _ | exact below_drew (Below.refl _ _) | exact below_drewN (Below.refl _ _) _)).mono ?_; rintro e w1 ⟨rfl, hB1, hres, hc1, hlk, e0, e2, e3, e4, e5, e6, e7⟩))
    clear c0 c2 d0 d1 d2 d3 d4 e0 e2 e3 e4 e5 e6 e7 hlk hc1 HP' HW
    have hS := set10h hres (.int .i64 0) (.int .i64 0) (.int .i64 0) (.string ⟨#[]⟩) (.string ⟨#[]⟩) (.string ⟨#[]⟩) (.int .i64 0) (.int .i64 0) (.int .i64 0) (.string ⟨#[]⟩)
    have r0 := cellB hS 0 _ rfl
    have r1 := cellB hS 1 _ rfl
    have r2 := cellB hS 2 _ rfl
    have r3 := cellB hS 3 _ rfl
    have r4 := cellB hS 4 _ rfl
    have r5 := cellB hS 5 _ rfl
    have r6 := cellB hS 6 _ rfl
    have r7 := cellB hS 7 _ rfl
    have r8 := cellB hS 8 _ rfl
    have r9 := cellB hS 9 _ rfl
    have q0 := cellB hres 0 _ rfl
    have q1 := cellB hres 1 _ rfl
    have q2 := cellB hres 2 _ rfl
    have q3 := cellB hres 3 _ rfl
    have q4 := cellB hres 4 _ rfl
    have q5 := cellB hres 5 _ rfl
    have q6 := cellB hres 6 _ rfl
    have q7 := cellB hres 7 _ rfl
    have q8 := cellB hres 8 _ rfl
    have q9 := cellB hres 9 _ rfl
    have f0 := frozenB hres 0
    have f1 := frozenB hres 1
    have f2 := frozenB hres 2
    have f3 := frozenB hres 3
    have f4 := frozenB hres 4
    have f5 := frozenB hres 5
    have f6 := frozenB hres 6
    have f7 := frozenB hres 7
    have f8 := frozenB hres 8
    have f9 := frozenB hres 9
    have HR : Hid (_) := And.intro r0 (And.intro r1 (And.intro r2 (And.intro r3 (And.intro r4 (And.intro r5 (And.intro r6 (And.intro r7 (And.intro r8 (r9)))))))))
    have HB1 : Hid (Below N w w1) := hB1
    clear hS hres hB1 r0 r1 r2 r3 r4 r5 r6 r7 r8 r9
    go_wp2
    obtain ⟨r0, r1, r2, r3, r4, r5, r6, r7, r8, r9⟩ := HR.out
    refine bodyPost_ret (v := .tuple #[.agg #[.int .i64 0, .int .i64 0, .int .i64 0, .string ⟨#[]⟩, .string ⟨#[]⟩, .string ⟨#[]⟩, .int .i64 0, .int .i64 0, .int .i64 0, .string ⟨#[]⟩], .bool false]) (by simp [results, Tryd.f54, go_sem, r0, r1, r2, r3, r4, r5, r6, r7, r8, r9]) rfl ⟨rfl, ?_⟩
    rw [HN.out]
    exact below_set10 HB1.out (by omega) (.int .i64 0) (.int .i64 0) (.int .i64 0) (.string ⟨#[]⟩) (.string ⟨#[]⟩) (.string ⟨#[]⟩) (.int .i64 0) (.int .i64 0) (.int .i64 0) (.string ⟨#[]⟩)
  | some i =>
    obtain ⟨c, hci, hil, hcf⟩ := callOf_lt (p := ⟨tm, pcl, pno, (pT, pE)⟩) hL
    rw [hcf]
    rw [hL] at HP
    have HP' : Hid (∀ W, Below (N + 3) W3 W → Calls Tryd.prog 56 #[.agg #[.int .i64 tm, .int .i64 pcl, .int .i64 pno, .int .i64 pE, .string (bs pT)]] W fun e W' => e = .returned (.agg #[.int .i64 pcl, .int .i64 pno]) ∧ Below N w W' ∧ W'.heap[N + 1 + 1]? = some (.cells #[.int .i64 0, .int .i64 0, .int .i64 0, .string ⟨#[]⟩, .string ⟨#[]⟩, .string ⟨#[]⟩, .int .i64 0, .int .i64 0, .int .i64 0, .string ⟨#[]⟩] 51) ∧ SlF ccs 10 W' (.slice va calls.length vcap) calls ∧ (Instr.lookup 99 (.map (some q)) (.agg #[.int .i64 pcl, .int .i64 pno]) true).run Tryd.prog W' = .ok (.tuple #[.int .i64 (i : Int), .bool true]) W' ∧ W'.cell? ⟨N, 0, none⟩ = some (.slice va calls.length vcap) ∧ W'.cell? ⟨N, 2, none⟩ = some (.map (some q)) ∧ W'.cell? ⟨N + 1, 0, none⟩ = some (.int .i64 tm) ∧ W'.cell? ⟨N + 1, 1, none⟩ = some (.int .i64 pcl) ∧ W'.cell? ⟨N + 1, 2, none⟩ = some (.int .i64 pno) ∧ W'.cell? ⟨N + 1, 3, none⟩ = some (.int .i64 pE) ∧ W'.cell? ⟨N + 1, 4, none⟩ = some (.string (bs pT))) := HP.out
    clear HP hcf hL
    have i0 : (0 : Int) ≤ (i : Int) := by omega
    have i1 : (i : Int) < (calls.length : Int) := by omega
    obtain ⟨cl, no, ⟨kind, k, v, od⟩, fr, tt, T, E⟩ := c
    go_enter Tryd.func54, Tryd.ntmps54
    go_upto_region 1 with fail
    rw [HN.out, HW.out]
    go_region_held3 (fun W => W.cell? ⟨N, 0, none⟩ = some (.slice va calls.length vcap) ∧ W.cell? ⟨N, 2, none⟩ = some (.map (some q)) ∧ W.cell? ⟨N + 1, 0, none⟩ = some (.int .i64 tm) ∧ W.cell? ⟨N + 1, 1, none⟩ = some (.int .i64 pcl) ∧ W.cell? ⟨N + 1, 2, none⟩ = some (.int .i64 pno) ∧ W.cell? ⟨N + 1, 3, none⟩ = some (.int .i64 pE) ∧ W.cell? ⟨N + 1, 4, none⟩ = some (.string (bs pT))) (go_keep)
      (first | (go_at_call 56; refine (HP'.out _ (by first | exact Below.refl _ _ | exact below_drew (Below.refl _ _) | exact below_drewN (Below.refl _ _) _)).mono ?_; rintro e w1 ⟨rfl, hB1, hres, hc1, hlk, e0, e2, e3, e4, e5, e6, e7⟩))
    obtain ⟨g, e', hg', y0, y1, y2, y3, y4, y5, y6, y7, y8, y9⟩ := hc1.at10 hci
    subst hg'
    clear c0 c2 d0 d1 d2 d3 d4 e2 e3 e4 e5 e6 e7 hlk hc1 HP' HW hci
    have hS := set10h hres (.int .i64 cl) (.int .i64 no) (.int .i64 kind) (.string (bs k)) (.string (bs v)) (.string (bs od)) (.int .i64 fr) (.int .i64 tt) (.int .i64 E) (.string (bs T))
    have r0 := cellB hS 0 _ rfl
    have r1 := cellB hS 1 _ rfl
    have r2 := cellB hS 2 _ rfl
    have r3 := cellB hS 3 _ rfl
    have r4 := cellB hS 4 _ rfl
    have r5 := cellB hS 5 _ rfl
    have r6 := cellB hS 6 _ rfl
    have r7 := cellB hS 7 _ rfl
    have r8 := cellB hS 8 _ rfl
    have r9 := cellB hS 9 _ rfl
    have q0 := cellB hres 0 _ rfl
    have q1 := cellB hres 1 _ rfl
    have q2 := cellB hres 2 _ rfl
    have q3 := cellB hres 3 _ rfl
    have q4 := cellB hres 4 _ rfl
    have q5 := cellB hres 5 _ rfl
    have q6 := cellB hres 6 _ rfl
    have q7 := cellB hres 7 _ rfl
    have q8 := cellB hres 8 _ rfl
    have q9 := cellB hres 9 _ rfl
    have f0 := frozenB hres 0
    have f1 := frozenB hres 1
    have f2 := frozenB hres 2
    have f3 := frozenB hres 3
    have f4 := frozenB hres 4
    have f5 := frozenB hres 5
    have f6 := frozenB hres 6
    have f7 := frozenB hres 7
    have f8 := frozenB hres 8
    have f9 := frozenB hres 9
    have HR : Hid (_) := And.intro r0 (And.intro r1 (And.intro r2 (And.intro r3 (And.intro r4 (And.intro r5 (And.intro r6 (And.intro r7 (And.intro r8 (r9)))))))))
    have HB1 : Hid (Below N w w1) := hB1
    clear hS hres hB1 r0 r1 r2 r3 r4 r5 r6 r7 r8 r9
    go_wp2
    obtain ⟨r0, r1, r2, r3, r4, r5, r6, r7, r8, r9⟩ := HR.out
    refine bodyPost_ret (v := .tuple #[.agg #[.int .i64 cl, .int .i64 no, .int .i64 kind, .string (bs k), .string (bs v), .string (bs od), .int .i64 fr, .int .i64 tt, .int .i64 E, .string (bs T)], .bool true]) (by simp [results, Tryd.f54, go_sem, r0, r1, r2, r3, r4, r5, r6, r7, r8, r9]) rfl ⟨rfl, ?_⟩
    rw [HN.out]
    exact below_set10 HB1.out (by omega) (.int .i64 cl) (.int .i64 no) (.int .i64 kind) (.string (bs k)) (.string (bs v)) (.string (bs od)) (.int .i64 fr) (.int .i64 tt) (.int .i64 E) (.string (bs T))
end
end Go.Proofs.YtihilkdokfdoeaaDoor
