/- The plain marks in memory; Right and Of, walked. -/
import Derived.Test.YtmggfkhfiggloaaDoorMsA
namespace Go.Proofs.YtmggfkhfiggloaaDoor
open Go.RowKit
attribute [local go_sem ↓] Go.wp_at_zero Go.wp_at_succ

/-- Votes as cells. -/
def rcs (l : List Rv) : List Value := l.flatMap fun x => [.int .i64 x.no, .int .i64 x.n, .string (bs x.st), .string (bs x.tg)]
theorem rcs_cons (a : Rv) (l : List Rv) : rcs (a :: l) = .int .i64 a.no :: .int .i64 a.n :: .string (bs a.st) :: .string (bs a.tg) :: rcs l := rfl
theorem rcs_append (a b : List Rv) : rcs (a ++ b) = rcs a ++ rcs b := by simp [rcs]
theorem rcs_at (l : List Rv) (i : Nat) (t : Rv) (h : l[i]? = some t) : (rcs l)[i * 4]? = some (.int .i64 t.no) ∧ (rcs l)[i * 4 + 1]? = some (.int .i64 t.n) ∧ (rcs l)[i * 4 + 2]? = some (.string (bs t.st)) ∧ (rcs l)[i * 4 + 3]? = some (.string (bs t.tg)) := by
  induction l generalizing i with
  | nil => cases h
  | cons a r ih =>
    rw [rcs_cons]
    cases i with
    | zero => simp at h; subst h; exact ⟨rfl, rfl, rfl, rfl⟩
    | succ i =>
      have := ih i (by simpa using h)
      rw [show (i + 1) * 4 = i * 4 + 1 + 1 + 1 + 1 from by omega]
      simpa using this
/-- v is a slice of just these votes. -/
def Rl (w : World) (v : Value) (l : List Rv) : Prop :=
  (l = [] ∧ ∃ a c, v = .slice a 0 c) ∨ ∃ b o cap, v = .slice (some ⟨b, o, none⟩) l.length cap ∧ b < w.heap.size ∧ ∀ (i : Nat) x, l[i]? = some x → w.cell? ⟨b, o + i * 4, none⟩ = some (.int .i64 x.no) ∧ w.cell? ⟨b, o + i * 4 + 1, none⟩ = some (.int .i64 x.n) ∧ w.cell? ⟨b, o + i * 4 + 2, none⟩ = some (.string (bs x.st)) ∧ w.cell? ⟨b, o + i * 4 + 3, none⟩ = some (.string (bs x.tg))
theorem Rl.slice {w : World} {v : Value} {l : List Rv} (h : Rl w v l) : ∃ a c, v = .slice a l.length c := by
  rcases h with ⟨rfl, a, c, rfl⟩ | ⟨b, o, cap, rfl, _⟩
  · exact ⟨a, c, rfl⟩
  · exact ⟨_, _, rfl⟩
theorem Rl.keep {w w' : World} {v : Value} {l : List Rv} (h : Rl w v l) (hs : w.heap.size ≤ w'.heap.size) (hk : ∀ k, v.ownBlock = some k → l ≠ [] → k < w.heap.size → w'.heap[k]? = w.heap[k]?) : Rl w' v l := by
  rcases h with h | ⟨b, o, cap, rfl, hlt, h⟩
  · exact .inl h
  · refine .inr ⟨b, o, cap, rfl, Nat.lt_of_lt_of_le hlt hs, fun i t ht => ?_⟩
    have e := hk b rfl (by rintro rfl; cases ht) hlt
    have hc : ∀ j, w'.cell? ⟨b, j, none⟩ = w.cell? ⟨b, j, none⟩ := fun j => World.cell?_of_block (w := w) (a := ⟨b, j, none⟩) e
    obtain ⟨h1, h2, h3, h4⟩ := h i t ht
    exact ⟨(hc _).trans h1, (hc _).trans h2, (hc _).trans h3, (hc _).trans h4⟩
theorem Rl.on {w w' : World} {v : Value} {l : List Rv} (h : Rl w v l) (hb : Below w.heap.size w w') : Rl w' v l := h.keep hb.size (fun k _ _ hlt => hb.block k hlt)
theorem Rl.get {w : World} {a : Option Addr} {c : Nat} {l : List Rv} (h : Rl w (.slice a l.length c) l) {i : Nat} {x : Rv} (hi : l[i]? = some x) : ∃ b o, a = some ⟨b, o, none⟩ ∧ b < w.heap.size ∧ w.cell? ⟨b, o + i * 4, none⟩ = some (.int .i64 x.no) ∧ w.cell? ⟨b, o + i * 4 + 1, none⟩ = some (.int .i64 x.n) ∧ w.cell? ⟨b, o + i * 4 + 2, none⟩ = some (.string (bs x.st)) ∧ w.cell? ⟨b, o + i * 4 + 3, none⟩ = some (.string (bs x.tg)) := by
  rcases h with ⟨rfl, _⟩ | ⟨b, o, cap, he, hlt, h⟩
  · cases hi
  · injection he with ha _ _
    exact ⟨b, o, ha, hlt, h i x hi⟩
theorem Rl.of_owns {w : World} {v : Value} {l : List Rv} {base : Nat} {e : TypeId} (h : w.ownsRow base e 4 v l.length (rcs l)) : Rl w v l := by
  obtain ⟨hl, h⟩ := h
  rcases h with ⟨rfl, h0⟩ | ⟨g, cap, cur, rfl, hb, hh, h1, h2, h3, h4⟩
  · exact .inl ⟨List.length_eq_zero_iff.1 h0, none, 0, rfl⟩
  · refine .inr ⟨g, 0, cap, rfl, (Array.getElem?_eq_some_iff.1 hh).1, fun i t ht => ?_⟩
    have hi : i < l.length := (List.getElem?_eq_some_iff.1 ht).1
    obtain ⟨e1, e2, e3, e4⟩ := rcs_at l i t ht
    rw [← h4, List.getElem?_take_of_lt (by omega)] at e1 e2 e3 e4
    simp only [World.cell?, hh, Nat.zero_add]
    exact ⟨by simpa using e1, by simpa using e2, by simpa using e3, by simpa using e4⟩
/-- Plain marks of a group and f. -/
structure RefAt (w : World) (R : Nat) (g : Int) (f : Nat) (r : Rs) (lv cv : Value) : Prop where
  blk : ∃ sg : Int, w.heap[R]? = some (.cells #[.int .i64 g, .int .i64 f, lv, .int .i64 sg, .int .i64 r.n, .string (bs r.s), .string (bs r.t), .int .i64 r.g, cv] 46)
  f3 : f ≤ 3
  rows : Rl w lv r.L
  tags : Tp w cv r.T
  ownL : ∀ k, lv.ownBlock = some k → r.L ≠ [] → k ≠ R
  ownT : ∀ k, cv.ownBlock = some k → r.T ≠ [] → k ≠ R
theorem RefAt.lt {w : World} {R : Nat} {g : Int} {f : Nat} {r : Rs} {lv cv : Value} (h : RefAt w R g f r lv cv) : R < w.heap.size := by
  obtain ⟨sg, h1⟩ := h.blk
  exact (Array.getElem?_eq_some_iff.1 h1).1
theorem RefAt.moved {w w' : World} {R C : Nat} {g : Int} {f : Nat} {r : Rs} {lv cv : Value} (h : RefAt w R g f r lv cv) (hm : Mv C w w') (hR : R ≠ C) (hL : ∀ k, lv.ownBlock = some k → r.L ≠ [] → k ≠ C) (hT : ∀ k, cv.ownBlock = some k → r.T ≠ [] → k ≠ C) : RefAt w' R g f r lv cv := by
  obtain ⟨sg, h1⟩ := h.blk
  exact ⟨⟨sg, (hm.block R h.lt hR).trans h1⟩, h.f3, h.rows.keep hm.size (fun k hk hl hlt => hm.block k hlt (hL k hk hl)), h.tags.keep hm.size (fun k hk hl hlt => hm.block k hlt (hT k hk hl)), h.ownL, h.ownT⟩
theorem RefAt.on {w w' : World} {R : Nat} {g : Int} {f : Nat} {r : Rs} {lv cv : Value} (h : RefAt w R g f r lv cv) (hb : Below w.heap.size w w') : RefAt w' R g f r lv cv := by
  obtain ⟨sg, h1⟩ := h.blk
  exact ⟨⟨sg, (hb.block R h.lt).trans h1⟩, h.f3, h.rows.on hb, h.tags.on hb, h.ownL, h.ownT⟩
theorem Right_any (g f : Int) (w : World) : Calls Tryd.prog 14 #[.int .i64 g, .int .i64 f] w fun e W' => e = .returned (.bool (inR g 0 4 && inR f 0 3)) ∧ W' = w := by
  cases h1 : inR g 0 4
  · rcases inR_f h1 with h | ⟨h, h'⟩
    all_goals
      clear h1
      go_enter Tryd.func14, Tryd.ntmps14
      go_wp2
      go_ret
      exact ⟨rfl, rfl⟩
  · obtain ⟨g0, g4⟩ := inR_t h1
    cases h2 : inR f 0 3
    · rcases inR_f h2 with h | ⟨h, h'⟩
      all_goals
        clear h1 h2
        go_enter Tryd.func14, Tryd.ntmps14
        go_wp2
        go_ret
        first
          | exact ⟨rfl, rfl⟩
          | (refine ⟨?_, rfl⟩; show Ending.returned (.bool (decide (f ≤ 3))) = _; rw [decide_eq_false (by omega)]; rfl)
    · obtain ⟨f0, f3⟩ := inR_t h2
      clear h1 h2
      go_enter Tryd.func14, Tryd.ntmps14
      go_wp2
      go_ret
      exact ⟨rfl, rfl⟩
set_option maxRecDepth 20000 in
set_option maxHeartbeats 2000000 in
theorem rOf_any {w : World} {R : Nat} {g : Int} {f : Nat} {r : Rs} {lv cv : Value} (h : RefAt w R g f r lv cv) (no : Int) (hl : r.L.length ≤ 1000) : Calls Tryd.prog 23 #[.pointer (some ⟨R, 0, none⟩), .int .i64 no] w fun e W' => e = .returned (.int .i64 (rOf r.L no)) ∧ Below w.heap.size w W' := by
  obtain ⟨sg, h1⟩ := h.blk
  obtain ⟨la, lc, rfl⟩ := h.rows.slice
  have c2 := cellB h1 2 _ rfl
  have hr := h.rows
  obtain ⟨L, hL⟩ : ∃ L, r.L = L := ⟨_, rfl⟩
  rw [hL] at hr hl c2 ⊢
  have HR : Hid (_) := hr
  obtain ⟨N, hN⟩ : ∃ N, rOf L no = N := ⟨_, rfl⟩
  have HN : Hid (rOf L no = N) := hN
  rw [hN]
  clear h h1 hL hr hN
  go_enter Tryd.func23, Tryd.ntmps23
  go_wp2
  go_loopg [12] L.length (fun gk i wr => ∃ j : Nat, j + gk = L.length ∧ i = .int .i64 j ∧ rOf (L.drop j) no = N ∧ Below w.heap.size w wr)
  case atStart => exact ⟨0, by omega, rfl, HN.out, Below.refl _ _⟩
  case round =>
    obtain ⟨j, hj, rfl, hof, hB⟩ := hrel
    by_cases hlt : j < L.length
    · obtain ⟨x, hx⟩ : ∃ x, L[j]? = some x := ⟨_, List.getElem?_eq_getElem hlt⟩
      obtain ⟨vb, vo, rfl, hvl, x0, x1, x2, x3⟩ := (Rl.on HR.out hB).get hx
      have hd : L.drop j = x :: L.drop (j + 1) := by
        rw [List.drop_eq_getElem_cons hlt]
        have : L[j] = x := by rw [List.getElem?_eq_getElem hlt] at hx; exact Option.some.inj hx
        rw [this]
      rw [hd, rOf] at hof
      obtain ⟨xn, xv, xs, xt⟩ := x
      simp only at x0 x1 x2 x3 hof
      have m0 : (0 : Int) ≤ (j : Int) := by omega
      have m1 : (j : Int) < (L.length : Int) := by omega
      have HBa : Hid (_) := hB.alloc hB.size (.cells #[.int .i64 xn, .int .i64 xv, .string (bs xs), .string (bs xt)] 57)
      clear c2 hd hx hvl
      by_cases e : xn = no
      · rw [if_pos e] at hof
        have hof' := hof.symm
        subst e hof'
        go_wp2
        go_ret
        exact ⟨rfl, HBa.out⟩
      · rw [if_neg e] at hof
        have e2 : (xn == no) = false := by simpa using e
        have HF : Hid (rOf (L.drop (j + 1)) no = N) := hof
        clear e hof
        go_wp2
        go_roundg (L.length - (j + 1))
        case measure => omega
        case rel => exact ⟨j + 1, by omega, by go_num, HF.out, HBa.out⟩
    · have hjn : j = L.length := by omega
      subst hjn
      rw [List.drop_length] at hof
      have hof' : N = 0 := hof.symm
      subst hof'
      go_wp2
      go_ret
      exact ⟨rfl, hB⟩
end Go.Proofs.YtmggfkhfiggloaaDoor
