/- The law's step of two bags, walked. -/
import Derived.Test.YtemmnojcickcpaaBgQ
import Derived.Test.YtemmnojcickcpaaBgN
namespace Go.Proofs.Ytemmnojcickcpaa
open Go.RowKit
attribute [local go_sem ↓] Go.wp_at_zero Go.wp_at_succ

/-- The program's bag and the document's, of the same items. -/
structure Tw (w : World) (base B : Nat) (v : Value) (B2 : Nat) (v2 : Value) (l : List It) (wr : World) : Prop where
  bag : BagAt 70 31 base wr B v l 0
  rbag : BagAt 29 38 base wr B2 v2 l 0
  ap : Apart B v B2 v2
  bel : Below base w wr
  ok : ∀ a ∈ l, putE a 0 = 0
theorem Tw.le {w wr : World} {base B B2 : Nat} {v v2 : Value} {l : List It} (h : Tw w base B v B2 v2 l wr) : base ≤ wr.heap.size := Nat.le_trans h.bag.base (Nat.le_of_lt h.bag.lt)
theorem Tw.next {w wr wr' : World} {base B B2 : Nat} {v v2 : Value} {l : List It} (h : Tw w base B v B2 v2 l wr) (hb : Below wr.heap.size wr wr') : Tw w base B v B2 v2 l wr' :=
  ⟨h.bag.next hb, h.rbag.next hb, h.ap, h.bel.trans (hb.mono h.le), h.ok⟩
/-- What a call on both leaves. -/
structure Mv2 (B : Nat) (v v' : Value) (B2 : Nat) (v2 v2' : Value) (w w' : World) : Prop where
  size : w.heap.size ≤ w'.heap.size
  block : ∀ k, k < w.heap.size → k ≠ B → k ≠ B2 → v.ownBlock ≠ some k → v2.ownBlock ≠ some k → w'.heap[k]? = w.heap[k]?
  own : ∀ k, v'.ownBlock = some k → v.ownBlock = some k ∨ w.heap.size ≤ k
  own2 : ∀ k, v2'.ownBlock = some k → v2.ownBlock = some k ∨ w.heap.size ≤ k
theorem Mv2.of {B B2 : Nat} {v v' v2 v2' : Value} {w w1 w2 : World} (h : Moved B v v' w w1) (k : Moved B2 v2 v2' w1 w2) : Mv2 B v v' B2 v2 v2' w w2 :=
  ⟨Nat.le_trans h.size k.size, fun i h1 h2 h3 h4 h5 => (k.block i (Nat.lt_of_lt_of_le h1 h.size) h3 h5).trans (h.block i h1 h2 h4), h.own, fun i hi => by
    rcases k.own i hi with e | e
    · exact .inl e
    · exact .inr (Nat.le_trans h.size e)⟩
theorem Mv2.of' {B B2 : Nat} {v v' v2 v2' : Value} {w w1 w2 : World} (h : Moved B2 v2 v2' w w1) (k : Moved B v v' w1 w2) : Mv2 B v v' B2 v2 v2' w w2 :=
  ⟨Nat.le_trans h.size k.size, fun i h1 h2 h3 h4 h5 => (k.block i (Nat.lt_of_lt_of_le h1 h.size) h2 h4).trans (h.block i h1 h3 h5), fun i hi => by
    rcases k.own i hi with e | e
    · exact .inl e
    · exact .inr (Nat.le_trans h.size e), h.own⟩
theorem Mv2.pre {B B2 : Nat} {v v' v2 v2' : Value} {w w1 w2 : World} (h : Below w.heap.size w w1) (k : Mv2 B v v' B2 v2 v2' w1 w2) : Mv2 B v v' B2 v2 v2' w w2 :=
  ⟨Nat.le_trans h.size k.size, fun i h1 h2 h3 h4 h5 => (k.block i (Nat.lt_of_lt_of_le h1 h.size) h2 h3 h4 h5).trans (h.block i h1), fun i hi => by
    rcases k.own i hi with e | e
    · exact .inl e
    · exact .inr (Nat.le_trans h.size e), fun i hi => by
    rcases k.own2 i hi with e | e
    · exact .inl e
    · exact .inr (Nat.le_trans h.size e)⟩
theorem Mv2.post {B B2 : Nat} {v v' v2 v2' : Value} {w w1 w2 : World} (k : Mv2 B v v' B2 v2 v2' w w1) (h : Below w1.heap.size w1 w2) : Mv2 B v v' B2 v2 v2' w w2 :=
  ⟨Nat.le_trans k.size h.size, fun i h1 h2 h3 h4 h5 => (h.block i (Nat.lt_of_lt_of_le h1 k.size)).trans (k.block i h1 h2 h3 h4 h5), k.own, k.own2⟩
theorem Mv2.refl {B B2 : Nat} {v v2 : Value} {w w' : World} (h : Below w.heap.size w w') : Mv2 B v v B2 v2 v2 w w' :=
  ⟨h.size, fun i h1 _ _ _ _ => h.block i h1, fun _ h => .inl h, fun _ h => .inl h⟩
/-- Both bags did the same. -/
theorem Tw.both {w wr w1 w2 : World} {base B B2 : Nat} {v v' v2 v2' : Value} {l l' : List It} (h : Tw w base B v B2 v2 l wr) (hm : Moved B v v' wr w1) (hb : BagAt 70 31 base w1 B v' l' 0) (hm2 : Moved B2 v2 v2' w1 w2) (hb2 : BagAt 29 38 base w2 B2 v2' l' 0) (hok : ∀ a ∈ l', putE a 0 = 0) : Tw w base B v' B2 v2' l' w2 := by
  have a1 := h.ap.moved hm h.rbag.lt (fun k hk => (h.rbag.own.lt k hk).2)
  have r1 := h.rbag.other hm h.ap
  exact ⟨hb.other hm2 a1.symm, hb2, (a1.symm.moved hm2 hb.lt (fun k hk => (hb.own.lt k hk).2)).symm, (h.bel.trans (h.bag.bel hm (Nat.le_refl _))).trans (r1.bel hm2 (Nat.le_refl _)), hok⟩
theorem Tw.both' {w wr w1 w2 : World} {base B B2 : Nat} {v v' v2 v2' : Value} {l l' : List It} (h : Tw w base B v B2 v2 l wr) (hm2 : Moved B2 v2 v2' wr w1) (hb2 : BagAt 29 38 base w1 B2 v2' l' 0) (hm : Moved B v v' w1 w2) (hb : BagAt 70 31 base w2 B v' l' 0) (hok : ∀ a ∈ l', putE a 0 = 0) : Tw w base B v' B2 v2' l' w2 := by
  have a1 := h.ap.symm.moved hm2 h.bag.lt (fun k hk => (h.bag.own.lt k hk).2)
  have r1 := h.bag.other hm2 h.ap.symm
  exact ⟨hb, hb2.other hm a1.symm, a1.symm.moved hm hb2.lt (fun k hk => (hb2.own.lt k hk).2), (h.bel.trans (h.rbag.bel hm2 (Nat.le_refl _))).trans (r1.bel hm (Nat.le_refl _)), hok⟩
theorem putE_zero {a : It} {n : Nat} (h : putE a n = 0) {m : Nat} (hm : m < 4096) : putE a m = 0 := by
  unfold putE at h ⊢
  split at h
  · cases h
  split at h
  · cases h
  rename_i h1 h2
  rw [if_neg h1, if_neg h2, if_neg (by omega)]
theorem ok_snoc {l : List It} {a : It} (h : ∀ x ∈ l, putE x 0 = 0) (ha : putE a 0 = 0) : ∀ x ∈ l ++ [a], putE x 0 = 0 := by
  intro x hx
  rcases List.mem_append.1 hx with hx | hx
  · exact h x hx
  · rw [List.mem_singleton.1 hx]; exact ha
theorem ok_erase {l : List It} (h : ∀ x ∈ l, putE x 0 = 0) (k : Nat) : ∀ x ∈ l.eraseIdx k, putE x 0 = 0 := fun x hx => h x (List.mem_of_mem_eraseIdx hx)

set_option maxRecDepth 20000 in
set_option maxHeartbeats 4000000 in
theorem does_put {w0 : World} {base B B2 : Nat} {v v2 : Value} {l : List It} {w : World} (h : Tw w0 base B v B2 v2 l w) (hl : l.length < 4096) (what i a0 a1 a2 : Int) (a3 : List UInt8) (hw : what = 0 ∨ what = 1) :
    Calls Try.prog 11 #[.pointer (some ⟨B, 0, none⟩), .pointer (some ⟨B2, 0, none⟩), .agg #[.int .i64 what, .int .i64 i, .int .i64 a0, .int .i64 a1, .int .i64 a2, .string (bs a3)]] w fun e W' => e = .returned (.bool true) ∧ ∃ v' v2' l', Tw w0 base B v' B2 v2' l' W' ∧ l'.length ≤ l.length + 1 ∧ Mv2 B v v' B2 v2 v2' w W' := by
  have hb0 : Below w.heap.size w (w.alloc (.cells #[.int .i64 what, .int .i64 i, .int .i64 a0, .int .i64 a1, .int .i64 a2, .string (bs a3)] 33)) := (Below.refl _ w).alloc (Nat.le_refl _) _
  have h0 := h.next hb0
  have hSB : w.heap.size ≠ B := by have := h.bag.lt; omega
  have hSo : v.ownBlock ≠ some w.heap.size := fun e => by have := (h.bag.own.lt _ e).2; omega
  have hSB2 : w.heap.size ≠ B2 := by have := h.rbag.lt; omega
  have hSo2 : v2.ownBlock ≠ some w.heap.size := fun e => by have := (h.rbag.own.lt _ e).2; omega
  have hq : (what == 0) = true ∨ (what == 0) = false ∧ (what == 1) = true := by
    rcases hw with rfl | rfl
    · exact .inl rfl
    · exact .inr ⟨rfl, rfl⟩
  clear hw
  rcases hq with hq0 | ⟨hq0, hq1⟩
  all_goals
    go_enter Try.func11, Try.ntmps11
    go_upto_region 4 with fail
  all_goals
    have y0 := heap_alloc_new w (.cells #[.int .i64 what, .int .i64 i, .int .i64 a0, .int .i64 a1, .int .i64 a2, .string (bs a3)] 33)
    obtain ⟨W0, hW0⟩ : ∃ W, w.alloc (.cells #[.int .i64 what, .int .i64 i, .int .i64 a0, .int .i64 a1, .int .i64 a2, .string (bs a3)] 33) = W := ⟨_, rfl⟩
    rw [hW0] at hb0 h0 y0 ⊢
    obtain ⟨S, hS⟩ : ∃ S, w.heap.size = S := ⟨_, rfl⟩
    rw [hS] at y0 hSB hSo hSB2 hSo2 ⊢
    have z2 := cellB y0 2 (.int .i64 a0) rfl
    have z3 := cellB y0 3 (.int .i64 a1) rfl
    have z4 := cellB y0 4 (.int .i64 a2) rfl
    have z5 := cellB y0 5 (.string (bs a3)) rfl
    have hSl : S < W0.drew.heap.size := (Array.getElem?_eq_some_iff.1 y0).1
    have y0d : W0.drew.heap[S]? = some (.cells #[.int .i64 what, .int .i64 i, .int .i64 a0, .int .i64 a1, .int .i64 a2, .string (bs a3)] 33) := y0
    have h1 := h0.next (below_drew (Below.refl _ W0))
    have hbd := hb0.trans ((below_drew (Below.refl W0.heap.size W0)).mono hb0.size)
    clear hW0 hS y0
    by_cases hp : putE (a0, a1, a2, a3) l.length = 0
    · have hP := Put_ok h1.bag (by decide) a0 a1 a2 a3 hp
      have hR : ∀ W, BagAt 29 38 base W B2 v2 l 0 → Calls Try.prog 30 #[.pointer (some ⟨B2, 0, none⟩), .agg #[.int .i64 a0, .int .i64 a1, .int .i64 a2, .string (bs a3)]] W fun e W' => e = .returned (.int .i64 0) ∧ ∃ v', BagAt 29 38 base W' B2 v' (l ++ [(a0, a1, a2, a3)]) 0 ∧ Moved B2 v2 v' W W' := fun W hW => rPut_ok hW a0 a1 a2 a3 hp
      have HO : Hid (∀ x ∈ l ++ [(a0, a1, a2, a3)], putE x 0 = 0) := ok_snoc h.ok (putE_zero hp (by decide))
      clear hp
      go_region_held3 (fun w' => w'.cell? ⟨S, 2, none⟩ = some (.int .i64 a0) ∧ w'.cell? ⟨S, 3, none⟩ = some (.int .i64 a1) ∧ w'.cell? ⟨S, 4, none⟩ = some (.int .i64 a2) ∧ w'.cell? ⟨S, 5, none⟩ = some (.string (bs a3))) (go_keep)
        (first
          | (go_at_call 19; refine hP.mono ?_; rintro e w1 ⟨rfl, v1, hb1, hm1⟩; have y1 := hm1.far hSl hSB hSo y0d; have p2 := cellB y1 2 (.int .i64 a0) rfl; have p3 := cellB y1 3 (.int .i64 a1) rfl; have p4 := cellB y1 4 (.int .i64 a2) rfl; have p5 := cellB y1 5 (.string (bs a3)) rfl)
          | (go_at_call 15; refine (ref_any _ _ _ _ _).mono ?_; rintro e w2 ⟨rfl, hb2⟩; have y2 := (hb2.block S (Array.getElem?_eq_some_iff.1 y1).1).trans y1; have t2 := cellB y2 2 (.int .i64 a0) rfl; have t3 := cellB y2 3 (.int .i64 a1) rfl; have t4 := cellB y2 4 (.int .i64 a2) rfl; have t5 := cellB y2 5 (.string (bs a3)) rfl; have hr2 := (h1.rbag.other hm1 h1.ap).next hb2)
          | (go_at_call 30; refine (hR _ hr2).mono ?_; rintro e w3 ⟨rfl, v3, hb3, hm3⟩; have y3 := hm3.far (Array.getElem?_eq_some_iff.1 y2).1 hSB2 hSo2 y2; have s2 := cellB y3 2 (.int .i64 a0) rfl; have s3 := cellB y3 3 (.int .i64 a1) rfl; have s4 := cellB y3 4 (.int .i64 a2) rfl; have s5 := cellB y3 5 (.string (bs a3)) rfl))
      go_wp2
      go_ret
      have hmA := hm1.trans (Moved.of_below hb2 B v1)
      exact ⟨rfl, v1, v3, _, h1.both hmA (hb1.next hb2) hm3 hb3 HO.out, by simp, Mv2.pre hbd (Mv2.of hmA hm3)⟩
    · have hP := Put_bad h1.bag a0 a1 a2 a3 hl hp
      have hR := fun W => rPut_bad W B2 l a0 a1 a2 a3 hl hp
      obtain ⟨E, hE⟩ : ∃ E, putE (a0, a1, a2, a3) l.length = E := ⟨_, rfl⟩
      rw [hE] at hP hR
      clear hp hE
      go_region_held3 (fun w' => w'.cell? ⟨S, 2, none⟩ = some (.int .i64 a0) ∧ w'.cell? ⟨S, 3, none⟩ = some (.int .i64 a1) ∧ w'.cell? ⟨S, 4, none⟩ = some (.int .i64 a2) ∧ w'.cell? ⟨S, 5, none⟩ = some (.string (bs a3))) (go_keep)
        (first
          | (go_at_call 19; refine hP.mono ?_; rintro e w1 ⟨rfl, v1, hb1, hm1⟩; have y1 := hm1.far hSl hSB hSo y0d; have p2 := cellB y1 2 (.int .i64 a0) rfl; have p3 := cellB y1 3 (.int .i64 a1) rfl; have p4 := cellB y1 4 (.int .i64 a2) rfl; have p5 := cellB y1 5 (.string (bs a3)) rfl)
          | (go_at_call 15; refine (ref_any _ _ _ _ _).mono ?_; rintro e w2 ⟨rfl, hb2⟩; have y2 := (hb2.block S (Array.getElem?_eq_some_iff.1 y1).1).trans y1; have t2 := cellB y2 2 (.int .i64 a0) rfl; have t3 := cellB y2 3 (.int .i64 a1) rfl; have t4 := cellB y2 4 (.int .i64 a2) rfl; have t5 := cellB y2 5 (.string (bs a3)) rfl)
          | (go_at_call 30; refine (hR _).mono ?_; rintro e w3 ⟨rfl, hb3⟩; have y3 := (hb3.block S (Array.getElem?_eq_some_iff.1 y2).1).trans y2; have s2 := cellB y3 2 (.int .i64 a0) rfl; have s3 := cellB y3 3 (.int .i64 a1) rfl; have s4 := cellB y3 4 (.int .i64 a2) rfl; have s5 := cellB y3 5 (.string (bs a3)) rfl))
      go_wp2
      go_ret
      have hb23 := hb2.trans (hb3.mono hb2.size)
      have hmA := hm1.trans (Moved.of_below hb23 B v1)
      have hr := (h1.rbag.other hm1 h1.ap).next hb23
      exact ⟨rfl, v1, v2, l, h1.both hmA (hb1.next hb23) (Moved.refl _ _ _) hr h.ok, by omega, Mv2.pre hbd (Mv2.of hmA (Moved.refl _ _ _))⟩
end Go.Proofs.Ytemmnojcickcpaa
