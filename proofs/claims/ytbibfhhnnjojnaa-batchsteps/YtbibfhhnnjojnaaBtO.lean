/- The document's own pool: what it is in memory; wrong, Last, drop, ref, Take, same, walked. -/
import Derived.Test.YtbibfhhnnjojnaaBtN
namespace Go.Proofs.Ytbibfhhnnjojnaa
open Go.RowKit
attribute [local go_sem ↓] Go.wp_at_zero Go.wp_at_succ

/-- What an object's blocks are. -/
def fpP (B : Nat) (v : Value) (k : Nat) : Prop := k = B ∨ v.ownBlock = some k
def fpR (R : Nat) (vl vd : Value) (k : Nat) : Prop := k = R ∨ vl.ownBlock = some k ∨ vd.ownBlock = some k
/-- What a call on one object leaves. -/
structure Mvd (S S' : Nat → Prop) (w w' : World) : Prop where
  os : w'.os = w.os
  tape : w'.tape = w.tape
  output : w'.output = w.output
  size : w.heap.size ≤ w'.heap.size
  block : ∀ k, k < w.heap.size → ¬ S k → w'.heap[k]? = w.heap[k]?
  own : ∀ k, S' k → S k ∨ w.heap.size ≤ k
theorem Mvd.of_below {w w' : World} (h : Below w.heap.size w w') (S : Nat → Prop) : Mvd S S w w' := ⟨h.os, h.tape, h.output, h.size, fun k hk _ => h.block k hk, fun _ h => .inl h⟩
theorem Mvd.trans {S S1 S2 : Nat → Prop} {w w1 w2 : World} (h : Mvd S S1 w w1) (k : Mvd S1 S2 w1 w2) : Mvd S S2 w w2 :=
  ⟨k.os.trans h.os, k.tape.trans h.tape, k.output.trans h.output, Nat.le_trans h.size k.size,
    fun i hi h1 => (k.block i (Nat.lt_of_lt_of_le hi h.size) (fun e => by rcases h.own i e with e | e; exact h1 e; omega)).trans (h.block i hi h1),
    fun i hi => by
      rcases k.own i hi with e | e
      · exact h.own i e
      · exact .inr (Nat.le_trans h.size e)⟩
theorem Moved.mvd {B : Nat} {v v' : Value} {w w' : World} (h : Moved B v v' w w') : Mvd (fpP B v) (fpP B v') w w' :=
  ⟨h.os, h.tape, h.output, h.size, fun k hk hn => h.block k hk (fun e => hn (.inl e)) (fun e => hn (.inr e)), fun k hk => by
    rcases hk with e | e
    · exact .inl (.inl e)
    · rcases h.own k e with e | e
      · exact .inl (.inr e)
      · exact .inr e⟩
theorem Mvd.below {S S' : Nat → Prop} {w w' : World} {b : Nat} (h : Mvd S S' w w') (hb : b ≤ w.heap.size) (hS : ∀ k, S k → b ≤ k) : Below b w w' := ⟨h.os, h.tape, h.output, h.size, fun k hk => h.block k (by omega) (fun e => by have := hS k e; omega)⟩
/-- The document's pool. -/
structure RefAt (base : Nat) (w : World) (R : Nat) (vl vd : Value) (l F : List Rq) : Prop where
  blk : w.heap[R]? = some (.cells #[vl, vd] 29)
  own : w.ownsRow base 39 3 vl l.length (rcs l)
  dn : w.ownsRow base 39 3 vd F.length (rcs F)
  n1 : vl.ownBlock ≠ some R
  n2 : vd.ownBlock ≠ some R
  n3 : ∀ k, vl.ownBlock = some k → vd.ownBlock ≠ some k
  base : base ≤ R
theorem RefAt.lt {base : Nat} {w : World} {R : Nat} {vl vd : Value} {l F : List Rq} (h : RefAt base w R vl vd l F) : R < w.heap.size := (Array.getElem?_eq_some_iff.1 h.blk).1
theorem RefAt.keep {base : Nat} {w w' : World} {R : Nat} {vl vd : Value} {l F : List Rq} (h : RefAt base w R vl vd l F) (hk : ∀ k, fpR R vl vd k → w'.heap[k]? = w.heap[k]?) : RefAt base w' R vl vd l F :=
  ⟨(hk R (.inl rfl)).trans h.blk, owns_kept h.own (fun k e => hk k (.inr (.inl e))), owns_kept h.dn (fun k e => hk k (.inr (.inr e))), h.n1, h.n2, h.n3, h.base⟩
theorem RefAt.fp {base : Nat} {w : World} {R : Nat} {vl vd : Value} {l F : List Rq} (h : RefAt base w R vl vd l F) {k : Nat} (hk : fpR R vl vd k) : base ≤ k ∧ k < w.heap.size := by
  rcases hk with e | e | e
  · rw [e]; exact ⟨h.base, h.lt⟩
  · exact h.own.lt k e
  · exact h.dn.lt k e
theorem RefAt.next {base : Nat} {w w' : World} {R : Nat} {vl vd : Value} {l F : List Rq} (h : RefAt base w R vl vd l F) (hb : Below w.heap.size w w') : RefAt base w' R vl vd l F := h.keep (fun k hk => hb.block k (h.fp hk).2)
theorem RefAt.le {base : Nat} {w : World} {R : Nat} {vl vd : Value} {l F : List Rq} (h : RefAt base w R vl vd l F) : base ≤ w.heap.size := Nat.le_trans h.base (Nat.le_of_lt h.lt)
theorem PoolAt.fp {base : Nat} {w : World} {B : Nat} {v : Value} {l : List Rq} {D : Nat → Int} (h : PoolAt base w B v l D) {k : Nat} (hk : fpP B v k) : base ≤ k ∧ k < w.heap.size := by
  rcases hk with e | e
  · rw [e]; exact ⟨h.base, h.lt⟩
  · exact h.own.lt k e
theorem rwrong_any (c n : Int) (w : World) : Calls Try.prog 27 #[.int .i64 c, .int .i64 n] w fun e W' => e = .returned (.bool (!okB c n)) ∧ W' = w := by
  cases h : okB c n
  · rcases (by simp [okB, callB] at h; omega : c < 0 ∨ (0 ≤ c ∧ 63 < c) ∨ (0 ≤ c ∧ c ≤ 63 ∧ n < 1) ∨ (0 ≤ c ∧ c ≤ 63 ∧ 1 ≤ n ∧ 1099511627776 < n)) with k1 | ⟨k1, k2⟩ | ⟨k1, k2, k3⟩ | ⟨k1, k2, k3, k4⟩
    all_goals
      clear h
      go_enter Try.func27, Try.ntmps27
      go_wp2
      go_ret
      exact ⟨by first | rfl | (show Ending.returned (Value.bool (decide (1099511627776 < n))) = _; simp; omega), rfl⟩
  · obtain ⟨h1, h2, h3, h4⟩ := okB_t h
    have h5 : c ≤ 63 := by omega
    clear h
    go_enter Try.func27, Try.ntmps27
    go_wp2
    go_ret
    exact ⟨by first | rfl | (show Ending.returned (Value.bool (decide (c < 0) || decide (63 < c) || decide (n < 1) || decide (1099511627776 < n))) = _; simp; omega), rfl⟩
/-- The greatest number of a caller's. -/
def lastF (F : List Rq) (c : Int) : Int := F.foldl (fun m d => if d.1 = c ∧ m < d.2.1 then d.2.1 else m) 0
theorem lastF_snoc (F : List Rq) (d : Rq) (c : Int) : lastF (F ++ [d]) c = if d.1 = c ∧ lastF F c < d.2.1 then d.2.1 else lastF F c := by unfold lastF; rw [List.foldl_append]; rfl
set_option maxRecDepth 20000 in
set_option maxHeartbeats 4000000 in
theorem rLast_any {base : Nat} {w : World} {R : Nat} {vl vd : Value} {l F : List Rq} (h : RefAt base w R vl vd l F) (hF : F.length ≤ 1000) (c : Int) : Calls Try.prog 22 #[.pointer (some ⟨R, 0, none⟩), .int .i64 c] w fun e W' => e = .returned (.int .i64 (lastF F c)) ∧ Below w.heap.size w W' := by
  obtain ⟨da, dc, rfl⟩ := owns_slice h.dn
  have c1 := cellB h.blk 1 (.slice da F.length dc) rfl
  go_enter Try.func22, Try.ntmps22
  go_wp2_with fail
  go_loopg [5, 13] F.length (fun gk m i wr => ∃ k : Nat, k + gk = F.length ∧ i = .int .i64 k ∧ m = .int .i64 (lastF (F.take k) c) ∧ Below w.heap.size w wr)
  case atStart => exact ⟨0, by omega, rfl, rfl, Below.refl _ _⟩
  case round =>
    obtain ⟨k, hk, rfl, rfl, hB⟩ := hrel
    by_cases hlt : k < F.length
    · obtain ⟨⟨c5, n5, t5⟩, hx⟩ : ∃ a, F[k]? = some a := ⟨_, List.getElem?_eq_getElem hlt⟩
      obtain ⟨gb, gc, hgv, hg1, hg2, y0, y1, y2⟩ := row_at (owns_next h.dn hB) hx
      injection hgv with f1 _ f2
      subst f1 f2
      simp only at y0 y1 y2
      have q0 : (0 : Int) ≤ (k : Int) := by omega
      have q1 : (k : Int) < (F.length : Int) := by omega
      have HS : Hid (lastF (F.take (k + 1)) c = if c5 = c ∧ lastF (F.take k) c < n5 then n5 else lastF (F.take k) c) := by show _ = _; rw [take_snoc hx, lastF_snoc]
      obtain ⟨M, hM⟩ : ∃ M, lastF (F.take k) c = M := ⟨_, rfl⟩
      rw [hM] at HS ⊢
      have hBa := hB.alloc hB.size (.cells #[.int .i64 c5, .int .i64 n5, .string (bs t5)] 39)
      have HBa : Hid (_) := hBa
      clear hx hM hg1 hBa h
      have hcc : (c5 ≠ c) ∨ (c5 = c ∧ n5 ≤ M) ∨ (c5 = c ∧ M < n5) := by omega
      rcases hcc with e1 | ⟨e1, e2⟩ | ⟨e1, e2⟩
      · have HS2 : Hid (lastF (F.take (k + 1)) c = M) := by show _ = _; rw [HS.out, if_neg (fun h => e1 h.1)]
        have s1 : (c5 == c) = false := by simp [e1]
        clear e1
        go_wp2
        go_roundg (F.length - (k + 1))
        case measure => omega
        case rel => exact ⟨k + 1, by omega, by go_num, by rw [HS2.out], HBa.out⟩
      · have HS2 : Hid (lastF (F.take (k + 1)) c = M) := by show _ = _; rw [HS.out, if_neg (by omega)]
        subst e1
        go_wp2
        go_roundg (F.length - (k + 1))
        case measure => omega
        case rel => exact ⟨k + 1, by omega, by go_num, by rw [HS2.out], HBa.out⟩
      · have HS2 : Hid (lastF (F.take (k + 1)) c = n5) := by show _ = _; rw [HS.out, if_pos ⟨e1, e2⟩]
        subst e1
        go_wp2
        go_roundg (F.length - (k + 1))
        case measure => omega
        case rel => exact ⟨k + 1, by omega, by go_num, by rw [HS2.out], HBa.out⟩
    · have hkF : k = F.length := by omega
      subst hkF
      rw [List.take_length]
      go_wp2
      go_ret
      exact ⟨rfl, hB⟩
theorem ref_any (c n : Int) (t : List UInt8) (w : World) : Calls Try.prog 11 #[.agg #[.int .i64 c, .int .i64 n, .string (bs t)]] w fun e W' => e = .returned (.agg #[.int .i64 c, .int .i64 n, .string (bs t)]) ∧ Below w.heap.size w W' := by
  have hb0 : Below w.heap.size w ((w.alloc (.cells #[.int .i64 c, .int .i64 n, .string (bs t)] 31)).alloc (.cells #[.int .i64 0, .int .i64 0, .string ⟨#[]⟩] 39)) := ((Below.refl _ w).alloc (Nat.le_refl _) _).alloc (by simp) _
  have r0 : ((w.alloc (.cells #[.int .i64 c, .int .i64 n, .string (bs t)] 31)).alloc (.cells #[.int .i64 0, .int .i64 0, .string ⟨#[]⟩] 39)).heap[w.heap.size]? = some (.cells #[.int .i64 c, .int .i64 n, .string (bs t)] 31) := (Below.heap_alloc _ _ _ (by simp)).trans (heap_alloc_new _ _)
  have r1 : ((w.alloc (.cells #[.int .i64 c, .int .i64 n, .string (bs t)] 31)).alloc (.cells #[.int .i64 0, .int .i64 0, .string ⟨#[]⟩] 39)).heap[w.heap.size + 1]? = some (.cells #[.int .i64 0, .int .i64 0, .string ⟨#[]⟩] 39) := by
    have := heap_alloc_new (w.alloc (.cells #[.int .i64 c, .int .i64 n, .string (bs t)] 31)) (.cells #[.int .i64 0, .int .i64 0, .string ⟨#[]⟩] 39)
    rw [show (w.alloc (.cells #[.int .i64 c, .int .i64 n, .string (bs t)] 31)).heap.size = w.heap.size + 1 by simp] at this
    exact this
  have HX : Hid (_ ∧ _ ∧ _) := ⟨hb0, r0, r1⟩
  clear hb0 r0 r1
  go_enter Try.func11, Try.ntmps11
  go_upto_region 1 with fail
  obtain ⟨hb0, r0, r1⟩ := HX.out
  clear HX
  obtain ⟨W0, hW0⟩ : ∃ W, (w.alloc (.cells #[.int .i64 c, .int .i64 n, .string (bs t)] 31)).alloc (.cells #[.int .i64 0, .int .i64 0, .string ⟨#[]⟩] 39) = W := ⟨_, rfl⟩
  rw [hW0] at hb0 r0 r1 ⊢
  have x0 := cellB r0 0 (.int .i64 c) rfl
  have x1 := cellB r0 1 (.int .i64 n) rfl
  have x2 := cellB r0 2 (.string (bs t)) rfl
  have y0 := cellB r1 0 (.int .i64 0) rfl
  have y1 := cellB r1 1 (.int .i64 0) rfl
  have y2 := cellB r1 2 (.string ⟨#[]⟩) rfl
  have f0 := frozenB r1 0
  have f1 := frozenB r1 1
  have f2 := frozenB r1 2
  have r2 := setB (setB (setB r1 0 (.int .i64 c)) 1 (.int .i64 n)) 2 (.string (bs t))
  have z0 := cellB r2 0 (.int .i64 c) rfl
  have z1 := cellB r2 1 (.int .i64 n) rfl
  have z2 := cellB r2 2 (.string (bs t)) rfl
  have hle : w.heap.size ≤ w.heap.size + 1 := Nat.le_succ _
  have hB3 := ((hb0.setCell (p := ⟨w.heap.size + 1, 0, none⟩) hle (.int .i64 c)).setCell (p := ⟨w.heap.size + 1, 1, none⟩) hle (.int .i64 n)).setCell (p := ⟨w.heap.size + 1, 2, none⟩) hle (.string (bs t))
  clear hW0 r0 r1 r2
  go_wp2
  exact bodyPost_ret (v := .agg #[.int .i64 c, .int .i64 n, .string (bs t)]) (by simp [results, Try.f11, go_sem, z0, z1, z2]) rfl ⟨rfl, hB3⟩
end Go.Proofs.Ytbibfhhnnjojnaa
