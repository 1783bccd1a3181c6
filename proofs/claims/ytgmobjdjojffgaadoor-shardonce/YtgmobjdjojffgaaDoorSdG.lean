/- Shards: what a client's last one being turned leaves. -/
import Derived.Test.YtgmobjdjojffgaaDoorSdC
namespace Go.Proofs.YtgmobjdjojffgaaDoor
section
open Go.RowKit

/-- The clients, one of them anew. -/
def updC (c : Nat → La) (n : Nat) (x : La) : Nat → La := fun i => if i = n then x else c i
theorem ccs_cell (c : Nat → La) {i r : Nat} (hi : i < 8) (hr : r < 3) : (ccs c)[i * 3 + r]? = [Value.int .i64 (c i).1, .int .i64 (c i).2.1, .string (bs (c i).2.2)][r]? := by
  obtain ⟨a, b, d⟩ := ccs_at c i hi
  match r, hr with
  | 0, _ => exact a
  | 1, _ => exact b
  | 2, _ => exact d
theorem ccs_old (c : Nat → La) {n : Nat} (x : La) {j : Nat} (hj : j < 24) (h : j < n * 3 ∨ n * 3 + 3 ≤ j) : (ccs (updC c n x))[j]? = (ccs c)[j]? := by
  have e : j = (j / 3) * 3 + j % 3 := by omega
  have hi : j / 3 < 8 := by omega
  have hr : j % 3 < 3 := by omega
  have hne : j / 3 ≠ n := by omega
  rw [e, ccs_cell _ hi hr, ccs_cell _ hi hr, updC, if_neg hne]
theorem ccs_new (c : Nat → La) {n : Nat} (hn : n < 8) (x : La) {r : Nat} (hr : r < 3) : (ccs (updC c n x))[n * 3 + r]? = [Value.int .i64 x.1, .int .i64 x.2.1, .string (bs x.2.2)][r]? := by
  rw [ccs_cell _ hn hr, updC, if_pos rfl]
/-- Only these two blocks are not as they were. -/
structure Mv2 (B T : Nat) (w w' : World) : Prop where
  os : w'.os = w.os
  tape : w'.tape = w.tape
  output : w'.output = w.output
  size : w.heap.size ≤ w'.heap.size
  block : ∀ k, k < w.heap.size → k ≠ B → k ≠ T → w'.heap[k]? = w.heap[k]?
theorem Mv2.of_mv {B : Nat} {w w' : World} (h : Mv B w w') (T : Nat) : Mv2 B T w w' := ⟨h.os, h.tape, h.output, h.size, fun k hk h1 _ => h.block k hk h1⟩
theorem Mv2.of_below {w w' : World} (h : Below w.heap.size w w') (B T : Nat) : Mv2 B T w w' := ⟨h.os, h.tape, h.output, h.size, fun k hk _ _ => h.block k hk⟩
theorem Mv2.trans {B T : Nat} {w w1 w2 : World} (h : Mv2 B T w w1) (k : Mv2 B T w1 w2) : Mv2 B T w w2 :=
  ⟨k.os.trans h.os, k.tape.trans h.tape, k.output.trans h.output, Nat.le_trans h.size k.size, fun i hi h1 h2 => (k.block i (Nat.lt_of_lt_of_le hi h.size) h1 h2).trans (h.block i hi h1 h2)⟩
theorem Mv2.below {B T b : Nat} {w w' : World} (h : Mv2 B T w w') (hB : b ≤ B) (hT : b ≤ T) (hb : b ≤ w.heap.size) : Below b w w' :=
  ⟨h.os, h.tape, h.output, h.size, fun k hk => h.block k (by omega) (by omega) (by omega)⟩
/-- Behind Do of a new number. -/
def ShPost (w : World) (B T : Nat) (v : Value) (s' : Sh) (W' : World) : Prop := ∃ v', ShAt W' B s' T v' ∧ (∀ q, v'.ownBlock = some q → v.ownBlock = some q ∨ w.heap.size ≤ q) ∧ Mv2 B T w W'
theorem do_end {w w0 w1 : World} {B T Q n : Nat} {s : Sh} {v : Value} (hs : ShAt w B s T v) (h1 : s.st = 1) (hn : n < 8) (hb : Below w.heap.size w w0) {l' : List Rw} (hD : DoPost w0 T v l' w1) (hQ : w.heap.size ≤ Q) (hQ0 : Q < w0.heap.size) (x : La) :
    ShPost w B T v ⟨1, l', updC s.c n x⟩ ((w1.setCells B (2 + n * 3) [.int .i64 x.1, .int .i64 x.2.1, .string (bs x.2.2)]).setCells Q 0 [.int .i64 x.2.1, .string (bs x.2.2)]) := by
  obtain ⟨v', ht, ho, hm⟩ := hD
  have hc1 : hasC s.st = true := by rw [h1]; rfl
  have hQT : ∀ q, v'.ownBlock = some q → q ≠ Q := fun q e => by
    rcases ho q e with h | h
    · have := (hs.tab hc1).1.rows.lt q h
      omega
    · omega
  have hs0 := hs.on hb
  obtain ⟨t0, tB, tk⟩ := hs0.tab hc1
  have hlt := hs.lt
  have hblk : w1.heap[B]? = w0.heap[B]? := hm.block B hs0.lt (fun e => tB e.symm)
  have hQB : Q ≠ B := by omega
  have hTl := (hs.tab hc1).1.lt
  have hcell : ∀ j, w1.cell? ⟨B, j, none⟩ = w0.cell? ⟨B, j, none⟩ := fun j => World.cell?_of_block (w := w0) (a := ⟨B, j, none⟩) hblk
  have hfrz : ∀ j, w1.frozen? ⟨B, j, none⟩ = w0.frozen? ⟨B, j, none⟩ := fun j => World.frozen?_of_block (w := w0) (a := ⟨B, j, none⟩) hblk
  have hch : ∀ j y, (hcs s T)[j]? = some y → w1.cell? ⟨B, 1 + j, none⟩ = some y := fun j y hy => (hcell _).trans (hs0.ch j y hy)
  have hthere : w1.there B (2 + n * 3) 3 := fun j hj => by
    refine ⟨?_, (hfrz _).trans (hs0.fz _)⟩
    obtain ⟨y, hy⟩ : ∃ y, (hcs s T)[1 + n * 3 + j]? = some y := ⟨_, List.getElem?_eq_getElem (by rw [hcs_len]; omega)⟩
    have := hch _ y hy
    rw [show 1 + (1 + n * 3 + j) = 2 + n * 3 + j by omega] at this
    rw [this]
    rfl
  obtain ⟨a1, a2, a3, a4⟩ := setCells_more B [Value.int .i64 x.1, .int .i64 x.2.1, .string (bs x.2.2)] (2 + n * 3) w1
  obtain ⟨b1, b2, b3, b4⟩ := setCells_more Q [Value.int .i64 x.2.1, .string (bs x.2.2)] 0 (w1.setCells B (2 + n * 3) [Value.int .i64 x.1, .int .i64 x.2.1, .string (bs x.2.2)])
  have hfar : ∀ k, k ≠ B → k ≠ Q → ((w1.setCells B (2 + n * 3) [.int .i64 x.1, .int .i64 x.2.1, .string (bs x.2.2)]).setCells Q 0 [.int .i64 x.2.1, .string (bs x.2.2)]).heap[k]? = w1.heap[k]? := fun k h2 h3 => (setCells_heap Q _ 0 _ k h3).trans (setCells_heap B _ _ w1 k h2)
  have hnear : ∀ j, ((w1.setCells B (2 + n * 3) [.int .i64 x.1, .int .i64 x.2.1, .string (bs x.2.2)]).setCells Q 0 [.int .i64 x.2.1, .string (bs x.2.2)]).cell? ⟨B, j, none⟩ = (w1.setCells B (2 + n * 3) [.int .i64 x.1, .int .i64 x.2.1, .string (bs x.2.2)]).cell? ⟨B, j, none⟩ := fun j => World.cell?_of_block (setCells_heap Q _ 0 _ B (fun e => hQB e.symm))
  refine ⟨v', ⟨?_, ?_, fun j y hy => ?_, fun j => ?_, fun _ => ⟨ht.keep (hfar T tB (by omega)) (fun k e _ => hfar k ?_ (hQT k e)), tB, fun k e => ?_⟩, fun e => by cases e⟩, fun q e => ?_, ?_, ?_, ?_, ?_, ?_⟩
  · rw [b1, a1]
    exact Nat.lt_of_lt_of_le (Nat.lt_of_lt_of_le hlt hb.size) hm.size
  · rw [hnear, World.cell?_setCells_out B _ (2 + n * 3) w1 ⟨B, 0, none⟩ (fun _ _ => .inl (by simp; omega)), hcell, hs0.c0, h1]
  · rw [hnear]
    match j with
    | 0 =>
      rw [World.cell?_setCells_out B _ (2 + n * 3) w1 ⟨B, 1 + 0, none⟩ (fun _ _ => .inl (by simp; omega))]
      refine hch 0 y ?_
      rw [← hy, hcs, hcs, hc1]
      rfl
    | j + 1 =>
      have hj : j < 24 := by have := (List.getElem?_eq_some_iff.1 hy).1; rw [hcs_len] at this; omega
      have hy' : (ccs (updC s.c n x))[j]? = some y := by simpa [hcs] using hy
      by_cases hr : j < n * 3 ∨ n * 3 + 3 ≤ j
      · rw [World.cell?_setCells_out B _ (2 + n * 3) w1 ⟨B, 1 + (j + 1), none⟩ (fun _ _ => by simp; omega)]
        refine hch (j + 1) y ?_
        rw [ccs_old s.c x hj hr] at hy'
        simpa [hcs] using hy'
      · have e : j = n * 3 + (j - n * 3) := by omega
        rw [e, ccs_new s.c hn x (by omega)] at hy'
        have := World.rangeAt_setCells_same w1 B (2 + n * 3) [.int .i64 x.1, .int .i64 x.2.1, .string (bs x.2.2)] hthere (j - n * 3) y hy'
        rw [show 1 + (j + 1) = 2 + n * 3 + (j - n * 3) by omega]
        exact this
  · rw [World.frozen?_setCells, World.frozen?_setCells]
    exact (hfrz j).trans (hs0.fz j)
  · intro e2
    subst e2
    rcases ho k e with h | h
    · exact tk k h rfl
    · have := hs0.lt; omega
  · rcases ho k e with h | h
    · exact tk k h
    · have := hs0.lt; omega
  · rcases ho q e with h | h
    · exact .inl h
    · exact .inr (Nat.le_trans hb.size h)
  · exact (b2.trans a2).trans (hm.os.trans hb.os)
  · exact (b3.trans a3).trans (hm.tape.trans hb.tape)
  · exact (b4.trans a4).trans (hm.output.trans hb.output)
  · rw [b1, a1]
    exact Nat.le_trans hb.size hm.size
  · intro k hk k1 k2
    exact (hfar k k1 (by omega)).trans ((hm.block k (Nat.lt_of_lt_of_le hk hb.size) k2).trans (hb.block k hk))
end
section
open Go.RowKit
attribute [local go_sem ↓] Go.wp_at_zero Go.wp_at_succ

theorem ans_read {W : World} {Q : Nat} {ob : Array Value} {t : TypeId} (hq : W.heap[Q]? = some (.cells ob t)) (ho : ob.size = 2) {B o : Nat} (hne : Q ≠ B) (vs : List Value) (a b : Value) : ((W.setCells B o vs).setCells Q 0 [a, b]).cell? ⟨Q, 0, none⟩ = some a ∧ ((W.setCells B o vs).setCells Q 0 [a, b]).cell? ⟨Q, 1, none⟩ = some b := by
  have hq2 : (W.setCells B o vs).heap[Q]? = some (.cells ob t) := (setCells_heap B vs o W Q hne).trans hq
  have hr := World.rangeAt_setCells_same (W.setCells B o vs) Q 0 [a, b] (fun j hj => by
    have hj' : j < ob.size := by rw [ho]; simpa using hj
    rw [Nat.zero_add]
    refine ⟨?_, frozenB hq2 j⟩
    rw [cellB hq2 j _ (Array.getElem?_eq_getElem hj')]
    rfl)
  exact ⟨hr 0 a rfl, hr 1 b rfl⟩
set_option maxRecDepth 20000 in
set_option maxHeartbeats 2000000 in
theorem sDo_new {w : World} {B : Nat} {s : Sh} {T : Nat} {v : Value} (hs : ShAt w B s T v) (h1 : s.st = 1) (n : Nat) (number kind : Int) (k vl o : List UInt8) (h : okN n number = true) (hn : (s.c n).1 < number) :
    Calls Tryd.prog 20 #[.pointer (some ⟨B, 0, none⟩), .int .i64 n, .int .i64 number, opV kind k vl o] w fun e W' => e = .returned (ansV (doR s.l kind k vl o).2.1 (doR s.l kind k vl o).1 true 0) ∧ ShPost w B T v ⟨1, (doR s.l kind k vl o).2.2, updC s.c n (number, (doR s.l kind k vl o).2.1, (doR s.l kind k vl o).1)⟩ W' := by
  have hB := W2_below w kind k vl o
  have hB2 : Below w.heap.size w (W2 w kind k vl o).drew := below_drew hB
  have hS := Status_any (hs.on hB)
  have hc1 : hasC s.st = true := by rw [h1]; rfl
  have w1 := within_any n 0 7 (W2 w kind k vl o)
  have w2 := within_any number 1 1099511627776 (W2 w kind k vl o)
  rw [okN, Bool.and_eq_true] at h
  rw [h.1] at w1
  rw [h.2] at w2
  rw [h1] at hS
  have hn8 : n < 8 := by have := inR_t h.1; omega
  have HX : Hid (∀ W, DoPost (W2 w kind k vl o).drew T v (doR s.l kind k vl o).2.2 W → (W.cell? ⟨B, 2 + n * 3, none⟩ = some (.int .i64 (s.c n).1) ∧ W.cell? ⟨B, 2 + n * 3 + 1, none⟩ = some (.int .i64 (s.c n).2.1) ∧ W.cell? ⟨B, 2 + n * 3 + 2, none⟩ = some (.string (bs (s.c n).2.2))) ∧ (∀ j, W.frozen? ⟨B, j, none⟩ = false) ∧ W.heap[w.heap.size + 1]? = some (.cells #[.int .i64 0, .string ⟨#[]⟩] 47)) := fun W hD => by
    obtain ⟨v', ht, ho, hm⟩ := hD
    have hs0 := hs.on hB2
    have hblk : W.heap[B]? = (W2 w kind k vl o).drew.heap[B]? := hm.block B hs0.lt (fun e => (hs0.tab hc1).2.1 e.symm)
    have hTl := (hs.tab hc1).1.lt
    obtain ⟨c0, c1, c2⟩ := hs0.cc hn8
    exact ⟨⟨(World.cell?_of_block hblk).trans c0, (World.cell?_of_block hblk).trans c1, (World.cell?_of_block hblk).trans c2⟩, fun j => (World.frozen?_of_block hblk).trans (hs0.fz j), (hm.block (w.heap.size + 1) (by show _ < (W2 w kind k vl o).heap.size; simp) (by omega)).trans (by
      have := heap_alloc_new (w.alloc (.cells #[.int .i64 kind, .string (bs k), .string (bs vl), .string (bs o)] 42)) (.cells #[.int .i64 0, .string ⟨#[]⟩] 47)
      rw [show (w.alloc (.cells #[.int .i64 kind, .string (bs k), .string (bs vl), .string (bs o)] 42)).heap.size = w.heap.size + 1 by simp] at this
      exact this)⟩
  have HE : Hid (∀ W, DoPost (W2 w kind k vl o).drew T v (doR s.l kind k vl o).2.2 W → ∀ x : La, ShPost w B T v ⟨1, (doR s.l kind k vl o).2.2, updC s.c n x⟩ ((W.setCells B (2 + n * 3) [.int .i64 x.1, .int .i64 x.2.1, .string (bs x.2.2)]).setCells (w.heap.size + 1) 0 [.int .i64 x.2.1, .string (bs x.2.2)])) := fun W hD x =>
    do_end hs h1 hn8 hB2 hD (by omega) (by show _ < (W2 w kind k vl o).heap.size; simp) x
  have hD := Do_any ((hs.on hB2).tab hc1).1 kind k vl o
  obtain ⟨c0, c1, c2⟩ := hs.cc hn8
  have ct := hs.c1
  rw [hc1] at ct
  simp only [if_true] at ct
  have hlt := hs.lt
  have hi0 : (0 : Int) ≤ (n : Int) := by omega
  have hi1 : (n : Int) < 8 := by omega
  have hl : ¬ number < (s.c n).1 := by omega
  have hq : (number == (s.c n).1) = false := by rw [beq_eq_false_iff_ne]; omega
  obtain ⟨N, hN⟩ : ∃ N, (s.c n).1 = N := ⟨_, rfl⟩
  obtain ⟨R1, hR1⟩ : ∃ R, (doR s.l kind k vl o).1 = R := ⟨_, rfl⟩
  obtain ⟨R2, hR2⟩ : ∃ R, (doR s.l kind k vl o).2.1 = R := ⟨_, rfl⟩
  obtain ⟨R3, hR3⟩ : ∃ R, (doR s.l kind k vl o).2.2 = R := ⟨_, rfl⟩
  rw [hN] at c0 hl hq HX
  rw [hR1, hR2, hR3] at hD
  rw [hR3] at HX HE
  rw [hR1, hR2, hR3]
  have hQB : ¬ w.heap.size + 1 = B := by omega
  have hBQ : ¬ B = w.heap.size + 1 := by omega
  clear h hs hB hB2 h1 hn hN hR1 hR2 hR3 hc1
  go_enter Tryd.func20, Tryd.ntmps20
  go_upto_region 10 with (first
    | (go_at_call 26; refine w1.mono ?_; clear w1; rintro e w1 ⟨rfl, h9⟩; subst h9)
    | (go_at_call 26; refine w2.mono ?_; clear w2; rintro e w1 ⟨rfl, h9⟩; subst h9)
    | (go_at_call 21; refine hS.mono ?_; clear hS; rintro e w1 ⟨rfl, h9⟩; subst h9))
  go_region_with (go_at_call 39; refine hD.mono ?_; rintro e w3 ⟨rfl, hP⟩)
  all_goals
    obtain ⟨⟨d0, d1, d2⟩, df, hq3⟩ := HX.out _ hP
    have f0 := df (2 + n * 3)
    have f1 := df (2 + n * 3 + 1)
    have f2 := df (2 + n * 3 + 2)
    have q0 := cellB hq3 0 _ rfl
    have q1 := cellB hq3 1 _ rfl
    have z0 := frozenB hq3 0
    have z1 := frozenB hq3 1
    have HP := HE.out _ hP (number, R2, R1)
    have HP' : Hid (_) := HP
    have HR : Hid (_) := ans_read hq3 rfl hQB (o := 2 + n * 3) [.int .i64 number, .int .i64 R2, .string (bs R1)] (.int .i64 R2) (.string (bs R1))
    clear HP hP HX HE df hq3 hD
    go_wp2
    obtain ⟨r0, r1⟩ := HR.out
    simp only [World.setCells] at r0 r1
    exact bodyPost_ret (v := ansV R2 R1 true 0) (by simp [results, Tryd.f20, go_sem, r0, r1]) rfl ⟨rfl, HP'.out⟩
end
end Go.Proofs.YtgmobjdjojffgaaDoor
