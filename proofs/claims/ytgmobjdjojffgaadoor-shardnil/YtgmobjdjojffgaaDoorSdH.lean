/- Shards: Do of a new number, walked. -/
import Derived.Test.YtgmobjdjojffgaaDoorSdG
namespace Go.Proofs.YtgmobjdjojffgaaDoor
open Go.RowKit
attribute [local go_sem ↓] Go.wp_at_zero Go.wp_at_succ

theorem ans_read {W : World} {Q : Nat} {ob : Array Value} {t : TypeId} (hq : W.heap[Q]? = some (.cells ob t)) (ho : ob.size = 2) {B o : Nat} (hne : Q ≠ B) (vs : List Value) (a b : Value) : ((W.setCells B o vs).setCells Q 0 [a, b]).cell? ⟨Q, 0, none⟩ = some a ∧ ((W.setCells B o vs).setCells Q 0 [a, b]).cell? ⟨Q, 1, none⟩ = some b := by
  have hq2 : (W.setCells B o vs).heap[Q]? = some (.cells ob t) := (setCells_heap B vs o W Q hne).trans hq
  have hr := World.rangeAt_setCells_same (W.setCells B o vs) Q 0 [a, b] (fun j hj => by
    have hj' : j < ob.size := by rw [ho]; simpa using hj
    rw [Nat.zero_add]
    refine ⟨?_, frozenB hq2 j⟩
    rw [cellB hq2 j _ (Array.getElem?_eq_getElem hj')]
    rfl)
  exact ⟨hr 0 a rfl, hr 1 b rfl⟩
set_option maxRecDepth 20000 in
set_option maxHeartbeats 2000000 in
theorem sDo_new {w : World} {B : Nat} {s : Sh} {T : Nat} {v : Value} (hs : ShAt w B s T v) (h1 : s.st = 1) (n : Nat) (number kind : Int) (k vl o : List UInt8) (h : okN n number = true) (hn : (s.c n).1 < number) :
    Calls Tryd.prog 20 #[.pointer (some ⟨B, 0, none⟩), .int .i64 n, .int .i64 number, opV kind k vl o] w fun e W' => e = .returned (ansV (doR s.l kind k vl o).2.1 (doR s.l kind k vl o).1 true 0) ∧ ShPost w B T v ⟨1, (doR s.l kind k vl o).2.2, updC s.c n (number, (doR s.l kind k vl o).2.1, (doR s.l kind k vl o).1)⟩ W' := by
  have hB := W2_below w kind k vl o
  have hB2 : Below w.heap.size w (W2 w kind k vl o).drew := below_drew hB
  have hS := Status_any (hs.on hB)
  have hc1 : hasC s.st = true := by rw [h1]; rfl
  have w1 := within_any n 0 7 (W2 w kind k vl o)
  have w2 := within_any number 1 1099511627776 (W2 w kind k vl o)
  rw [okN, Bool.and_eq_true] at h
  rw [h.1] at w1
  rw [h.2] at w2
  rw [h1] at hS
  have hn8 : n < 8 := by have := inR_t h.1; omega
  have HX : Hid (∀ W, DoPost (W2 w kind k vl o).drew T v (doR s.l kind k vl o).2.2 W → (W.cell? ⟨B, 2 + n * 3, none⟩ = some (.int .i64 (s.c n).1) ∧ W.cell? ⟨B, 2 + n * 3 + 1, none⟩ = some (.int .i64 (s.c n).2.1) ∧ W.cell? ⟨B, 2 + n * 3 + 2, none⟩ = some (.string (bs (s.c n).2.2))) ∧ (∀ j, W.frozen? ⟨B, j, none⟩ = false) ∧ W.heap[w.heap.size + 1]? = some (.cells #[.int .i64 0, .string ⟨#[]⟩] 47)) := fun W hD => by
    obtain ⟨v', ht, ho, hm⟩ := hD
    have hs0 := hs.on hB2
    have hblk : W.heap[B]? = (W2 w kind k vl o).drew.heap[B]? := hm.block B hs0.lt (fun e => (hs0.tab hc1).2.1 e.symm)
    have hTl := (hs.tab hc1).1.lt
    obtain ⟨c0, c1, c2⟩ := hs0.cc hn8
    exact ⟨⟨(World.cell?_of_block hblk).trans c0, (World.cell?_of_block hblk).trans c1, (World.cell?_of_block hblk).trans c2⟩, fun j => (World.frozen?_of_block hblk).trans (hs0.fz j), (hm.block (w.heap.size + 1) (by show _ < (W2 w kind k vl o).heap.size; simp) (by omega)).trans (by
      have := heap_alloc_new (w.alloc (.cells #[.int .i64 kind, .string (bs k), .string (bs vl), .string (bs o)] 42)) (.cells #[.int .i64 0, .string ⟨#[]⟩] 47)
      rw [show (w.alloc (.cells #[.int .i64 kind, .string (bs k), .string (bs vl), .string (bs o)] 42)).heap.size = w.heap.size + 1 by simp] at this
      exact this)⟩
  have HE : Hid (∀ W, DoPost (W2 w kind k vl o).drew T v (doR s.l kind k vl o).2.2 W → ∀ x : La, ShPost w B T v ⟨1, (doR s.l kind k vl o).2.2, updC s.c n x⟩ ((W.setCells B (2 + n * 3) [.int .i64 x.1, .int .i64 x.2.1, .string (bs x.2.2)]).setCells (w.heap.size + 1) 0 [.int .i64 x.2.1, .string (bs x.2.2)])) := fun W hD x =>
    do_end hs h1 hn8 hB2 hD (by omega) (by show _ < (W2 w kind k vl o).heap.size; simp) x
  have hD := Do_any ((hs.on hB2).tab hc1).1 kind k vl o
  obtain ⟨c0, c1, c2⟩ := hs.cc hn8
  have ct := hs.c1
  rw [hc1] at ct
  simp only [if_true] at ct
  have hlt := hs.lt
  have hi0 : (0 : Int) ≤ (n : Int) := by omega
  have hi1 : (n : Int) < 8 := by omega
  have hl : ¬ number < (s.c n).1 := by omega
  have hq : (number == (s.c n).1) = false := by rw [beq_eq_false_iff_ne]; omega
  obtain ⟨N, hN⟩ : ∃ N, (s.c n).1 = N := ⟨_, rfl⟩
  obtain ⟨R1, hR1⟩ : ∃ R, (doR s.l kind k vl o).1 = R := ⟨_, rfl⟩
  obtain ⟨R2, hR2⟩ : ∃ R, (doR s.l kind k vl o).2.1 = R := ⟨_, rfl⟩
  obtain ⟨R3, hR3⟩ : ∃ R, (doR s.l kind k vl o).2.2 = R := ⟨_, rfl⟩
  rw [hN] at c0 hl hq HX
  rw [hR1, hR2, hR3] at hD
  rw [hR3] at HX HE
  rw [hR1, hR2, hR3]
  have hQB : ¬ w.heap.size + 1 = B := by omega
  have hBQ : ¬ B = w.heap.size + 1 := by omega
  clear h hs hB hB2 h1 hn hN hR1 hR2 hR3 hc1
  go_enter Tryd.func20, Tryd.ntmps20
  go_upto_region 10 with (first
    | (go_at_call 26; refine w1.mono ?_; clear w1; rintro e w1 ⟨rfl, h9⟩; subst h9)
    | (go_at_call 26; refine w2.mono ?_; clear w2; rintro e w1 ⟨rfl, h9⟩; subst h9)
    | (go_at_call 21; refine hS.mono ?_; clear hS; rintro e w1 ⟨rfl, h9⟩; subst h9))
  go_region_with (go_at_call 39; refine hD.mono ?_; rintro e w3 ⟨rfl, hP⟩)
  all_goals
    obtain ⟨⟨d0, d1, d2⟩, df, hq3⟩ := HX.out _ hP
    have f0 := df (2 + n * 3)
    have f1 := df (2 + n * 3 + 1)
    have f2 := df (2 + n * 3 + 2)
    have q0 := cellB hq3 0 _ rfl
    have q1 := cellB hq3 1 _ rfl
    have z0 := frozenB hq3 0
    have z1 := frozenB hq3 1
    have HP := HE.out _ hP (number, R2, R1)
    have HP' : Hid (_) := HP
    have HR : Hid (_) := ans_read hq3 rfl hQB (o := 2 + n * 3) [.int .i64 number, .int .i64 R2, .string (bs R1)] (.int .i64 R2) (.string (bs R1))
    clear HP hP HX HE df hq3 hD
    go_wp2
    obtain ⟨r0, r1⟩ := HR.out
    simp only [World.setCells] at r0 r1
    exact bodyPost_ret (v := ansV R2 R1 true 0) (by simp [results, Tryd.f20, go_sem, r0, r1]) rfl ⟨rfl, HP'.out⟩
end Go.Proofs.YtgmobjdjojffgaaDoor
