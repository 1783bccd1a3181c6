/- The document's bag, walked: Put, where there is room. -/
import Derived.Test.YtemmnojcickcpaaBgO
namespace Go.Proofs.Ytemmnojcickcpaa
open Go.RowKit
attribute [local go_sem ↓] Go.wp_at_zero Go.wp_at_succ

set_option maxRecDepth 20000 in
set_option maxHeartbeats 2000000 in
theorem rPut_ok {base : Nat} {w : World} {B : Nat} {v : Value} {l : List It} {d : Int} (h : BagAt 29 38 base w B v l d) (a0 a1 a2 : Int) (a3 : List UInt8) (hp : putE (a0, a1, a2, a3) l.length = 0) :
    Calls Try.prog 30 #[.pointer (some ⟨B, 0, none⟩), .agg #[.int .i64 a0, .int .i64 a1, .int .i64 a2, .string (bs a3)]] w fun e W' => e = .returned (.int .i64 0) ∧ ∃ v', BagAt 29 38 base W' B v' (l ++ [(a0, a1, a2, a3)]) d ∧ Moved B v v' w W' := by
  obtain ⟨va, cap, rfl⟩ := h.slice
  have hsz : (bs a3).size = a3.length := bs_size a3
  have hC := putE_cases (a0, a1, a2, a3) l.length
  rw [hp] at hC
  have hC2 : (0 ≤ a0 ∧ a0 ≤ 63) ∧ (0 ≤ a1 ∧ a1 ≤ 63) ∧ 0 ≤ a2 ∧ a3.length ≤ 1048576 ∧ l.length < 4096 := by
    rcases hC with ⟨e, _⟩ | ⟨e0, e1, e2, ⟨e, _⟩ | ⟨e3, ⟨e, _⟩ | ⟨_, e4⟩⟩⟩
    · exact absurd e (by decide)
    · exact absurd e (by decide)
    · exact absurd e (by decide)
    · exact ⟨endB_true e0, endB_true e1, e2, e3, e4⟩
  obtain ⟨⟨q0, q1⟩, ⟨q2, q3⟩, q4, q5, hl⟩ := hC2
  have q6 : (a3.length : Int) ≤ 1048576 := by omega
  clear hC hp q5
  have hb0 : Below w.heap.size w (w.alloc (.cells #[.int .i64 a0, .int .i64 a1, .int .i64 a2, .string (bs a3)] 38)) := (Below.refl _ w).alloc (Nat.le_refl _) _
  have h0 := h.next hb0
  have c0 := cellB h0.blk 0 (.slice va l.length cap) rfl
  have hl2 : (l.length : Int) < 4096 := by omega
  go_enter Try.func30, Try.ntmps30
  go_upto_region 8 with fail
  have r0 := heap_alloc_new w (.cells #[.int .i64 a0, .int .i64 a1, .int .i64 a2, .string (bs a3)] 38)
  obtain ⟨W0, hW0⟩ : ∃ W, (w.alloc (.cells #[.int .i64 a0, .int .i64 a1, .int .i64 a2, .string (bs a3)] 38)) = W := ⟨_, rfl⟩
  rw [hW0] at hb0 h0 c0 r0 ⊢
  clear hW0
  have x0 := cellB r0 0 (.int .i64 a0) rfl
  have x1 := cellB r0 1 (.int .i64 a1) rfl
  have x2 := cellB r0 2 (.int .i64 a2) rfl
  have x3 := cellB r0 3 (.string (bs a3)) rfl
  obtain ⟨i0, hi, hz0, hz1, hz2⟩ := info_parts Try.info38
  have hml : l.length + 1 ≤ maxLen := by unfold maxLen; omega
  have hkb : (l.length + 1) * 40 ≤ 140737488355328 := by omega
  have hba : Below W0.heap.size W0 (W0.alloc (.cells #[.int .i64 a0, .int .i64 a1, .int .i64 a2, .string (bs a3)] 38)) := (Below.refl _ _).alloc (Nat.le_refl _) _
  have h1 := h0.next (below_drew hba)
  have h1o := h1.own
  have x6 : (W0.alloc (.cells #[.int .i64 a0, .int .i64 a1, .int .i64 a2, .string (bs a3)] 38)).cell? ⟨B, 0, none⟩ = some (.slice va l.length cap) := cellB h1.blk 0 _ rfl
  have HX : Hid (ics (l ++ [(a0, a1, a2, a3)]) = ics l ++ [.int .i64 a0, .int .i64 a1, .int .i64 a2, .string (bs a3)]) := ics_append l [(a0, a1, a2, a3)]
  obtain ⟨X, hX⟩ : ∃ X, ics l = X := ⟨_, rfl⟩
  rw [hX] at HX h1o
  have hbs : base ≤ (W0.alloc (.cells #[.int .i64 a0, .int .i64 a1, .int .i64 a2, .string (bs a3)] 38)).drew.heap.size := Nat.le_trans h1.base (Nat.le_of_lt h1.lt)
  have hcn : ∀ j u, [Value.int .i64 a0, .int .i64 a1, .int .i64 a2, .string (bs a3)][j]? = some u → (W0.alloc (.cells #[.int .i64 a0, .int .i64 a1, .int .i64 a2, .string (bs a3)] 38)).drew.cell? ((⟨W0.heap.size, 0, none⟩ : Addr).add j) = some u := cells_new W0 #[.int .i64 a0, .int .i64 a1, .int .i64 a2, .string (bs a3)] 38
  have hne : some B ≠ (Value.slice va l.length cap).ownBlock := fun e => h.ne e.symm
  have hlt := h1.lt
  have hblk := h1.blk
  have hbase := h.base
  have hm1 := Moved.of_below (hb0.trans ((below_drew hba).mono hb0.size)) B (.slice va l.length cap)
  clear hX h0 h1 h
  go_region_law (first | (refine step_append_lies _ (by rfl) _ _ 27 (by rfl) base 38 i0 (.agg #[.int .i64 0, .int .i64 0, .int .i64 0, .string ⟨#[]⟩]) 4 40 Try.underlying27 hi hz0 hz1 hz2 rfl (by decide) _ l.length X (by rfl) h1o ⟨W0.heap.size, 0, none⟩ 1 1 [.int .i64 a0, .int .i64 a1, .int .i64 a2, .string (bs a3)] (by rfl) rfl hcn (by simp [Value.oneCell']) (by decide) hml hkb hbs _ rfl ?_; intro ga ca w6 hown7 hgrow hat hlt6; have rc6 := (hgrow.block B hlt hne).trans hblk; have f0 := frozenB rc6 0; have s0 := cellB rc6 0 _ rfl))
  all_goals
    have hrs := setB rc6 0 (.slice (some ⟨ga, 0, none⟩) (l.length + 1) ca)
    go_wp2
    go_ret
    have hgB : ga ≠ B := by
      rcases hat with e | e
      · exact fun e2 => hne (by rw [e, e2])
      · rw [e]; exact fun e2 => by rw [← e2] at hlt; exact Nat.lt_irrefl _ hlt
    refine ⟨rfl, .slice (some ⟨ga, 0, none⟩) (l.length + 1) ca, ⟨hrs, ?_, fun e => hgB (Option.some.inj e), hbase⟩, ?_⟩
    · rw [HX.out, List.length_append]
      exact owns_kept hown7 (fun k hk => set_far (by rw [← Option.some.inj hk]; exact hgB) _ _)
    · have hsz := hm1.size
      refine ⟨hgrow.os.trans hm1.os, hgrow.tape.trans hm1.tape, hgrow.output.trans hm1.output, by simp only [World.setCell, Array.size_modify]; exact Nat.le_trans hsz hgrow.size, fun k hk h1 h2 => (set_far h1 _ _).trans ((hgrow.block k (Nat.lt_of_lt_of_le hk hsz) (fun e => h2 e.symm)).trans (hm1.block k hk h1 h2)), fun k hk => ?_⟩
      rcases hat with e | e
      · exact .inl (by rw [e]; exact hk)
      · right
        have : ga = k := Option.some.inj hk
        rw [← this, e]; exact hsz
end Go.Proofs.Ytemmnojcickcpaa
