/- The heap's methods of the bell's queue, walked: Push, Pop. -/
import Derived.Test.YtemmnojcickcpaaBeB
namespace Go.Proofs.Ytemmnojcickcpaa
open Go.RowKit
attribute [local go_sem ↓] Go.wp_at_zero Go.wp_at_succ

theorem Try.info92 : (Try.prog.info? 92).map (fun i => (i.zero, i.size, i.bytes)) = some (some (.agg #[.int .i64 0, .int .i64 0, .int .i64 0]), 3, 24) := by kernel_rfl
theorem cells_new (w : World) (cs : Array Value) (t : TypeId) : ∀ j u, cs.toList[j]? = some u → (w.alloc (.cells cs t)).drew.cell? ((⟨w.heap.size, 0, none⟩ : Addr).add j) = some u :=
  World.news_of_block (w := (w.alloc (.cells cs t)).drew) (heap_alloc_new w (.cells cs t))
theorem isTimer (a0 a1 a2 : Int) (w : World) : (Instr.typeAssert (.iface 92 (.agg #[.int .i64 a0, .int .i64 a1, .int .i64 a2])) 20 92 true).run Try.prog w = .ok (.tuple #[.agg #[.int .i64 a0, .int .i64 a1, .int .i64 a2], .bool true]) w := by kernel_rfl
set_option maxRecDepth 20000 in
set_option maxHeartbeats 2000000 in
theorem qPush_any {base : Nat} {w : World} {B : Nat} {v : Value} {l : List Tm} {now : Int} (h : BellAt base w B v l now) (hl : l.length ≤ 1000) (a0 a1 a2 : Int) :
    Calls Try.prog 75 #[.pointer (some ⟨B, 0, none⟩), .iface 92 (.agg #[.int .i64 a0, .int .i64 a1, .int .i64 a2])] w fun e W' => e = .returned (.tuple #[]) ∧ ∃ v', BellAt base W' B v' (l ++ [(a0, a1, a2)]) now ∧ Moved B v v' w W' := by
  obtain ⟨va, cap, rfl⟩ := h.slice
  have hb0 : Below w.heap.size w (w.alloc (.cells #[.int .i64 a0, .int .i64 a1, .int .i64 a2] 92)) := (Below.refl _ w).alloc (Nat.le_refl _) _
  have h0 := h.next hb0
  have hta := isTimer a0 a1 a2
  go_enter Try.func75, Try.ntmps75
  go_upto_region 2 with fail
  have r0 := heap_alloc_new w (.cells #[.int .i64 a0, .int .i64 a1, .int .i64 a2] 92)
  obtain ⟨W0, hW0⟩ : ∃ W, (w.alloc (.cells #[.int .i64 a0, .int .i64 a1, .int .i64 a2] 92)) = W := ⟨_, rfl⟩
  rw [hW0] at hb0 h0 r0 ⊢
  clear hW0 hta
  have c0 := cellB h0.blk 0 (.slice va l.length cap) rfl
  have x0 := cellB r0 0 (.int .i64 a0) rfl
  have x1 := cellB r0 1 (.int .i64 a1) rfl
  have x2 := cellB r0 2 (.int .i64 a2) rfl
  obtain ⟨i0, hi, hz0, hz1, hz2⟩ := info_parts Try.info92
  have hml : l.length + 1 ≤ maxLen := by unfold maxLen; omega
  have hkb : (l.length + 1) * 24 ≤ 140737488355328 := by omega
  have hba : Below W0.heap.size W0 (W0.alloc (.cells #[.int .i64 a0, .int .i64 a1, .int .i64 a2] 92)) := (Below.refl _ _).alloc (Nat.le_refl _) _
  have h1 := h0.next (below_drew hba)
  have h1o := h1.own
  have x6 : (W0.alloc (.cells #[.int .i64 a0, .int .i64 a1, .int .i64 a2] 92)).cell? ⟨B, 0, none⟩ = some (.slice va l.length cap) := cellB h1.blk 0 _ rfl
  have HX : Hid (tcs (l ++ [(a0, a1, a2)]) = tcs l ++ [.int .i64 a0, .int .i64 a1, .int .i64 a2]) := tcs_append l [(a0, a1, a2)]
  obtain ⟨X, hX⟩ : ∃ X, tcs l = X := ⟨_, rfl⟩
  rw [hX] at HX h1o
  have hbs : base ≤ (W0.alloc (.cells #[.int .i64 a0, .int .i64 a1, .int .i64 a2] 92)).drew.heap.size := Nat.le_trans h1.base (Nat.le_of_lt h1.lt)
  have hcn : ∀ j u, [Value.int .i64 a0, .int .i64 a1, .int .i64 a2][j]? = some u → (W0.alloc (.cells #[.int .i64 a0, .int .i64 a1, .int .i64 a2] 92)).drew.cell? ((⟨W0.heap.size, 0, none⟩ : Addr).add j) = some u := cells_new W0 #[.int .i64 a0, .int .i64 a1, .int .i64 a2] 92
  have hne : some B ≠ (Value.slice va l.length cap).ownBlock := fun e => h.ne e.symm
  have hlt := h1.lt
  have hblk := h1.blk
  have hbase := h.base
  have hm1 := Moved.of_below (hb0.trans ((below_drew hba).mono hb0.size)) B (.slice va l.length cap)
  clear hX h0 h1 h
  go_region_law (first | (refine step_append_lies _ (by rfl) _ _ 73 (by rfl) base 92 i0 (.agg #[.int .i64 0, .int .i64 0, .int .i64 0]) 3 24 Try.underlying73 hi hz0 hz1 hz2 rfl (by decide) _ l.length X (by rfl) h1o ⟨W0.heap.size, 0, none⟩ 1 1 [.int .i64 a0, .int .i64 a1, .int .i64 a2] (by rfl) rfl hcn (by simp [Value.oneCell']) (by decide) hml hkb hbs _ rfl ?_; intro ga ca w6 hown7 hgrow hat hlt6; have rc6 := (hgrow.block B hlt hne).trans hblk; have f0 := frozenB rc6 0; have s0 := cellB rc6 0 _ rfl))
  all_goals
    have hrs := setB rc6 0 (.slice (some ⟨ga, 0, none⟩) (l.length + 1) ca)
    have hgB : ga ≠ B := by
      rcases hat with e | e
      · exact fun e2 => hne (by rw [e, e2])
      · rw [e]; exact fun e2 => by rw [← e2] at hlt; exact Nat.lt_irrefl _ hlt
    have HZ : Hid (∃ v', BellAt base (w6.setCell ⟨B, 0, none⟩ (.slice (some ⟨ga, 0, none⟩) (l.length + 1) ca)) B v' (l ++ [(a0, a1, a2)]) now ∧ Moved B (.slice va l.length cap) v' w (w6.setCell ⟨B, 0, none⟩ (.slice (some ⟨ga, 0, none⟩) (l.length + 1) ca))) := by
      refine ⟨.slice (some ⟨ga, 0, none⟩) (l.length + 1) ca, ⟨hrs, ?_, fun e => hgB (Option.some.inj e), hbase⟩, ?_⟩
      · rw [HX.out, List.length_append]
        exact owns_kept hown7 (fun k hk => set_far (by rw [← Option.some.inj hk]; exact hgB) _ _)
      · have hsz := hm1.size
        refine ⟨hgrow.os.trans hm1.os, hgrow.tape.trans hm1.tape, hgrow.output.trans hm1.output, by simp only [World.setCell, Array.size_modify]; exact Nat.le_trans hsz hgrow.size, fun k hk h1 h2 => (set_far h1 _ _).trans ((hgrow.block k (Nat.lt_of_lt_of_le hk hsz) (fun e => h2 e.symm)).trans (hm1.block k hk h1 h2)), fun k hk => ?_⟩
        rcases hat with e | e
        · exact .inl (by rw [e]; exact hk)
        · right
          have : ga = k := Option.some.inj hk
          rw [← this, e]; exact hsz
    go_wp2
    exact bodyPost_end (v := .tuple #[]) (by simp [results, Try.f75]) rfl ⟨rfl, HZ.out⟩
theorem owns_parts {w : World} {base g n cap : Nat} {E : TypeId} {s : Nat} {xs : List Value} (h : w.ownsRow base E s (.slice (some ⟨g, 0, none⟩) n cap) n xs) :
    ∃ cur : Array Value, base ≤ g ∧ w.heap[g]? = some (.cells cur E (0, 0)) ∧ n ≤ cap ∧ cap ≤ maxLen ∧ cur.size = cap * s ∧ cur.toList.take (n * s) = xs ∧ xs.length = n * s := by
  obtain ⟨hl, h | ⟨g', cap', cur, hv, h2, h3, h4, h5, h6, h7⟩⟩ := h
  · cases h.1
  · injection hv with h1 _ h8
    injection h1 with h1
    injection h1 with h1 _ _
    subst h1 h8
    exact ⟨cur, h2, h3, h4, h5, h6, h7, hl⟩
theorem owns_take {w : World} {base g n cap m : Nat} {E : TypeId} {s : Nat} {xs : List Value} (h : w.ownsRow base E s (.slice (some ⟨g, 0, none⟩) n cap) n xs) (hm : m ≤ n) : w.ownsRow base E s (.slice (some ⟨g, 0, none⟩) m cap) m (xs.take (m * s)) := by
  obtain ⟨cur, h1, h2, h3, h4, h5, h6, h7⟩ := owns_parts h
  have hms : m * s ≤ n * s := Nat.mul_le_mul_right s hm
  refine ⟨by rw [List.length_take, h7]; omega, .inr ⟨g, cap, cur, rfl, h1, h2, by omega, h4, h5, ?_⟩⟩
  rw [← h6, List.take_take, Nat.min_eq_left hms]
set_option maxRecDepth 20000 in
set_option maxHeartbeats 2000000 in
theorem qPop_any {base : Nat} {w : World} {B : Nat} {v : Value} {r : List Tm} {now : Int} (a0 a1 a2 : Int) (h : BellAt base w B v (r ++ [(a0, a1, a2)]) now) (hl : r.length ≤ 1000) :
    Calls Try.prog 74 #[.pointer (some ⟨B, 0, none⟩)] w fun e W' => e = .returned (.iface 92 (.agg #[.int .i64 a0, .int .i64 a1, .int .i64 a2])) ∧ ∃ v', BellAt base W' B v' r now ∧ Moved B v v' w W' := by
  have hlen : (r ++ [(a0, a1, a2)]).length = r.length + 1 := by simp
  obtain ⟨g, cap, rfl, hg1, hg2, hg3, hcap, hcs⟩ := h.at (by omega)
  obtain ⟨m, hm⟩ : ∃ m, r.length = m := ⟨_, rfl⟩
  have hlast : (r ++ [(a0, a1, a2)])[m]? = some (a0, a1, a2) := by rw [List.getElem?_append_right (by omega)]; simp [hm]
  obtain ⟨x0, x1, x2⟩ := hcs m _ hlast
  simp only at x0 x1 x2
  have c0 := cellB h.blk 0 (.slice (some ⟨g, 0, none⟩) (r ++ [(a0, a1, a2)]).length cap) rfl
  have fB := frozenB h.blk 0
  have HM : Hid (r.length = m) := hm
  have hlen2 : (r ++ [(a0, a1, a2)]).length = m + 1 := by omega
  rw [hlen2] at c0
  have m0 : (0 : Int) ≤ (m : Int) := by omega
  have m1 : (m : Int) ≤ (cap : Int) := by omega
  have m2 : m ≤ cap := by omega
  have m3 : (m : Int) ≤ 1000 := by omega
  have hBl := h.lt
  have hwB := World.new_ne w ⟨B, 0, none⟩ c0
  clear hcs hlast hlen hm hcap
  go_enter Try.func74, Try.ntmps74
  go_upto_region 3 with fail
  have hb1 : Below w.heap.size w (w.alloc (.cells #[.int .i64 a0, .int .i64 a1, .int .i64 a2] 92)) := (Below.refl _ _).alloc (Nat.le_refl _) _
  have t1 := heap_alloc_new w (.cells #[.int .i64 a0, .int .i64 a1, .int .i64 a2] 92)
  have h1 := h.next hb1
  obtain ⟨W1, hW1⟩ : ∃ W, w.alloc (.cells #[.int .i64 a0, .int .i64 a1, .int .i64 a2] 92) = W := ⟨_, rfl⟩
  rw [hW1] at hb1 t1 h1 ⊢
  obtain ⟨T, hT⟩ : ∃ T, w.heap.size = T := ⟨_, rfl⟩
  have hTB : T ≠ B := by omega
  rw [hT] at t1 ⊢
  have d0 := cellB h1.blk 0 (.slice (some ⟨g, 0, none⟩) (r ++ [(a0, a1, a2)]).length cap) rfl
  rw [hlen2] at d0
  have fB1 := frozenB h1.blk 0
  have hm1 := Moved.of_below hb1 B (.slice (some ⟨g, 0, none⟩) (r ++ [(a0, a1, a2)]).length cap)
  clear hW1 hT c0 fB x0 x1 x2 hwB
  go_upto_region 4 with fail
  have hB2 : BellAt base (W1.setCell ⟨B, 0, none⟩ (.slice (some ⟨g, 0, none⟩) m cap)) B (.slice (some ⟨g, 0, none⟩) m cap) r now := by
    have ho := owns_take h1.own (m := m) (by omega)
    rw [tcs_take, List.take_append_of_le_length (by have := HM.out; omega), List.take_of_length_le (by have := HM.out; omega)] at ho
    refine ⟨setB h1.blk 0 (.slice (some ⟨g, 0, none⟩) m cap), ?_, fun e => hg3 (Option.some.inj e), h.base⟩
    rw [HM.out]
    exact owns_kept ho (fun q hq => set_far (by rw [← Option.some.inj hq]; exact hg3) _ _)
  have hM2 : Moved B (.slice (some ⟨g, 0, none⟩) (r ++ [(a0, a1, a2)]).length cap) (.slice (some ⟨g, 0, none⟩) m cap) w (W1.setCell ⟨B, 0, none⟩ (.slice (some ⟨g, 0, none⟩) m cap)) :=
    ⟨hm1.os, hm1.tape, hm1.output, by simp only [World.setCell, Array.size_modify]; exact hm1.size, fun q hq h2 h3 => (set_far h2 _ _).trans (hm1.block q hq h2 h3), fun q hq => .inl hq⟩
  have t2 := (set_far (w := W1) hTB 0 (.slice (some ⟨g, 0, none⟩) m cap)).trans t1
  obtain ⟨W2, hW2⟩ : ∃ W, W1.setCell ⟨B, 0, none⟩ (.slice (some ⟨g, 0, none⟩) m cap) = W := ⟨_, rfl⟩
  rw [hW2] at hB2 hM2 t2 ⊢
  have y0 := cellB t2 0 (.int .i64 a0) rfl
  have y1 := cellB t2 1 (.int .i64 a1) rfl
  have y2 := cellB t2 2 (.int .i64 a2) rfl
  clear hW2 t1 t2 h1 d0 fB1 hlen2
  go_wp2
  go_ret
  exact ⟨rfl, _, hB2, hM2⟩
end Go.Proofs.Ytemmnojcickcpaa
