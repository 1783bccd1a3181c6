/- The pool's Add, where the request is added, walked. -/
import Derived.Test.YtngoodidajbhcaaDoorBtG
namespace Go.Proofs.YtngoodidajbhcaaDoor.Bat
open Go.RowKit
attribute [local go_sem ↓] Go.wp_at_zero Go.wp_at_succ

theorem cells_new (w : World) (cs : Array Value) (t : TypeId) : ∀ j u, cs.toList[j]? = some u → (w.alloc (.cells cs t)).drew.cell? ((⟨w.heap.size, 0, none⟩ : Addr).add j) = some u :=
  World.news_of_block (w := (w.alloc (.cells cs t)).drew) (heap_alloc_new w (.cells cs t))
/-- Only where a request of its caller, or room, is there. -/
def AddOk (c n : Int) (l : List Rq) : Prop := (∃ i a, l.findIdx? (ofP c) = some i ∧ l[i]? = some a ∧ a.2.1 < n) ∨ (l.findIdx? (ofP c) = none ∧ l.length < 24)
set_option maxRecDepth 20000 in
set_option maxHeartbeats 4000000 in
theorem Add_ok {base : Nat} {w : World} {B : Nat} {v : Value} {l : List Rq} {D : Nat → Int} (h : PoolAt base w B v l D) (hlen : l.length ≤ 1000) (c : Nat) (n : Int) (t : List UInt8) (hok : okB c n = true) (ht : t.length ≤ 4000) (hD : D c < n) (hcs : AddOk c n l) :
    Calls Tryd.prog 11 #[.pointer (some ⟨B, 0, none⟩), .agg #[.int .i64 c, .int .i64 n, .string (bs t)]] w fun e W' => e = .returned (.tuple #[.bool true, .int .i64 0]) ∧ ∃ v', PoolAt base W' B v' (rmL (ofP c) l ++ [((c : Int), n, t)]) D ∧ Moved B v v' w W' := by
  have hF := fault_ok hok
  obtain ⟨hc0, hc1, hn0, hn1⟩ := okB_t hok
  have hc : c < 64 := by omega
  have hI := add_find h hlen c n t
  have HR : Hid (∀ W, PoolAt base W B v l D → Calls Tryd.prog 23 #[.pointer (some ⟨B, 0, none⟩), .int .i64 (idxI (ofP c) l)] W fun e W' => e = .returned (.bool (hitB (ofP c) l)) ∧ ∃ v', PoolAt base W' B v' (rmL (ofP c) l) D ∧ Moved B v v' W W') := fun W hW => remove_idx hW hlen (ofP c)
  have hL3 := rmL_len (ofP c) l
  obtain ⟨l3, hl3⟩ : ∃ l3, rmL (ofP c) l = l3 := ⟨_, rfl⟩
  rw [hl3] at HR hL3 ⊢
  obtain ⟨I, hIe⟩ : ∃ I, idxI (ofP c) l = I := ⟨_, rfl⟩
  rw [hIe] at hI HR
  have hsz : (bs t).size = t.length := bs_size t
  have ht2 : (t.length : Int) ≤ 4000 := by omega
  obtain ⟨d, hd⟩ : ∃ d, D c = d := ⟨_, rfl⟩
  rw [hd] at hD
  have HD : Hid (D c = d) := hd
  have hdd : decide (n ≤ d) = false := by simp; omega
  have hBR : B ≠ w.heap.size := Nat.ne_of_lt h.lt
  have hVR : v.ownBlock ≠ some w.heap.size := fun e => by have := (h.own.lt _ e).2; omega
  have HV : Hid (B ≠ w.heap.size ∧ v.ownBlock ≠ some w.heap.size) := ⟨hBR, hVR⟩
  clear hok hd hl3 hBR hVR
  -- what follows the first look, in whatever world
  have after : ∀ (W2 : World), Below w.heap.size w W2 → PoolAt base W2 B v l D → W2.heap[w.heap.size]? = some (.cells #[.int .i64 c, .int .i64 n, .string (bs t)] 26) → Calls Tryd.prog 23 #[.pointer (some ⟨B, 0, none⟩), .int .i64 I] W2 fun e W' => e = .returned (.bool (hitB (ofP c) l)) ∧ ∃ v', PoolAt base W' B v' l3 D ∧ Moved B v v' w W' ∧ W'.heap[w.heap.size]? = some (.cells #[.int .i64 c, .int .i64 n, .string (bs t)] 26) := by
    intro W2 hb2 h2 r2
    refine (HR.out W2 h2).mono ?_
    rintro e W' ⟨rfl, v', h', hm⟩
    exact ⟨rfl, v', h', (Moved.of_below hb2 B v).trans hm, hm.far (Array.getElem?_eq_some_iff.1 r2).1 (fun e => HV.out.1 e.symm) HV.out.2 r2⟩
  clear HR HV
  rcases hcs with ⟨i, a, hi, ha, hna⟩ | ⟨hi, hl24⟩
  · have hIi : I = i := by rw [← hIe, idxI, hi]
    subst hIi
    have hnd : decide (n ≤ a.2.1) = false := by simp; omega
    have hil := idx_lt hi
    have i0 : (0 : Int) ≤ (i : Int) := by omega
    have i1 : (i : Int) < (l.length : Int) := by omega
    have HA : Hid (l[i]? = some a) := ha
    obtain ⟨H, hH⟩ : ∃ H, hitB (ofP c) l = H := ⟨_, rfl⟩
    rw [hH] at after
    clear h hi ha hIe hH
    go_enter Tryd.func11, Tryd.ntmps11
    go_upto_region 9 with (first
      | (go_at_call 20; refine (hF _).mono ?_; rintro e w1 ⟨rfl, h9⟩; subst h9)
      | (go_at_call 22; refine (of_any _ _).mono ?_; rintro e w1 ⟨rfl, rfl⟩)
      | (go_at_call 21; refine hI.mono ?_; rintro e w2 ⟨rfl, hb2, h2, r2⟩; have x0 := cellB r2 0 (.int .i64 c) rfl; have x1 := cellB r2 1 (.int .i64 n) rfl; have cd := (h2.cd hc).1; rw [Nat.add_comm, HD.out] at cd; obtain ⟨gb, cap, hv, hg1, hg2, y0, y1, y2⟩ := row_at h2.own HA.out; have c0 := h2.c0.1; rw [hv] at c0))
    go_quiet (fail)
    have hq := after (w2.drewN nq) (below_drewN hb2 _) (h2.next (below_drewN (Below.refl _ _) _)) r2
    clear after hI h2 hb2 r2 x0 x1 cd hv hg1 hg2 y0 y1 y2 c0
    go_upto_region 14 with (first
      | (go_at_call 23; refine hq.mono ?_; rintro e w3 ⟨rfl, v3, h3, hm3, r3⟩))
    obtain ⟨va, vc, rfl⟩ := h3.slice
    have x0 := cellB r3 0 (.int .i64 c) rfl
    have x1 := cellB r3 1 (.int .i64 n) rfl
    have x2 := cellB r3 2 (.string (bs t)) rfl
    obtain ⟨i9, hi9, hz0, hz1, hz2⟩ := info_parts Tryd.info26
    have hml : l3.length + 1 ≤ maxLen := by unfold maxLen; omega
    have hkb : (l3.length + 1) * 32 ≤ 140737488355328 := by omega
    have hba : Below w3.heap.size w3 (w3.alloc (.cells #[.int .i64 c, .int .i64 n, .string (bs t)] 26)) := (Below.refl _ _).alloc (Nat.le_refl _) _
    have h4 := h3.next (below_drew hba)
    have h4o := h4.own
    have x6 : (w3.alloc (.cells #[.int .i64 c, .int .i64 n, .string (bs t)] 26)).cell? ⟨B, 0, none⟩ = some (.slice va l3.length vc) := h4.c0.1
    have x7 := h3.c0.1
    have HX : Hid (rcs (l3 ++ [((c : Int), n, t)]) = rcs l3 ++ [.int .i64 c, .int .i64 n, .string (bs t)]) := rcs_append l3 [((c : Int), n, t)]
    obtain ⟨X, hX⟩ : ∃ X, rcs l3 = X := ⟨_, rfl⟩
    rw [hX] at HX h4o
    have hbs : base ≤ (w3.alloc (.cells #[.int .i64 c, .int .i64 n, .string (bs t)] 26)).drew.heap.size := h4.le
    have hcn : ∀ j u, [Value.int .i64 c, .int .i64 n, .string (bs t)][j]? = some u → (w3.alloc (.cells #[.int .i64 c, .int .i64 n, .string (bs t)] 26)).drew.cell? ((⟨w3.heap.size, 0, none⟩ : Addr).add j) = some u := cells_new w3 #[.int .i64 c, .int .i64 n, .string (bs t)] 26
    have hne : some B ≠ (Value.slice va l3.length vc).ownBlock := fun e => h3.ne e.symm
    have hlt := h4.lt
    obtain ⟨cs, q1, q2, q3⟩ := h4.blk
    have hbase := h3.base
    have hm1 := hm3.trans (Moved.of_below (below_drew hba) B (.slice va l3.length vc))
    have HQ : Hid (∀ c, c < 64 → cs[c + 1]? = some (.int .i64 (D c))) := q3
    clear hX h3 h4 r3 hba q3 hm3
    go_region_law (first | (refine step_append_lies _ (by rfl) _ _ 22 (by rfl) base 26 i9 (.agg #[.int .i64 0, .int .i64 0, .string ⟨#[]⟩]) 3 32 Tryd.underlying22 hi9 hz0 hz1 hz2 rfl (by decide) _ l3.length X (by rfl) h4o ⟨w3.heap.size, 0, none⟩ 1 1 [.int .i64 c, .int .i64 n, .string (bs t)] (by rfl) rfl hcn (by simp [Value.oneCell']) (by decide) hml hkb hbs _ rfl ?_; intro ga ca w6 hown7 hgrow hat hlt6; have rc6 := (hgrow.block B hlt hne).trans q1; have f0 := frozenB rc6 0; have s0 := cellB rc6 0 _ q2))
    all_goals
      go_wp2
      refine bodyPost_ret (v := .tuple #[.bool true, .int .i64 0]) (by simp [results, Tryd.f11, go_sem]) rfl ⟨rfl, ?_⟩
      have hgB : ga ≠ B := by
        rcases hat with e | e
        · exact fun e2 => hne (by rw [e, e2])
        · rw [e]; exact fun e2 => by rw [← e2] at hlt; exact Nat.lt_irrefl _ hlt
      refine ⟨.slice (some ⟨ga, 0, none⟩) (l3.length + 1) ca, ⟨blk_set0 ⟨cs, rc6, q2, HQ.out⟩ _, ?_, fun e => hgB (Option.some.inj e), hbase⟩, ?_⟩
      · rw [HX.out, List.length_append]
        exact owns_kept hown7 (fun k hk => set_far (by rw [← Option.some.inj hk]; exact hgB) _ _)
      · have hsz1 := hm1.size
        refine ⟨hgrow.os.trans hm1.os, hgrow.tape.trans hm1.tape, hgrow.output.trans hm1.output, by simp only [World.setCell, Array.size_modify]; exact Nat.le_trans hsz1 hgrow.size, fun k hk h1 h2 => ?_, fun k hk => ?_⟩
        · refine (set_far h1 _ _).trans ((hgrow.block k (Nat.lt_of_lt_of_le hk hsz1) (fun e => ?_)).trans (hm1.block k hk h1 h2))
          rcases hm1.own k e.symm with e2 | e2
          · exact h2 e2
          · omega
        · have hk2 : ga = k := Option.some.inj hk
          rcases hat with e | e
          · exact hm1.own k (by rw [e, hk2])
          · right
            rw [← hk2, e]; exact hsz1
  · have hIi : I = -1 := by rw [← hIe, idxI, hi]
    subst hIi
    have hl2 : (l.length : Int) < 24 := by omega
    obtain ⟨H, hH⟩ : ∃ H, hitB (ofP c) l = H := ⟨_, rfl⟩
    rw [hH] at after
    obtain ⟨wa, wc, rfl⟩ := h.slice
    clear h hi hIe hH
    go_enter Tryd.func11, Tryd.ntmps11
    go_upto_region 9 with (first
      | (go_at_call 20; refine (hF _).mono ?_; rintro e w1 ⟨rfl, h9⟩; subst h9)
      | (go_at_call 22; refine (of_any _ _).mono ?_; rintro e w1 ⟨rfl, rfl⟩)
      | (go_at_call 21; refine hI.mono ?_; rintro e w2 ⟨rfl, hb2, h2, r2⟩; have x0 := cellB r2 0 (.int .i64 c) rfl; have x1 := cellB r2 1 (.int .i64 n) rfl; have cd := (h2.cd hc).1; rw [Nat.add_comm, HD.out] at cd; have c0 := h2.c0.1))
    go_quiet (fail)
    have hq := after (w2.drewN nq) (below_drewN hb2 _) (h2.next (below_drewN (Below.refl _ _) _)) r2
    clear after hI h2 hb2 r2 x0 x1 cd
    go_upto_region 14 with (first
      | (go_at_call 23; refine hq.mono ?_; rintro e w3 ⟨rfl, v3, h3, hm3, r3⟩))
    obtain ⟨va, vc, rfl⟩ := h3.slice
    have x0 := cellB r3 0 (.int .i64 c) rfl
    have x1 := cellB r3 1 (.int .i64 n) rfl
    have x2 := cellB r3 2 (.string (bs t)) rfl
    obtain ⟨i9, hi9, hz0, hz1, hz2⟩ := info_parts Tryd.info26
    have hml : l3.length + 1 ≤ maxLen := by unfold maxLen; omega
    have hkb : (l3.length + 1) * 32 ≤ 140737488355328 := by omega
    have hba : Below w3.heap.size w3 (w3.alloc (.cells #[.int .i64 c, .int .i64 n, .string (bs t)] 26)) := (Below.refl _ _).alloc (Nat.le_refl _) _
    have h4 := h3.next (below_drew hba)
    have h4o := h4.own
    have x6 : (w3.alloc (.cells #[.int .i64 c, .int .i64 n, .string (bs t)] 26)).cell? ⟨B, 0, none⟩ = some (.slice va l3.length vc) := h4.c0.1
    have x7 := h3.c0.1
    have HX : Hid (rcs (l3 ++ [((c : Int), n, t)]) = rcs l3 ++ [.int .i64 c, .int .i64 n, .string (bs t)]) := rcs_append l3 [((c : Int), n, t)]
    obtain ⟨X, hX⟩ : ∃ X, rcs l3 = X := ⟨_, rfl⟩
    rw [hX] at HX h4o
    have hbs : base ≤ (w3.alloc (.cells #[.int .i64 c, .int .i64 n, .string (bs t)] 26)).drew.heap.size := h4.le
    have hcn : ∀ j u, [Value.int .i64 c, .int .i64 n, .string (bs t)][j]? = some u → (w3.alloc (.cells #[.int .i64 c, .int .i64 n, .string (bs t)] 26)).drew.cell? ((⟨w3.heap.size, 0, none⟩ : Addr).add j) = some u := cells_new w3 #[.int .i64 c, .int .i64 n, .string (bs t)] 26
    have hne : some B ≠ (Value.slice va l3.length vc).ownBlock := fun e => h3.ne e.symm
    have hlt := h4.lt
    obtain ⟨cs, q1, q2, q3⟩ := h4.blk
    have hbase := h3.base
    have hm1 := hm3.trans (Moved.of_below (below_drew hba) B (.slice va l3.length vc))
    have HQ : Hid (∀ c, c < 64 → cs[c + 1]? = some (.int .i64 (D c))) := q3
    clear hX h3 h4 r3 hba q3 hm3
    go_region_law (first | (refine step_append_lies _ (by rfl) _ _ 22 (by rfl) base 26 i9 (.agg #[.int .i64 0, .int .i64 0, .string ⟨#[]⟩]) 3 32 Tryd.underlying22 hi9 hz0 hz1 hz2 rfl (by decide) _ l3.length X (by rfl) h4o ⟨w3.heap.size, 0, none⟩ 1 1 [.int .i64 c, .int .i64 n, .string (bs t)] (by rfl) rfl hcn (by simp [Value.oneCell']) (by decide) hml hkb hbs _ rfl ?_; intro ga ca w6 hown7 hgrow hat hlt6; have rc6 := (hgrow.block B hlt hne).trans q1; have f0 := frozenB rc6 0; have s0 := cellB rc6 0 _ q2))
    all_goals
      go_wp2
      refine bodyPost_ret (v := .tuple #[.bool true, .int .i64 0]) (by simp [results, Tryd.f11, go_sem]) rfl ⟨rfl, ?_⟩
      have hgB : ga ≠ B := by
        rcases hat with e | e
        · exact fun e2 => hne (by rw [e, e2])
        · rw [e]; exact fun e2 => by rw [← e2] at hlt; exact Nat.lt_irrefl _ hlt
      refine ⟨.slice (some ⟨ga, 0, none⟩) (l3.length + 1) ca, ⟨blk_set0 ⟨cs, rc6, q2, HQ.out⟩ _, ?_, fun e => hgB (Option.some.inj e), hbase⟩, ?_⟩
      · rw [HX.out, List.length_append]
        exact owns_kept hown7 (fun k hk => set_far (by rw [← Option.some.inj hk]; exact hgB) _ _)
      · have hsz1 := hm1.size
        refine ⟨hgrow.os.trans hm1.os, hgrow.tape.trans hm1.tape, hgrow.output.trans hm1.output, by simp only [World.setCell, Array.size_modify]; exact Nat.le_trans hsz1 hgrow.size, fun k hk h1 h2 => ?_, fun k hk => ?_⟩
        · refine (set_far h1 _ _).trans ((hgrow.block k (Nat.lt_of_lt_of_le hk hsz1) (fun e => ?_)).trans (hm1.block k hk h1 h2))
          rcases hm1.own k e.symm with e2 | e2
          · exact h2 e2
          · omega
        · have hk2 : ga = k := Option.some.inj hk
          rcases hat with e | e
          · exact hm1.own k (by rw [e, hk2])
          · right
            rw [← hk2, e]; exact hsz1
end Go.Proofs.YtngoodidajbhcaaDoor.Bat
