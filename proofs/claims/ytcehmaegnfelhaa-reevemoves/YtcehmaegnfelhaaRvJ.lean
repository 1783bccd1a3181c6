/- reeve: have, Check, walked where all is well. -/
import Derived.Test.YtcehmaegnfelhaaRvI
namespace Go.Proofs.Ytcehmaegnfelhaa
open Go.RowKit
attribute [local go_sem ↓] Go.wp_at_zero Go.wp_at_succ

theorem Equal_any (ns : List Int) (u v : Value) (w : World) (hu : Il w u ns) (hv : Il w v ns) (hl : ns.length ≤ 1000) :
    Calls Try.prog 35 #[u, v] w fun e W' => e = .returned (.bool true) ∧ Below w.heap.size w W' := by
  obtain ⟨a, c, rfl⟩ := hu.slice
  obtain ⟨a2, c2, rfl⟩ := hv.slice
  go_enter Try.func35, Try.ntmps35
  go_wp2_with fail
  go_loopg [13] ns.length (fun gk i wr => ∃ k : Nat, k + gk = ns.length ∧ i = .int .i64 k ∧ Below w.heap.size w wr)
  case atStart => exact ⟨0, by omega, rfl, Below.refl _ _⟩
  case round =>
    obtain ⟨k, hk, rfl, hb⟩ := hrel
    by_cases hlt : k < ns.length
    · obtain ⟨n, hn⟩ : ∃ n, ns[k]? = some n := ⟨_, List.getElem?_eq_getElem hlt⟩
      obtain ⟨b1, o1, rfl, hb1, x1⟩ := (hu.below hb (Nat.le_refl _)).at hn
      obtain ⟨b2, o2, rfl, hb2, x2⟩ := (hv.below hb (Nat.le_refl _)).at hn
      have k0 : (0 : Int) ≤ (k : Int) := by omega
      have k1 : (k : Int) < (ns.length : Int) := by omega
      clear hn
      go_wp2_with fail
      go_region_held3 (fun w' => w'.cell? ⟨b1, o1 + k, none⟩ = some (.int .i64 n) ∧ w'.cell? ⟨b2, o2 + k, none⟩ = some (.int .i64 n)) (go_keep) (fail)
      go_wp2
      go_roundg (ns.length - (k + 1))
      case measure => omega
      case rel => exact ⟨k + 1, by omega, by go_num, below_drew hb⟩
    · have hkl : k = ns.length := by omega
      subst hkl
      go_wp2
      go_ret
      exact ⟨rfl, hb⟩
set_option maxRecDepth 20000 in
set_option maxHeartbeats 1000000 in
theorem have_any (n B base : Nat) (v : Value) (lc : List Rc) (w : World) (h : ChAt base w B v lc) (hl : lc.length ≤ 40) (hn : n ≤ lc.length) (gv : Value) (hg : Il w gv (zi (cfgAt lc n).1)) (a b c d : Nat) (ho : (cfgAt lc n).2 = [a, b, c, d]) :
    Calls Try.prog 28 #[.func (.func 34) #[.pointer (some ⟨B, 0, none⟩)] #[], .agg (cf n gv a b c d)] w fun e W' => e = .returned (.bool true) ∧ Below w.heap.size w W' := by
  have hgl : (zi (cfgAt lc n).1).length ≤ 1000 := by rw [zi_len]; have := (conf_of (cfg_mem h hn).1).1; omega
  obtain ⟨gz, hgz⟩ : ∃ m, zi (cfgAt lc n).1 = m := ⟨_, rfl⟩
  rw [hgz] at hg hgl
  obtain ⟨pa, pc, rfl⟩ := hg.slice
  obtain ⟨N, hN⟩ : ∃ N, w.heap.size = N := ⟨_, rfl⟩
  have r0 := heap_alloc_new w (.cells (cf n (.slice pa gz.length pc) a b c d) 50)
  have hb0 := (Below.refl w.heap.size w).alloc (Nat.le_refl _) (.cells (cf n (.slice pa gz.length pc) a b c d) 50)
  obtain ⟨W0, hW0⟩ : ∃ W, w.alloc (.cells (cf n (.slice pa gz.length pc) a b c d) 50) = W := ⟨_, rfl⟩
  have hz0 : W0.heap.size = N + 1 := by rw [← hW0, World.size_alloc, hN]
  rw [hW0] at r0 hb0
  have hG := Get_ok n B base v lc W0 (h.next hb0) (by omega) hn
  have hg0 := hg.next hb0
  rw [hN] at r0 hb0 ⊢
  have HG0 : Hid (Il W0 (.slice pa gz.length pc) gz) := hg0
  have HR0 : Hid (W0.heap[N]? = some (.cells (cf n (.slice pa gz.length pc) a b c d) 50)) := r0
  have HB0 : Hid (Below N w W0 ∧ W0.heap.size = N + 1) := ⟨hb0, hz0⟩
  have HW : Hid (w.alloc (.cells (cf n (.slice pa gz.length pc) a b c d) 50) = W0) := hW0
  have HN : Hid (w.heap.size = N) := hN
  have HH : Hid (zi (cfgAt lc n).1 = gz ∧ (cfgAt lc n).2 = [a, b, c, d] ∧ gz.length ≤ 1000) := ⟨hgz, ho, hgl⟩
  have c0 := cellB r0 0 _ rfl
  clear r0 hb0 hW0 hg hg0 hz0 h hN hgz ho hgl
  go_enter Try.func28, Try.ntmps28
  go_upto_region 1 with fail
  rw [HW.out, HN.out]
  clear HW
  go_upto_region 2 with (first
    | (go_at_call 34; refine hG.mono ?_; clear hG; rintro e w1 ⟨x, rfl, v', a', b', c', d', e1, rfl, e3, e4, e5⟩; obtain ⟨hgz, ho, hgl⟩ := HH.out; rw [ho] at e1; injection e1 with f1 e1; injection e1 with f2 e1; injection e1 with f3 e1; injection e1 with f4 e1; subst f1 f2 f3 f4; rw [hgz] at e3; obtain ⟨ua, uc, rfl⟩ := e3.slice; have HE : Hid (Il w1 (.slice ua gz.length uc) gz ∧ Below W0.heap.size W0 w1) := ⟨e3, e5⟩; clear e3 e4 e5 hgz ho c0)
    | fail)
  have hb1 := HE.out.2
  have hb2 := (Below.refl w1.heap.size w1).alloc (Nat.le_refl _) (.cells (cf n (.slice ua gz.length uc) a b c d) 50)
  have hN1 : N < w1.heap.size := by have := hb1.size; have := HB0.out.2; omega
  have r1 := (hb1.block N (by have := HB0.out.2; omega)).trans HR0.out
  have r2 := (hb2.block N hN1).trans r1
  have s2 := heap_alloc_new w1 (.cells (cf n (.slice ua gz.length uc) a b c d) 50)
  obtain ⟨D, hD⟩ : ∃ D, w1.heap.size = D := ⟨_, rfl⟩
  obtain ⟨W2, hW2⟩ : ∃ W, w1.alloc (.cells (cf n (.slice ua gz.length uc) a b c d) 50) = W := ⟨_, rfl⟩
  have hz2 : W2.heap.size = D + 1 := by rw [← hW2, World.size_alloc, hD]
  have hE := Equal_any gz (.slice ua gz.length uc) (.slice pa gz.length pc) (w1.alloc (.cells (cf n (.slice ua gz.length uc) a b c d) 50)) (HE.out.1.next hb2) ((HG0.out.next hb1).next hb2) hgl
  rw [hW2] at r2 s2 hb2 hE
  rw [hD] at s2 hb2 hN1
  have HW2 : Hid (w1.alloc (.cells (cf n (.slice ua gz.length uc) a b c d) 50) = W2) := hW2
  have HD : Hid (w1.heap.size = D) := hD
  have HB2 : Hid (Below N w W2) := (HB0.out.1.trans (hb1.mono (by have := HB0.out.2; omega))).trans (hb2.mono (by omega))
  have HR2 : Hid (W2.heap[N]? = some (.cells (cf n (.slice pa gz.length pc) a b c d) 50) ∧ W2.heap[D]? = some (.cells (cf n (.slice ua gz.length uc) a b c d) 50) ∧ W2.heap.size = D + 1 ∧ N < D) := ⟨r2, s2, hz2, hN1⟩
  have x1 := cellB r2 1 _ rfl
  have y1 := cellB s2 1 _ rfl
  clear hb1 hb2 r1 r2 s2 hD hW2 hz2 hN1
  have z1 : ∀ W, (Op.equalIn 10000 48 (.agg #[.int .i64 a, .int .i64 b, .int .i64 c, .int .i64 d]) (.agg #[.int .i64 a, .int .i64 b, .int .i64 c, .int .i64 d])).run Try.prog W = .ok true W := fun W => by rw [eq23, decide_eq_true rfl]
  try rw [HW2.out]
  try rw [HD.out]
  go_wp2_with (first
    | (go_at_call 35; refine hE.mono ?_; clear hE; rintro e w3 ⟨rfl, hB3⟩; obtain ⟨R1, R2, R3, R4⟩ := HR2.out; have k1 := (hB3.block N (by omega)).trans R1; have k2 := (hB3.block D (by omega)).trans R2; have p2 := cellB k1 2 _ rfl; have p3 := cellB k1 3 _ rfl; have p4 := cellB k1 4 _ rfl; have p5 := cellB k1 5 _ rfl; have q2 := cellB k2 2 _ rfl; have q3 := cellB k2 3 _ rfl; have q4 := cellB k2 4 _ rfl; have q5 := cellB k2 5 _ rfl; have HB4 : Hid (Below N w w3) := HB2.out.trans (hB3.mono (by omega)); clear x1 y1 k1 k2 hB3 R1 R2 R3 R4)
    | fail)
  go_ret
  exact ⟨rfl, HB4.out⟩
end Go.Proofs.Ytcehmaegnfelhaa
