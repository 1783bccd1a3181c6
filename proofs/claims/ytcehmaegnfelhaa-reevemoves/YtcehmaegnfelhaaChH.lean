/- Chains: slices.Clone, clone, walked. -/
import Derived.Test.YtcehmaegnfelhaaChG
import Derived.Laws.AppendOwnNone
namespace Go.Proofs.Ytcehmaegnfelhaa
open Go.RowKit
attribute [local go_sem ↓] Go.wp_at_zero Go.wp_at_succ

theorem Try.info3 : (Try.prog.info? 3).map (fun i => (i.zero, i.size, i.bytes)) = some (some (.int .i64 0), 1, 8) := by kernel_rfl
theorem zcs_one (l : List Int) : ∀ u ∈ zcs l, u.oneCell' = true := by
  intro v hv; simp [zcs] at hv; obtain ⟨n, _, rfl⟩ := hv; rfl
theorem zcs_back (l : List Int) (j : Nat) (u : Value) (h : (zcs l)[j]? = some u) : ∃ t, l[j]? = some t ∧ u = .int .i64 t := by
  unfold zcs at h
  rw [List.getElem?_map] at h
  cases h9 : l[j]? with
  | none => rw [h9] at h; cases h
  | some t => rw [h9] at h; exact ⟨t, rfl, (Option.some.inj h).symm⟩
theorem owns_empty (w : World) (base : Nat) (hb : base ≤ w.heap.size) : (w.alloc (.cells #[] 3)).ownsRow base 3 1 (.slice (some ⟨w.heap.size, 0, none⟩) 0 0) 0 [] :=
  ⟨rfl, .inr ⟨w.heap.size, 0, #[], rfl, hb, heap_alloc_new _ _, Nat.le_refl _, by unfold maxLen; omega, rfl, rfl⟩⟩
theorem nil_eq (n c : Nat) (w : World) : Sem.run Try.prog (binOp BinOp.eql 25 (Value.slice none n c) (Value.slice none 0 0)) w = .ok (.bool true) w := by kernel_rfl
theorem nil_ne (a : Addr) (n c : Nat) (w : World) : Sem.run Try.prog (binOp BinOp.eql 25 (Value.slice (some a) n c) (Value.slice none 0 0)) w = .ok (.bool false) w := by kernel_rfl
set_option maxRecDepth 20000 in
set_option maxHeartbeats 2000000 in
theorem Clone_any (ns : List Int) (u : Value) (w : World) (hu : Il w u ns) (hl : ns.length ≤ 1000) :
    Calls Try.prog 48 #[u] w fun e W' => ∃ v, e = .returned v ∧ W'.ownsRow w.heap.size 3 1 v ns.length (zcs ns) ∧ Below w.heap.size w W' := by
  obtain ⟨i0, hi, hz0, hz1, hz2⟩ := info_parts Try.info3
  have hml : 0 + ns.length ≤ maxLen := by unfold maxLen; omega
  have hkb : (0 + ns.length) * 8 ≤ 140737488355328 := by omega
  rcases hu with ⟨rfl, a, c, rfl⟩ | ⟨b, o, cap, rfl, hlt, hcell⟩
  · cases a with
    | none =>
      have e1 := nil_eq 0 c w
      go_enter Try.func48, Try.ntmps48
      go_wp2
      go_ret
      exact ⟨_, rfl, World.ownsRow_nil _ _ _ _, Below.refl _ _⟩
    | some ad =>
      have e1 := nil_ne ad 0 c w
      go_enter Try.func48, Try.ntmps48
      go_wp2_with (first
        | (at_builtin; refine wpList_append_own _ rfl _ _ 25 rfl w.heap.size 3 i0 (.int .i64 0) 1 8 Try.underlying25 hi hz0 hz1 hz2 rfl (by decide) _ 0 [] rfl (owns_empty w _ (Nat.le_refl _)) ad 0 c [] rfl rfl (by simp) (by simp) (by unfold maxLen; omega) (by omega) (by simp) ?_; intro v' w' h1 h2 _))
      go_ret
      exact ⟨_, rfl, h1, ((Below.refl w.heap.size w).alloc (Nat.le_refl _) _).grown h2 (by simp) (fun q hq => by cases hq; simp)⟩
  · have hN : ∀ j u, (zcs ns)[j]? = some u → (w.alloc (.cells #[] 3)).cell? ((⟨b, o, none⟩ : Addr).add j) = some u := by
      intro j u h
      obtain ⟨t, ht, rfl⟩ := zcs_back ns j u h
      rw [Addr.add_mid]
      exact (((Below.refl w.heap.size w).alloc (Nat.le_refl _) _).cell (p := ⟨b, o + j, none⟩) hlt).trans (hcell j t ht)
    have HN : Hid (∀ j u, (zcs ns)[j]? = some u → (w.alloc (.cells #[] 3)).cell? ((⟨b, o, none⟩ : Addr).add j) = some u) := hN
    have e1 := nil_ne ⟨b, o, none⟩ ns.length cap w
    clear hN hcell
    go_enter Try.func48, Try.ntmps48
    go_wp2_with (first
      | (at_builtin; refine wpList_append_own _ rfl _ _ 25 rfl w.heap.size 3 i0 (.int .i64 0) 1 8 Try.underlying25 hi hz0 hz1 hz2 rfl (by decide) _ 0 [] rfl (owns_empty w _ (Nat.le_refl _)) ⟨b, o, none⟩ ns.length cap (zcs ns) rfl (by rw [zcs_len, Nat.mul_one]) HN.out (zcs_one ns) hml hkb (by simp) ?_; intro v' w' h1 h2 _))
    go_ret
    refine ⟨_, rfl, ?_, ((Below.refl w.heap.size w).alloc (Nat.le_refl _) _).grown h2 (by simp) (fun q hq => by cases hq; simp)⟩
    rw [Nat.zero_add, List.nil_append] at h1
    exact h1
/-- A configuration's cells, as a list. -/
abbrev cfL (num : Int) (gv : Value) (a b c d : Int) : List Value := [.int .i64 num, gv, .int .i64 a, .int .i64 b, .int .i64 c, .int .i64 d]
abbrev z25 : List Value := cfL 0 (.slice none 0 0) 0 0 0 0
theorem cf_ones (num : Int) (p : Option Addr) (n k : Nat) (a b c d : Int) : (cf num (.slice p n k) a b c d).all (·.oneCell') = true := by simp [Value.oneCell']
set_option maxRecDepth 20000 in
set_option maxHeartbeats 4000000 in
theorem clone_any (num : Int) (gv : Value) (ns : List Int) (a b c d : Int) (w : World) (hu : Il w gv ns) (hl : ns.length ≤ 1000) :
    Calls Try.prog 41 #[.agg (cf num gv a b c d)] w fun e W' => ∃ v, e = .returned (.agg (cf num v a b c d)) ∧ W'.ownsRow w.heap.size 3 1 v ns.length (zcs ns) ∧ Below w.heap.size w W' := by
  obtain ⟨W0, hW0⟩ : ∃ W, (w.alloc (.cells (cf num gv a b c d) 50)).alloc (.cells (cf 0 (.slice none 0 0) 0 0 0 0) 50) = W := ⟨_, rfl⟩
  have hb0 : Below w.heap.size w W0 := by
    rw [← hW0]
    exact ((Below.refl _ w).alloc (Nat.le_refl _) _).alloc (by simp) _
  have hsz : w.heap.size + 2 = W0.heap.size := by rw [← hW0]; simp
  have r0 : W0.heap[w.heap.size]? = some (.cells (cf num gv a b c d) 50) := by
    rw [← hW0]
    exact (Below.heap_alloc _ _ _ (by simp)).trans (heap_alloc_new _ _)
  have r1 : W0.heap[w.heap.size + 1]? = some (.cells (cf 0 (.slice none 0 0) 0 0 0 0) 50) := by
    rw [← hW0]
    have := heap_alloc_new (w.alloc (.cells (cf num gv a b c d) 50)) (.cells (cf 0 (.slice none 0 0) 0 0 0 0) 50)
    rwa [show (w.alloc (.cells (cf num gv a b c d) 50)).heap.size = w.heap.size + 1 by simp] at this
  have HV : Hid ((w.alloc (.cells (cf num gv a b c d) 50)).alloc (.cells (cf 0 (.slice none 0 0) 0 0 0 0) 50) = W0) := hW0
  have hC := Clone_any ns gv W0 (hu.next hb0) hl
  have HB0 : Hid (Below w.heap.size w W0 ∧ w.heap.size + 2 = W0.heap.size ∧ W0.heap[w.heap.size]? = some (.cells (cf num gv a b c d) 50) ∧ W0.heap[w.heap.size + 1]? = some (.cells (cf 0 (.slice none 0 0) 0 0 0 0) 50)) := ⟨hb0, hsz, r0, r1⟩
  have c1 := cellB r0 1 _ rfl
  obtain ⟨pa, pc, rfl⟩ := hu.slice
  clear hW0 hb0 r0 r1 hsz hu
  go_enter Try.func41, Try.ntmps41
  go_upto_region 1 with fail
  rw [HV.out]
  clear HV
  go_upto_region 2 with (first
    | (go_at_call 48; refine hC.mono ?_; rintro e w1 ⟨v, rfl, ho, hb1⟩; obtain ⟨va, vc, rfl⟩ := owns_slice ho; obtain ⟨hb0, hsz, r0, r1⟩ := HB0.out; have q0 := (hb1.block _ (by omega)).trans r0; have q1 := (hb1.block _ (by omega)).trans r1; have y1 := cellB q0 1 _ rfl; have y2 := frozenB q0 1; have HQ : Hid (_ ∧ _ ∧ _ ∧ _ ∧ _) := ⟨q0, q1, hb0, hsz, ho⟩; clear q0 q1 hb0 hsz r0 r1 ho))
  obtain ⟨q0, q1, hb0, hsz, ho⟩ := HQ.out
  have p0 := setB q0 1 (.slice va ns.length vc)
  have p1 := (set_far (w := w1) (B := w.heap.size) (k := w.heap.size + 1) (by omega) 1 (.slice va ns.length vc)).trans q1
  have hb2 : Below w.heap.size w (w1.setCell ⟨w.heap.size, 1, none⟩ (.slice va ns.length vc)) := (hb0.trans (hb1.mono hb0.size)).setCell (Nat.le_refl _) _
  have ho2 : (w1.setCell ⟨w.heap.size, 1, none⟩ (.slice va ns.length vc)).ownsRow w.heap.size 3 1 (.slice va ns.length vc) ns.length (zcs ns) := owns_base (owns_kept ho (fun k hk => set_far (by have := (ho.lt k hk).1; omega) _ _)) (by omega)
  obtain ⟨W1, hW1⟩ : ∃ W, w1.setCell ⟨w.heap.size, 1, none⟩ (.slice va ns.length vc) = W := ⟨_, rfl⟩
  rw [hW1] at p0 p1 hb2 ho2 ⊢
  have K1 : Hid (W1.rangeAt w.heap.size 0 (cfL num (.slice va ns.length vc) a b c d)) := blk_range (L := cfL num (.slice va ns.length vc) a b c d) p0
  have K2 : Hid (W1.there (w.heap.size + 1) 0 6) := blk_there p1 0 6 (Nat.le_refl _)
  have K3 : Hid (Below w.heap.size w (W1.setCells (w.heap.size + 1) 0 (cfL num (.slice va ns.length vc) a b c d))) := blk_below (by omega) _ _ _ hb2
  have K4 : Hid ((W1.setCells (w.heap.size + 1) 0 (cfL num (.slice va ns.length vc) a b c d)).rangeAt (w.heap.size + 1) 0 (cfL num (.slice va ns.length vc) a b c d)) := blk_range (blk_set p1 (L := cfL num (.slice va ns.length vc) a b c d) rfl)
  have K5 : Hid ((W1.setCells (w.heap.size + 1) 0 (cfL num (.slice va ns.length vc) a b c d)).ownsRow w.heap.size 3 1 (.slice va ns.length vc) ns.length (zcs ns)) := owns_kept ho2 (fun k hk => blk_far (by have := (ho.lt k hk).1; omega) _ _ _)
  clear p0 p1 hb2 ho2 hW1 q0 q1 hb0 hsz ho HQ y1 y2 hC HB0
  go_wp2_with (first
    | (refine wpList_load_mid rfl 50 _ rfl w.heap.size 0 rfl (cfL num (.slice va ns.length vc) a b c d) _ K1.out Try.underlying50 rfl Try.size50 ?_)
    | (refine wpList_store_mid rfl 50 _ _ rfl (w.heap.size + 1) 0 (cf num (.slice va ns.length vc) a b c d) rfl rfl K2.out Try.size50 (cf_ones _ _ _ _ _ _ _ _) ?_))
  exact bodyPost_ret (v := .agg (cf num (.slice va ns.length vc) a b c d)) (results_one rfl rfl (res25 K4.out rfl)) rfl ⟨_, rfl, K5.out, K3.out⟩
end Go.Proofs.Ytcehmaegnfelhaa
