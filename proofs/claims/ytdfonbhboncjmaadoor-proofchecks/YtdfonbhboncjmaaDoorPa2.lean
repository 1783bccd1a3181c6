/- proof.Replay, walked. -/
import Derived.Test.YtdfonbhboncjmaaDoorPa1
import Derived.Laws.StructEq
namespace Go.Proofs.YtdfonbhboncjmaaDoor
section
open Go.RowKit
attribute [local go_sem ↓] Go.wp_at_zero Go.wp_at_succ

theorem owns_keep {w w' : World} {base n : Nat} {e : TypeId} {s : Nat} {v : Value} {xs : List Value} (h : w.ownsRow base e s v n xs) (hk : ∀ k, v.ownBlock = some k → w'.heap[k]? = w.heap[k]?) : w'.ownsRow base e s v n xs := by
  obtain ⟨hl, hr⟩ := h
  rcases hr with hr | ⟨g, cap, cur, rfl, hb, hh, hrest⟩
  · exact ⟨hl, .inl hr⟩
  · exact ⟨hl, .inr ⟨g, cap, cur, rfl, hb, (hk g rfl).trans hh, hrest⟩⟩
def tcs (b : Nat) : Array Value := #[.pointer (some ⟨b, 0, none⟩), .pointer (some ⟨b + 1, 0, none⟩), .pointer (some ⟨b + 2, 0, none⟩), .pointer (some ⟨b + 3, 0, none⟩)]
/-- In the midst of Replay: tables, their box, the answers so far. -/
structure RI (N b X : Nat) (w : World) (S : Ms) (V : Nat → Value) (x : Value) (n : Nat) (A : List An) (W : World) : Prop where
  m4 : M4 N W b S V
  row : W.ownsRow N 48 2 x n (A.flatMap acs)
  ap : ∀ q, x.ownBlock = some q → q ≠ X ∧ (∀ j, j < 4 → q ≠ b + j) ∧ ∀ i, i < 4 → (V i).ownBlock ≠ some q
  box : W.heap[X]? = some (.cells (tcs b) 82)
  xo : (∀ j, j < 4 → X ≠ b + j) ∧ ∀ i, i < 4 → (V i).ownBlock ≠ some X
  below : Below N w W
theorem RI.mid {N b X : Nat} {w : World} {S S' : Ms} {V V' : Nat → Value} {x : Value} {n : Nat} {A : List An} {W W2 W3 : World} (h : RI N b X w S V x n A W) (hN : N ≤ W.heap.size) (hb : Below W.heap.size W W2) (h4 : M4 N W3 b S' V') (hm : Mv4 b W2 W3) (ho : ∀ i, i < 4 → ∀ q, (V' i).ownBlock = some q → (V i).ownBlock = some q ∨ W2.heap.size ≤ q) : RI N b X w S' V' x n A W3 := by
  have hX : X < W.heap.size := (Array.getElem?_eq_some_iff.1 h.box).1
  have hbl : ∀ k, k < W.heap.size → (∀ j, j < 4 → k ≠ b + j) → W3.heap[k]? = W.heap[k]? := fun k hk h1 => (hm.block k (Nat.lt_of_lt_of_le hk hb.size) h1).trans (hb.block k hk)
  have hs := hb.size
  refine ⟨h4, owns_keep h.row fun k hk => hbl k (h.row.lt k hk).2 (h.ap k hk).2.1, fun q hq => ?_, (hbl X hX h.xo.1).trans h.box, ⟨h.xo.1, fun i hi e => ?_⟩, h.below.trans ((hb.mono hN).trans (hm.below h4.up (by omega)))⟩
  · obtain ⟨a1, a2, a3⟩ := h.ap q hq
    refine ⟨a1, a2, fun i hi e => ?_⟩
    rcases ho i hi q e with e2 | e2
    · exact a3 i hi e2
    · have := (h.row.lt q hq).2
      omega
  · rcases ho i hi X e with e2 | e2
    · exact h.xo.2 i hi e2
    · omega
theorem RI.app {N b X : Nat} {w : World} {S : Ms} {V : Nat → Value} {x : Value} {n : Nat} {A : List An} {W W2 w' : World} (h : RI N b X w S V x n A W) (hN : N ≤ W.heap.size) (hb : Below W.heap.size W W2) {a : An} {g cap : Nat} (h1 : w'.ownsRow N 48 2 (.slice (some ⟨g, 0, none⟩) (n + 1) cap) (n + 1) ((A ++ [a]).flatMap acs)) (h2 : W2.grownBy w' x.ownBlock) (h3 : x.ownBlock = some g ∨ g = W2.heap.size) : RI N b X w S V (.slice (some ⟨g, 0, none⟩) (n + 1) cap) (n + 1) (A ++ [a]) w' := by
  have hX : X < W.heap.size := (Array.getElem?_eq_some_iff.1 h.box).1
  have hs := hb.size
  have hbl : ∀ k, k < W.heap.size → x.ownBlock ≠ some k → w'.heap[k]? = W.heap[k]? := fun k hk hne => (h2.block k (by omega) (fun e => hne e.symm)).trans (hb.block k hk)
  refine ⟨h.m4.keep (Nat.le_trans hs h2.size) (fun i hi => hbl _ (h.m4.tab i hi).lt (fun e => (h.ap _ e).2.1 i hi rfl)) (fun i hi q hq => hbl q (h.m4.own i hi q hq).2.1 (fun e => (h.ap q e).2.2 i hi hq)), h1, fun q hq => ?_, (hbl X hX (fun e => (h.ap X e).1 rfl)).trans h.box, h.xo, (h.below.trans (hb.mono hN)).grown h2 (by omega) (fun z hz => (h.row.lt z hz).1)⟩
  have hq' : g = q := by simpa [Value.ownBlock] using hq
  subst hq'
  rcases h3 with h3 | h3
  · exact h.ap _ h3
  · refine ⟨by omega, fun j hj => ?_, fun i hi e => ?_⟩
    · have := (h.m4.tab j hj).lt
      omega
    · have := (h.m4.own i hi _ e).2.1
      omega
set_option maxRecDepth 20000 in
set_option maxHeartbeats 2000000 in
theorem Replay_any (l : List Opr) (v : Value) (w : World) (hv : SlF ocs 4 w v l) (hl : l.length ≤ 1000000) (hk : ∀ o ∈ l, o.k.length ≤ 140737488351232) (he : EnvK w) : Calls Tryd.prog 12 #[v] w fun e W' => ∃ u, e = .returned u ∧ W'.ownsRow w.heap.size 48 2 u l.length ((repl (fun _ => []) l).flatMap acs) ∧ Below w.heap.size w W' := by
  obtain ⟨va, vc, rfl⟩ := hv.slice
  obtain ⟨i0, hi, hz0, hz1, hz2⟩ := info_parts Tryd.info48
  have hT : Calls Tryd.prog 24 #[] w fun e W' => ∃ b, e = .returned (.agg #[.pointer (some ⟨b, 0, none⟩), .pointer (some ⟨b + 1, 0, none⟩), .pointer (some ⟨b + 2, 0, none⟩), .pointer (some ⟨b + 3, 0, none⟩)]) ∧ M4 w.heap.size W' b (fun _ => []) (fun _ => .slice none 0 0) ∧ Below w.heap.size w W' := newTables_any w
  obtain ⟨N, hN⟩ : ∃ N, w.heap.size = N := ⟨_, rfl⟩
  rw [hN] at hT
  have HN : Hid (w.heap.size = N) := hN
  have HV : Hid (SlF ocs 4 w (.slice va l.length vc) l ∧ EnvK w ∧ ∀ o ∈ l, o.k.length ≤ 140737488351232) := ⟨hv, he, hk⟩
  clear hN hv he hk
  go_enter Tryd.func12, Tryd.ntmps12
  go_upto_region 2 with (go_at_call 24; refine hT.mono ?_; clear hT; rintro e W1 ⟨b, rfl, hM, hB⟩)
  obtain ⟨X, hX⟩ : ∃ X, W1.heap.size = X := ⟨_, rfl⟩
  have rX := heap_alloc_new W1 (.cells (tcs b) 82)
  have hbX := (Below.refl _ W1).alloc (Nat.le_refl _) (.cells (tcs b) 82)
  obtain ⟨W2, hW2⟩ : ∃ W, W1.alloc (.cells (tcs b) 82) = W := ⟨_, rfl⟩
  have hW2' : W1.alloc (.cells #[.pointer (some ⟨b, 0, none⟩), .pointer (some ⟨b + 1, 0, none⟩), .pointer (some ⟨b + 2, 0, none⟩), .pointer (some ⟨b + 3, 0, none⟩)] 82) = W2 := hW2
  rw [hX] at rX ⊢
  rw [hW2] at rX hbX
  have hR0 : RI N b X w (fun _ => []) (fun _ => .slice none 0 0) (.slice none 0 0) 0 [] W2 :=
    ⟨hM.on hbX, World.ownsRow_nil _ _ _ _, fun q hq => (by cases hq), rX, ⟨fun j hj => by have := (hM.tab j hj).lt; omega, fun i hi e => (by cases e)⟩, hB.trans (hbX.mono (by have := hB.size; have := HN.out; omega))⟩
  have HR0 : Hid (_) := hR0
  try rw [hW2']
  clear hM hB hbX rX hW2 hW2' hX hR0
  go_wp2_with fail
  go_loopg [4, 10] l.length (fun gk x j wr => ∃ (n : Nat) (V : Nat → Value), n + gk = l.length ∧ j = .int .i64 n ∧ RI N b X w (fin (fun _ => []) (l.take n)) V x n (repl (fun _ => []) (l.take n)) wr ∧ X < wr.heap.size ∧ N ≤ wr.heap.size)
  case atStart => exact ⟨0, _, by omega, rfl, HR0.out, (Array.getElem?_eq_some_iff.1 HR0.out.box).1, by have := HR0.out.below.size; have := HN.out; omega⟩
  case round =>
    obtain ⟨n, V, hnn, rfl, hR, hXl, hNl⟩ := hrel
    obtain ⟨xa, xc, rfl⟩ := owns_slice hR.row
    by_cases hn1 : n = l.length
    · subst hn1
      rw [List.take_length] at hR
      have HO : Hid (_ ∧ _) := ⟨hR.row, hR.below⟩
      clear hR HR0 HV
      go_wp2
      go_ret
      exact ⟨_, rfl, by rw [HN.out]; exact HO.out.1, by rw [HN.out]; exact HO.out.2⟩
    · have hn2 : n < l.length := by omega
      obtain ⟨o, ho⟩ : ∃ o, l[n]? = some o := ⟨_, List.getElem?_eq_getElem hn2⟩
      have hko := HV.out.2.2 o (List.mem_of_getElem? ho)
      obtain ⟨kind, k, vl, od⟩ := o
      obtain ⟨g, e', hg', y0, y1, y2, y3⟩ := (HV.out.1.on (hR.below) (by rw [HN.out]; exact Nat.le_refl _)).at4 ho
      subst hg'
      have hE : EnvK wr := HV.out.2.1.below hR.below (by have := HV.out.2.1.size; have := HN.out; omega)
      obtain ⟨R, hRe⟩ : ∃ R, tell (fin (fun _ => []) (l.take n)) ⟨kind, k, vl, od⟩ = R := ⟨_, rfl⟩
      obtain ⟨A, hA⟩ : ∃ A, repl (fun _ => []) (l.take n) = A := ⟨_, rfl⟩
      obtain ⟨S, hS⟩ : ∃ S, fin (fun _ => []) (l.take n) = S := ⟨_, rfl⟩
      rw [hS] at hRe
      have hnx : fin (fun _ => []) (l.take (n + 1)) = next S ⟨kind, k, vl, od⟩ := by rw [take_snoc ho, fin_snoc, hS]
      have hrx : repl (fun _ => []) (l.take (n + 1)) = A ++ [R] := by rw [take_snoc ho, repl_snoc, hS, hA, hRe]
      rw [hS, hA] at hR
      have HNX : Hid (_ ∧ _) := ⟨hnx, hrx⟩
      have hDo : ∀ W2, Below wr.heap.size wr W2 → Calls Tryd.prog 25 #[.agg #[.pointer (some ⟨b, 0, none⟩), .pointer (some ⟨b + 1, 0, none⟩), .pointer (some ⟨b + 2, 0, none⟩), .pointer (some ⟨b + 3, 0, none⟩)], .agg #[.int .i64 kind, .string (bs k), .string (bs vl), .string (bs od)]] W2 fun e W' => e = .returned (.agg #[.int .i64 R.2, .string (bs R.1)]) ∧ ∃ V', RI N b X w (next S ⟨kind, k, vl, od⟩) V' (.slice xa n xc) n A W' ∧ X < W'.heap.size ∧ N ≤ W'.heap.size := fun W2 hb2 => by
        have hd := do_any (hR.m4.on hb2) ⟨kind, k, vl, od⟩ hko (hE.next hb2)
        rw [hRe] at hd
        refine hd.mono fun e W' hh => ?_
        obtain ⟨h1, V', h2, h3, h4⟩ := hh
        have := hb2.size
        have := h3.size
        exact ⟨h1, V', hR.mid hNl hb2 h2 h3 h4, by omega, by omega⟩
      have HDo : Hid (_) := hDo
      obtain ⟨T, E⟩ := R
      have hml : n + 1 ≤ maxLen := by unfold maxLen; omega
      have hkb : (n + 1) * 24 ≤ 140737488355328 := by omega
      have d0 : (0 : Int) ≤ (n : Int) := by omega
      have d1 : (n : Int) < (l.length : Int) := by omega
      have hbox := hR.box
      clear hnx hrx hDo ho hko hRe hA hS hE hR
      go_upto_region 6 with fail
      obtain ⟨D, hD⟩ : ∃ D, wr.heap.size = D := ⟨_, rfl⟩
      have rD := heap_alloc_new wr (.cells #[.int .i64 kind, .string (bs k), .string (bs vl), .string (bs od)] 51)
      have hbA := (Below.refl wr.heap.size wr).alloc (Nat.le_refl _) (.cells #[.int .i64 kind, .string (bs k), .string (bs vl), .string (bs od)] 51)
      obtain ⟨WA, hWA⟩ : ∃ W, wr.alloc (.cells #[.int .i64 kind, .string (bs k), .string (bs vl), .string (bs od)] 51) = W := ⟨_, rfl⟩
      rw [hWA] at rD hbA ⊢
      have hbox2 : WA.heap[X]? = some (.cells #[.pointer (some ⟨b, 0, none⟩), .pointer (some ⟨b + 1, 0, none⟩), .pointer (some ⟨b + 2, 0, none⟩), .pointer (some ⟨b + 3, 0, none⟩)] 82) := (hbA.block X hXl).trans hbox
      have q0 := cellB hbox2 0 _ rfl
      have q1 := cellB hbox2 1 _ rfl
      have q2 := cellB hbox2 2 _ rfl
      have q3 := cellB hbox2 3 _ rfl
      have HbA : Hid (Below wr.heap.size wr WA) := hbA
      rw [hD] at rD ⊢
      have x0 := cellB rD 0 _ rfl
      have x1 := cellB rD 1 _ rfl
      have x2 := cellB rD 2 _ rfl
      have x3 := cellB rD 3 _ rfl
      clear hbA hWA rD hbox hbox2 y0 y1 y2 y3 hD
      go_wp2_with (first
        | (go_at_call 25; refine (HDo.out _ HbA.out).mono ?_; rintro e W3 ⟨rfl, V', hR3, hX3, hN3⟩; have hown := hR3.row; have hN4 : N ≤ (W3.alloc (.cells #[.int .i64 E, .string (bs T)] 48)).heap.size := by (rw [World.size_alloc]; omega))
        | (at_builtin; refine wpList_append_lies _ rfl _ _ 38 rfl N 48 i0 (.agg #[.int .i64 0, .string ⟨#[]⟩]) 2 24 Tryd.underlying38 hi hz0 hz1 hz2 rfl (by decide) (.slice xa n xc) n _ rfl (hown.alloc _) _ 1 1 [.int .i64 E, .string (bs T)] rfl rfl (World.news_of_block (heap_alloc_new _ _)) (by simp [Value.oneCell']) (by decide) hml hkb hN4 _ rfl ?_; intro ga ca w6 g1 g2 g3 g4))
      have hR6 : RI N b X w (next S ⟨kind, k, vl, od⟩) V' (.slice (some ⟨ga, 0, none⟩) (n + 1) ca) (n + 1) (A ++ [(T, E)]) w6 := hR3.app (W2 := W3.alloc (.cells #[.int .i64 E, .string (bs T)] 48)) hN3 ((Below.refl _ W3).alloc (Nat.le_refl _) _) (by rw [List.flatMap_append]; exact g1) g2 g3
      have hs6 : X < w6.heap.size ∧ N ≤ w6.heap.size := by
        have := g2.size
        rw [World.size_alloc] at this
        exact ⟨by omega, by omega⟩
      go_roundg (l.length - (n + 1))
      case measure => omega
      case rel => exact ⟨n + 1, V', by omega, by go_num, by rw [HNX.out.1, HNX.out.2]; exact hR6, hs6.1, hs6.2⟩
end
section
open Go.RowKit
attribute [local go_sem ↓] Go.wp_at_zero Go.wp_at_succ

theorem RM.new {N X : Nat} {W : World} (hX : W.heap[X]? = some (.cells #[.slice none 0 0, .slice none 0 0, .slice none 0 0, .slice none 0 0] 77)) (hN : N ≤ X) : RM N W X (fun _ => []) (fun _ => .slice none 0 0) := by
  refine ⟨fun i hi => ⟨cellB hX i _ ?_, frozenB hX i, World.ownsRow_nil _ _ _ _, fun k hk => (by cases hk), by simp, fun r hr => by cases hr⟩, hN, fun i hi q hq => by cases hq⟩
  rcases i with _ | _ | _ | _ | i
  · rfl
  · rfl
  · rfl
  · rfl
  · omega
/-- In the midst of the document's Replay: its map, the answers so far. -/
structure RRI (N X : Nat) (w : World) (L : Ms) (U : Nat → Value) (x : Value) (n : Nat) (A : List An) (W : World) : Prop where
  rm : RM N W X L U
  row : W.ownsRow N 45 2 x n (A.flatMap acs)
  ap : ∀ q, x.ownBlock = some q → q ≠ X ∧ ∀ i, i < 4 → (U i).ownBlock ≠ some q
  below : Below N w W
theorem RRI.mid {N X : Nat} {w : World} {L L' : Ms} {U U' : Nat → Value} {x : Value} {n : Nat} {A : List An} {W W2 W3 : World} (h : RRI N X w L U x n A W) (hN : N ≤ W.heap.size) (hb : Below W.heap.size W W2) (h4 : RM N W3 X L' U') (hm : MvR X U W2 W3) (ho : ∀ i, i < 4 → ∀ q, (U' i).ownBlock = some q → (U i).ownBlock = some q ∨ W2.heap.size ≤ q) : RRI N X w L' U' x n A W3 := by
  have hs := hb.size
  have hbl : ∀ k, k < W.heap.size → k ≠ X → (∀ i, i < 4 → (U i).ownBlock ≠ some k) → W3.heap[k]? = W.heap[k]? := fun k hk h1 h2 => (hm.block k (Nat.lt_of_lt_of_le hk hb.size) h1 h2).trans (hb.block k hk)
  refine ⟨h4, owns_keep h.row fun k hk => hbl k (h.row.lt k hk).2 (h.ap k hk).1 (h.ap k hk).2, fun q hq => ?_, h.below.trans ((hb.mono hN).trans ((h.rm.on hb).below hm))⟩
  obtain ⟨a1, a2⟩ := h.ap q hq
  refine ⟨a1, fun i hi e => ?_⟩
  rcases ho i hi q e with e2 | e2
  · exact a2 i hi e2
  · have := (h.row.lt q hq).2
    omega
theorem RRI.app {N X : Nat} {w : World} {L : Ms} {U : Nat → Value} {x : Value} {n : Nat} {A : List An} {W W2 w' : World} (h : RRI N X w L U x n A W) (hN : N ≤ W.heap.size) (hb : Below W.heap.size W W2) {a : An} {g cap : Nat} (h1 : w'.ownsRow N 45 2 (.slice (some ⟨g, 0, none⟩) (n + 1) cap) (n + 1) ((A ++ [a]).flatMap acs)) (h2 : W2.grownBy w' x.ownBlock) (h3 : x.ownBlock = some g ∨ g = W2.heap.size) : RRI N X w L U (.slice (some ⟨g, 0, none⟩) (n + 1) cap) (n + 1) (A ++ [a]) w' := by
  have hs := hb.size
  have hbl : ∀ k, k < W.heap.size → x.ownBlock ≠ some k → w'.heap[k]? = W.heap[k]? := fun k hk hne => (h2.block k (by omega) (fun e => hne e.symm)).trans (hb.block k hk)
  refine ⟨h.rm.keep (Nat.le_trans hs h2.size) (hbl _ h.rm.lt (fun e => (h.ap _ e).1 rfl)) (fun i hi q hq => hbl q (h.rm.own i hi q hq).2.1 (fun e => (h.ap q e).2 i hi hq)), h1, fun q hq => ?_, (h.below.trans (hb.mono hN)).grown h2 (by omega) (fun z hz => (h.row.lt z hz).1)⟩
  have hq' : g = q := by simpa [Value.ownBlock] using hq
  subst hq'
  rcases h3 with h3 | h3
  · exact h.ap _ h3
  · refine ⟨by have := h.rm.lt; omega, fun i hi e => ?_⟩
    have := (h.rm.own i hi _ e).2.1
    omega
set_option maxRecDepth 20000 in
set_option maxHeartbeats 2000000 in
theorem rReplay_any (l : List Opr) (v : Value) (w : World) (hv : SlF ocs 4 w v l) (hl : l.length ≤ 1000000) (hk : ∀ o ∈ l, o.k.length ≤ 140737488351232) : Calls Tryd.prog 13 #[v] w fun e W' => ∃ u, e = .returned u ∧ W'.ownsRow w.heap.size 45 2 u l.length ((rrepl (fun _ => []) l).flatMap acs) ∧ Below w.heap.size w W' := by
  obtain ⟨va, vc, rfl⟩ := hv.slice
  obtain ⟨i0, hi, hz0, hz1, hz2⟩ := info_parts Tryd.info45
  have HV : Hid (SlF ocs 4 w (.slice va l.length vc) l ∧ ∀ o ∈ l, o.k.length ≤ 140737488351232) := ⟨hv, hk⟩
  clear hv hk
  go_enter Tryd.func13, Tryd.ntmps13
  go_upto_region 2 with fail
  obtain ⟨X, hX⟩ : ∃ X, w.heap.size = X := ⟨_, rfl⟩
  have rX := heap_alloc_new w (.cells #[.slice none 0 0, .slice none 0 0, .slice none 0 0, .slice none 0 0] 77)
  have hbX := (Below.refl _ w).alloc (Nat.le_refl _) (.cells #[.slice none 0 0, .slice none 0 0, .slice none 0 0, .slice none 0 0] 77)
  obtain ⟨W2, hW2⟩ : ∃ W, w.alloc (.cells #[.slice none 0 0, .slice none 0 0, .slice none 0 0, .slice none 0 0] 77) = W := ⟨_, rfl⟩
  rw [hW2] at rX hbX
  rw [hX] at rX hbX ⊢
  have hR0 : RRI X X w (fun _ => []) (fun _ => .slice none 0 0) (.slice none 0 0) 0 [] W2 :=
    ⟨RM.new rX (Nat.le_refl _), World.ownsRow_nil _ _ _ _, fun q hq => (by cases hq), hbX⟩
  have HR0 : Hid (_) := hR0
  have HX : Hid (w.heap.size = X) := hX
  try rw [hW2]
  clear hbX rX hW2 hX hR0
  go_wp2_with fail
  go_loopg [4, 11] l.length (fun gk x j wr => ∃ (n : Nat) (U : Nat → Value), n + gk = l.length ∧ j = .int .i64 n ∧ RRI X X w (rfin (fun _ => []) (l.take n)) U x n (rrepl (fun _ => []) (l.take n)) wr ∧ X < wr.heap.size)
  case atStart => exact ⟨0, _, by omega, rfl, HR0.out, HR0.out.rm.lt⟩
  case round =>
    obtain ⟨n, U, hnn, rfl, hR, hXl⟩ := hrel
    obtain ⟨xa, xc, rfl⟩ := owns_slice hR.row
    by_cases hn1 : n = l.length
    · subst hn1
      rw [List.take_length] at hR
      have HO : Hid (_ ∧ _) := ⟨hR.row, hR.below⟩
      clear hR HR0 HV
      go_wp2
      go_ret
      exact ⟨_, rfl, by rw [HX.out]; exact HO.out.1, by rw [HX.out]; exact HO.out.2⟩
    · have hn2 : n < l.length := by omega
      obtain ⟨o, ho⟩ : ∃ o, l[n]? = some o := ⟨_, List.getElem?_eq_getElem hn2⟩
      have hko := HV.out.2 o (List.mem_of_getElem? ho)
      obtain ⟨kind, k, vl, od⟩ := o
      obtain ⟨g, e', hg', y0, y1, y2, y3⟩ := (HV.out.1.on (hR.below) (by rw [HX.out]; exact Nat.le_refl _)).at4 ho
      subst hg'
      obtain ⟨R, hRe⟩ : ∃ R, rtell (rfin (fun _ => []) (l.take n)) ⟨kind, k, vl, od⟩ = R := ⟨_, rfl⟩
      obtain ⟨A, hA⟩ : ∃ A, rrepl (fun _ => []) (l.take n) = A := ⟨_, rfl⟩
      obtain ⟨S, hS⟩ : ∃ S, rfin (fun _ => []) (l.take n) = S := ⟨_, rfl⟩
      rw [hS] at hRe
      have hnx : rfin (fun _ => []) (l.take (n + 1)) = rnext S ⟨kind, k, vl, od⟩ := by rw [take_snoc ho, rfin_snoc, hS]
      have hrx : rrepl (fun _ => []) (l.take (n + 1)) = A ++ [R] := by rw [take_snoc ho, rrepl_snoc, hS, hA, hRe]
      rw [hS, hA] at hR
      have HNX : Hid (_ ∧ _) := ⟨hnx, hrx⟩
      have hDo : ∀ W2, Below wr.heap.size wr W2 → Calls Tryd.prog 23 #[.pointer (some ⟨X, 0, none⟩), .agg #[.int .i64 kind, .string (bs k), .string (bs vl), .string (bs od)]] W2 fun e W' => e = .returned (.agg #[.int .i64 R.2, .string (bs R.1)]) ∧ ∃ U', RRI X X w (rnext S ⟨kind, k, vl, od⟩) U' (.slice xa n xc) n A W' ∧ X < W'.heap.size := fun W2 hb2 => by
        have hd := Tell_any (hR.rm.on hb2) ⟨kind, k, vl, od⟩ hko
        rw [hRe] at hd
        refine hd.mono fun e W' hh => ?_
        obtain ⟨h1, V', h2, h3, h4⟩ := hh
        have := hb2.size
        have := h3.size
        exact ⟨h1, V', hR.mid (by omega) hb2 h2 h3 h4, by omega⟩
      have HDo : Hid (_) := hDo
      obtain ⟨T, E⟩ := R
      have hml : n + 1 ≤ maxLen := by unfold maxLen; omega
      have hkb : (n + 1) * 24 ≤ 140737488355328 := by omega
      have d0 : (0 : Int) ≤ (n : Int) := by omega
      have d1 : (n : Int) < (l.length : Int) := by omega
      clear hnx hrx hDo ho hko hRe hA hS hR
      go_upto_region 6 with fail
      obtain ⟨D, hD⟩ : ∃ D, wr.heap.size = D := ⟨_, rfl⟩
      have rD := heap_alloc_new wr (.cells #[.int .i64 kind, .string (bs k), .string (bs vl), .string (bs od)] 66)
      have hbA := (Below.refl wr.heap.size wr).alloc (Nat.le_refl _) (.cells #[.int .i64 kind, .string (bs k), .string (bs vl), .string (bs od)] 66)
      obtain ⟨WA, hWA⟩ : ∃ W, wr.alloc (.cells #[.int .i64 kind, .string (bs k), .string (bs vl), .string (bs od)] 66) = W := ⟨_, rfl⟩
      rw [hWA] at rD hbA ⊢
      have HbA : Hid (Below wr.heap.size wr WA) := hbA
      rw [hD] at rD ⊢
      have x0 := cellB rD 0 _ rfl
      have x1 := cellB rD 1 _ rfl
      have x2 := cellB rD 2 _ rfl
      have x3 := cellB rD 3 _ rfl
      clear hbA hWA rD y0 y1 y2 y3 hD
      go_wp2_with (first
        | (go_at_call 23; refine (HDo.out _ HbA.out).mono ?_; rintro e W3 ⟨rfl, V', hR3, hX3⟩; have hown := hR3.row; have hN4 : X ≤ (W3.alloc (.cells #[.int .i64 E, .string (bs T)] 45)).heap.size := by (rw [World.size_alloc]; omega))
        | (at_builtin; refine wpList_append_lies _ rfl _ _ 40 rfl X 45 i0 (.agg #[.int .i64 0, .string ⟨#[]⟩]) 2 24 Tryd.underlying40 hi hz0 hz1 hz2 rfl (by decide) (.slice xa n xc) n _ rfl (hown.alloc _) _ 1 1 [.int .i64 E, .string (bs T)] rfl rfl (World.news_of_block (heap_alloc_new _ _)) (by simp [Value.oneCell']) (by decide) hml hkb hN4 _ rfl ?_; intro ga ca w6 g1 g2 g3 g4))
      have hR6 : RRI X X w (rnext S ⟨kind, k, vl, od⟩) V' (.slice (some ⟨ga, 0, none⟩) (n + 1) ca) (n + 1) (A ++ [(T, E)]) w6 := hR3.app (W2 := W3.alloc (.cells #[.int .i64 E, .string (bs T)] 45)) (by omega) ((Below.refl _ W3).alloc (Nat.le_refl _) _) (by rw [List.flatMap_append]; exact g1) g2 g3
      have hs6 : X < w6.heap.size := by
        have := g2.size
        rw [World.size_alloc] at this
        omega
      go_roundg (l.length - (n + 1))
      case measure => omega
      case rel => exact ⟨n + 1, V', by omega, by go_num, by rw [HNX.out.1, HNX.out.2]; exact hR6, hs6⟩
end
section
open Go.RowKit
attribute [local go_sem ↓] Go.wp_at_zero Go.wp_at_succ

/-- A call, a point. -/
structure Cl where
  cl : Int
  no : Int
  op : Opr
  fr : Int
  tt : Int
  an : An
structure Pt where
  tm : Int
  cl : Int
  no : Int
  an : An
abbrev cV (cl no kind : Int) (k v o : List UInt8) (fr tt E : Int) (T : List UInt8) : Value := .agg #[.int .i64 cl, .int .i64 no, .int .i64 kind, .string (bs k), .string (bs v), .string (bs o), .int .i64 fr, .int .i64 tt, .int .i64 E, .string (bs T)]
abbrev pV (tm cl no E : Int) (T : List UInt8) : Value := .agg #[.int .i64 tm, .int .i64 cl, .int .i64 no, .int .i64 E, .string (bs T)]
def ccs (c : Cl) : List Value := [.int .i64 c.cl, .int .i64 c.no, .int .i64 c.op.kind, .string (bs c.op.k), .string (bs c.op.v), .string (bs c.op.o), .int .i64 c.fr, .int .i64 c.tt, .int .i64 c.an.2, .string (bs c.an.1)]
def pks (p : Pt) : List Value := [.int .i64 p.tm, .int .i64 p.cl, .int .i64 p.no, .int .i64 p.an.2, .string (bs p.an.1)]
def ansd (c : Cl) : Bool := decide (c.tt ≠ -1)
def okCall (c : Cl) : Bool := decide (0 ≤ c.cl) && decide (c.cl < 8) && decide (1 ≤ c.no) && decide (c.no ≤ 1099511627776) && decide (chk c.op.kind c.op.k c.op.v c.op.o = 0) && decide (0 ≤ c.fr) && (if c.tt = -1 then decide (c.an = ([], 0)) else decide (c.fr ≤ c.tt))
def behind (c b : Cl) : Bool := decide (b.no < c.no) && ansd b && decide (b.tt ≤ c.fr)
def hasM (c : Cl) (m : Int) : Bool := decide (c.fr ≤ m) && (decide (c.tt = -1) || decide (m ≤ c.tt))
theorem str_one (k : List UInt8) : ((bs k).toList == (bs k).toList) = true := by simp
theorem str_two {a b : List UInt8} (h : a ≠ b) : ((bs a).toList == (bs b).toList) = false := str_ne fun e => h (bs_inj e)

set_option maxRecDepth 20000 in
theorem isAns_any (cl no kind : Int) (k v o : List UInt8) (fr tt E : Int) (T : List UInt8) (w : World) : Calls Tryd.prog 43 #[cV cl no kind k v o fr tt E T] w fun e W' => e = .returned (.bool (decide (tt ≠ -1))) ∧ Below w.heap.size w W' := by
  by_cases h : tt = -1
  · subst h
    go_enter Tryd.func43, Tryd.ntmps43
    go_wp2
    go_ret
    exact ⟨rfl, (Below.refl _ w).alloc (Nat.le_refl _) _⟩
  · have hq : (tt == -1) = false := by simpa using h
    rw [decide_eq_true h]
    go_enter Tryd.func43, Tryd.ntmps43
    go_wp2
    go_ret
    exact ⟨by simp [h], (Below.refl _ w).alloc (Nat.le_refl _) _⟩
set_option maxRecDepth 20000 in
theorem request_any (tm cl no E : Int) (T : List UInt8) (w : World) : Calls Tryd.prog 42 #[pV tm cl no E T] w fun e W' => e = .returned (.agg #[.int .i64 cl, .int .i64 no]) ∧ Below w.heap.size w W' := by
  go_enter Tryd.func42, Tryd.ntmps42
  go_wp2
  refine bodyPost_ret (v := .agg #[.int .i64 cl, .int .i64 no]) (by simp [results, Tryd.f42, go_sem]) rfl ⟨rfl, ?_⟩
  exact ((Below.refl _ w).alloc (Nat.le_refl _) _).alloc (by simp) _
set_option maxRecDepth 20000 in
theorem behind_any (c b : Cl) (w : World) : Calls Tryd.prog 39 #[cV c.cl c.no c.op.kind c.op.k c.op.v c.op.o c.fr c.tt c.an.2 c.an.1, cV b.cl b.no b.op.kind b.op.k b.op.v b.op.o b.fr b.tt b.an.2 b.an.1] w fun e W' => e = .returned (.bool (behind c b)) ∧ Below w.heap.size w W' := by
  obtain ⟨cl, no, ⟨kind, k, v, o⟩, fr, tt, T, E⟩ := c
  obtain ⟨cl', no', ⟨kind', k', v', o'⟩, fr', tt', T', E'⟩ := b
  dsimp only [behind, ansd]
  have hb : Below w.heap.size w ((w.alloc (.cells #[.int .i64 cl, .int .i64 no, .int .i64 kind, .string (bs k), .string (bs v), .string (bs o), .int .i64 fr, .int .i64 tt, .int .i64 E, .string (bs T)] 53)).alloc (.cells #[.int .i64 cl', .int .i64 no', .int .i64 kind', .string (bs k'), .string (bs v'), .string (bs o'), .int .i64 fr', .int .i64 tt', .int .i64 E', .string (bs T')] 53)) := ((Below.refl _ w).alloc (Nat.le_refl _) _).alloc (by simp) _
  have hA := fun W => isAns_any cl' no' kind' k' v' o' fr' tt' E' T' W
  have HB : Hid (_) := hb
  have HC : Hid (∀ W, Below ((w.alloc (.cells #[.int .i64 cl, .int .i64 no, .int .i64 kind, .string (bs k), .string (bs v), .string (bs o), .int .i64 fr, .int .i64 tt, .int .i64 E, .string (bs T)] 53)).alloc (.cells #[.int .i64 cl', .int .i64 no', .int .i64 kind', .string (bs k'), .string (bs v'), .string (bs o'), .int .i64 fr', .int .i64 tt', .int .i64 E', .string (bs T')] 53)).heap.size ((w.alloc (.cells #[.int .i64 cl, .int .i64 no, .int .i64 kind, .string (bs k), .string (bs v), .string (bs o), .int .i64 fr, .int .i64 tt, .int .i64 E, .string (bs T)] 53)).alloc (.cells #[.int .i64 cl', .int .i64 no', .int .i64 kind', .string (bs k'), .string (bs v'), .string (bs o'), .int .i64 fr', .int .i64 tt', .int .i64 E', .string (bs T')] 53)) W → W.cell? ⟨w.heap.size, 6, none⟩ = some (.int .i64 fr) ∧ W.cell? ⟨w.heap.size + 1, 7, none⟩ = some (.int .i64 tt')) := fun W hW => by
    have z0 : ((w.alloc (.cells #[.int .i64 cl, .int .i64 no, .int .i64 kind, .string (bs k), .string (bs v), .string (bs o), .int .i64 fr, .int .i64 tt, .int .i64 E, .string (bs T)] 53)).alloc (.cells #[.int .i64 cl', .int .i64 no', .int .i64 kind', .string (bs k'), .string (bs v'), .string (bs o'), .int .i64 fr', .int .i64 tt', .int .i64 E', .string (bs T')] 53)).heap[w.heap.size]? = some (.cells #[.int .i64 cl, .int .i64 no, .int .i64 kind, .string (bs k), .string (bs v), .string (bs o), .int .i64 fr, .int .i64 tt, .int .i64 E, .string (bs T)] 53) := ((Below.refl (w.heap.size + 1) _).alloc (by simp) _).block w.heap.size (by omega) |>.trans (heap_alloc_new _ _)
    have z1 : ((w.alloc (.cells #[.int .i64 cl, .int .i64 no, .int .i64 kind, .string (bs k), .string (bs v), .string (bs o), .int .i64 fr, .int .i64 tt, .int .i64 E, .string (bs T)] 53)).alloc (.cells #[.int .i64 cl', .int .i64 no', .int .i64 kind', .string (bs k'), .string (bs v'), .string (bs o'), .int .i64 fr', .int .i64 tt', .int .i64 E', .string (bs T')] 53)).heap[w.heap.size + 1]? = some (.cells #[.int .i64 cl', .int .i64 no', .int .i64 kind', .string (bs k'), .string (bs v'), .string (bs o'), .int .i64 fr', .int .i64 tt', .int .i64 E', .string (bs T')] 53) := by
      have := heap_alloc_new (w.alloc (.cells #[.int .i64 cl, .int .i64 no, .int .i64 kind, .string (bs k), .string (bs v), .string (bs o), .int .i64 fr, .int .i64 tt, .int .i64 E, .string (bs T)] 53)) (.cells #[.int .i64 cl', .int .i64 no', .int .i64 kind', .string (bs k'), .string (bs v'), .string (bs o'), .int .i64 fr', .int .i64 tt', .int .i64 E', .string (bs T')] 53)
      rw [World.size_alloc] at this
      exact this
    exact ⟨cellB ((hW.block w.heap.size (by simp; omega)).trans z0) 6 _ rfl, cellB ((hW.block (w.heap.size + 1) (by simp)).trans z1) 7 _ rfl⟩
  have HA : Hid (∀ W, Calls Tryd.prog 43 #[cV cl' no' kind' k' v' o' fr' tt' E' T'] W fun e W' => e = .returned (.bool (decide (tt' ≠ -1))) ∧ Below W.heap.size W W') := hA
  clear hb hA
  by_cases h1 : no' < no
  · rw [decide_eq_true h1]
    by_cases h2 : tt' = -1
    · rw [show decide (tt' ≠ -1) = false by simp [h2]] at HA ⊢
      clear h2
      go_enter Tryd.func39, Tryd.ntmps39
      go_wp2_with (go_at_call 43; refine (HA.out _).mono ?_; rintro e w1 ⟨rfl, hb1⟩; obtain ⟨y6, y7⟩ := HC.out _ hb1)
      go_ret
      exact ⟨rfl, HB.out.trans (hb1.mono HB.out.size)⟩
    · rw [show decide (tt' ≠ -1) = true by simp [h2]] at HA ⊢
      clear h2
      by_cases h3 : tt' ≤ fr
      · rw [decide_eq_true h3]
        go_enter Tryd.func39, Tryd.ntmps39
        go_wp2_with (go_at_call 43; refine (HA.out _).mono ?_; rintro e w1 ⟨rfl, hb1⟩; obtain ⟨y6, y7⟩ := HC.out _ hb1)
        go_ret
        exact ⟨by simp, HB.out.trans (hb1.mono HB.out.size)⟩
      · rw [decide_eq_false h3]
        go_enter Tryd.func39, Tryd.ntmps39
        go_wp2_with (go_at_call 43; refine (HA.out _).mono ?_; rintro e w1 ⟨rfl, hb1⟩; obtain ⟨y6, y7⟩ := HC.out _ hb1)
        go_ret
        exact ⟨by simp [h3], HB.out.trans (hb1.mono HB.out.size)⟩
  · rw [decide_eq_false h1]
    go_enter Tryd.func39, Tryd.ntmps39
    go_wp2
    go_ret
    exact ⟨by simp, HB.out⟩
set_option maxRecDepth 20000 in
theorem has_any (c : Cl) (m : Int) (w : World) : Calls Tryd.prog 41 #[cV c.cl c.no c.op.kind c.op.k c.op.v c.op.o c.fr c.tt c.an.2 c.an.1, .int .i64 m] w fun e W' => e = .returned (.bool (hasM c m)) ∧ Below w.heap.size w W' := by
  obtain ⟨cl, no, ⟨kind, k, v, o⟩, fr, tt, T, E⟩ := c
  dsimp only [hasM]
  have hb : Below w.heap.size w (w.alloc (.cells #[.int .i64 cl, .int .i64 no, .int .i64 kind, .string (bs k), .string (bs v), .string (bs o), .int .i64 fr, .int .i64 tt, .int .i64 E, .string (bs T)] 53)) := (Below.refl _ w).alloc (Nat.le_refl _) _
  have HB : Hid (_) := hb
  have HC : Hid (∀ W, Below (w.alloc (.cells #[.int .i64 cl, .int .i64 no, .int .i64 kind, .string (bs k), .string (bs v), .string (bs o), .int .i64 fr, .int .i64 tt, .int .i64 E, .string (bs T)] 53)).heap.size (w.alloc (.cells #[.int .i64 cl, .int .i64 no, .int .i64 kind, .string (bs k), .string (bs v), .string (bs o), .int .i64 fr, .int .i64 tt, .int .i64 E, .string (bs T)] 53)) W → W.cell? ⟨w.heap.size, 7, none⟩ = some (.int .i64 tt)) := fun W hW => cellB ((hW.block w.heap.size (by simp)).trans (heap_alloc_new _ _)) 7 _ rfl
  have HA : Hid (∀ W, Calls Tryd.prog 43 #[cV cl no kind k v o fr tt E T] W fun e W' => e = .returned (.bool (decide (tt ≠ -1))) ∧ Below W.heap.size W W') := fun W => isAns_any cl no kind k v o fr tt E T W
  clear hb
  by_cases h1 : fr ≤ m
  · rw [decide_eq_true h1]
    by_cases h2 : tt = -1
    · rw [show decide (tt ≠ -1) = false by simp [h2]] at HA
      rw [show decide (tt = -1) = true by simp [h2]]
      clear h2
      go_enter Tryd.func41, Tryd.ntmps41
      go_wp2_with (go_at_call 43; refine (HA.out _).mono ?_; rintro e w1 ⟨rfl, hb1⟩; have y7 := HC.out _ hb1)
      go_ret
      exact ⟨by simp, HB.out.trans (hb1.mono HB.out.size)⟩
    · rw [show decide (tt ≠ -1) = true by simp [h2]] at HA
      rw [show decide (tt = -1) = false by simp [h2]]
      clear h2
      by_cases h3 : m ≤ tt
      · rw [decide_eq_true h3]
        go_enter Tryd.func41, Tryd.ntmps41
        go_wp2_with (go_at_call 43; refine (HA.out _).mono ?_; rintro e w1 ⟨rfl, hb1⟩; have y7 := HC.out _ hb1)
        go_ret
        exact ⟨by simp, HB.out.trans (hb1.mono HB.out.size)⟩
      · rw [decide_eq_false h3]
        go_enter Tryd.func41, Tryd.ntmps41
        go_wp2_with (go_at_call 43; refine (HA.out _).mono ?_; rintro e w1 ⟨rfl, hb1⟩; have y7 := HC.out _ hb1)
        go_ret
        exact ⟨by simp [h3], HB.out.trans (hb1.mono HB.out.size)⟩
  · rw [decide_eq_false h1]
    go_enter Tryd.func41, Tryd.ntmps41
    go_wp2
    go_ret
    exact ⟨by simp, HB.out⟩
end
end Go.Proofs.YtdfonbhboncjmaaDoor
