/- reeve: all configurations of a chain, and the chain of rulings, walked. -/
import Derived.Test.YtcehmaegnfelhaaRvA
namespace Go.Proofs.Ytcehmaegnfelhaa
open Go.RowKit
attribute [local go_sem ↓] Go.wp_at_zero Go.wp_at_succ

/-- A configuration. -/
structure Cg where
  num : Int
  gs : List Int
  a : Int
  b : Int
  c : Int
  d : Int
abbrev cgv (x : Cg) (gv : Value) : Array Value := cf x.num gv x.a x.b x.c x.d
/-- Configurations in memory. -/
def Cl (w : World) (v : Value) (l : List Cg) : Prop :=
  (l = [] ∧ ∃ a c, v = .slice a 0 c) ∨ ∃ b o cp, v = .slice (some ⟨b, o, none⟩) l.length cp ∧ b < w.heap.size ∧ ∀ i x, l[i]? = some x → ∃ gv, Il w gv x.gs ∧ ∀ k u, (cgv x gv)[k]? = some u → w.cell? ⟨b, o + i * 6 + k, none⟩ = some u
theorem Cl.on {w w' : World} {v : Value} {l : List Cg} (h : Cl w v l) {n : Nat} (hb : Below n w w') (hn : w.heap.size ≤ n) : Cl w' v l := by
  rcases h with h | ⟨b, o, c, rfl, hlt, h⟩
  · exact .inl h
  · refine .inr ⟨b, o, c, rfl, Nat.lt_of_lt_of_le hlt hb.size, fun i a ha => ?_⟩
    obtain ⟨gv, h1, h2⟩ := h i a ha
    exact ⟨gv, h1.below hb hn, fun k u hu => (hb.cell (p := ⟨b, o + i * 6 + k, none⟩) (by show b < n; omega)).trans (h2 k u hu)⟩
theorem Cl.slice {w : World} {v : Value} {l : List Cg} (h : Cl w v l) : ∃ a c, v = .slice a l.length c := by
  rcases h with ⟨rfl, a, c, rfl⟩ | ⟨b, o, c, rfl, _⟩
  · exact ⟨a, c, rfl⟩
  · exact ⟨_, _, rfl⟩
theorem Cl.at {w : World} {a : Option Addr} {c : Nat} {l : List Cg} (h : Cl w (.slice a l.length c) l) {i : Nat} {x : Cg} (hx : l[i]? = some x) :
    ∃ b o gv, a = some ⟨b, o, none⟩ ∧ b < w.heap.size ∧ Il w gv x.gs ∧ ∀ k u, (cgv x gv)[k]? = some u → w.cell? ⟨b, o + i * 6 + k, none⟩ = some u := by
  rcases h with ⟨rfl, _⟩ | ⟨b, o, cap, hv, hlt, h⟩
  · cases hx
  · injection hv with h1 _ _
    obtain ⟨gv, h2, h3⟩ := h i x hx
    exact ⟨b, o, gv, h1, hlt, h2, h3⟩
/-- Groups that lie elsewhere than what grows. -/
def Gk (base : Nat) (w : World) (ob : Option Nat) (v : Value) (ns : List Int) : Prop := Il w v ns ∧ (ns ≠ [] → ∃ k, v.ownBlock = some k ∧ base ≤ k ∧ k < w.heap.size ∧ ob ≠ some k)
theorem Gk.grow {base : Nat} {w w' : World} {ob ob' : Option Nat} {v : Value} {ns : List Int} (h : Gk base w ob v ns) (hk : ∀ k, k < w.heap.size → some k ≠ ob → w'.heap[k]? = w.heap[k]?) (hs : w.heap.size ≤ w'.heap.size)
    (ho : ob' = ob ∨ ∃ g, ob' = some g ∧ w.heap.size ≤ g) : Gk base w' ob' v ns := by
  by_cases hn : ns = []
  · subst hn
    obtain ⟨a, c, rfl⟩ := h.1.slice
    exact ⟨.inl ⟨rfl, a, c, rfl⟩, fun e => absurd rfl e⟩
  · obtain ⟨k, h1, h2, h3, h4⟩ := h.2 hn
    refine ⟨Il_blk h.1 (fun j hj => ?_) hs, fun _ => ⟨k, h1, h2, Nat.lt_of_lt_of_le h3 hs, ?_⟩⟩
    · rw [h1] at hj; injection hj with hj; subst hj
      exact hk _ h3 (fun e => h4 e.symm)
    · rcases ho with rfl | ⟨g, rfl, hg⟩
      · exact h4
      · intro e; injection e with e; omega
theorem Gk.of {base : Nat} {w : World} {ob : Option Nat} {v : Value} {ns : List Int} (h : Il w v ns) {n : Nat} (hf : Fr n v) (hb : base ≤ n) (ho : ∀ g, ob = some g → g < n) : Gk base w ob v ns := by
  refine ⟨h, fun hn => ?_⟩
  rcases h with ⟨e, _⟩ | ⟨b, o, c, rfl, hlt, _⟩
  · exact absurd e hn
  · have := hf b rfl
    exact ⟨b, rfl, by omega, hlt, fun e => by have := ho b e; omega⟩
def cgOf (n : Nat) (c : List Nat × List Nat) : Cg := ⟨n, zi c.1, (c.2.getD 0 0 : Nat), (c.2.getD 1 0 : Nat), (c.2.getD 2 0 : Nat), (c.2.getD 3 0 : Nat)⟩
theorem cgOf_eq {n : Nat} {c : List Nat × List Nat} {p q r s : Nat} (h : c.2 = [p, q, r, s]) : cgOf n c = ⟨n, zi c.1, p, q, r, s⟩ := by rw [cgOf, h]; rfl
/-- A chain's configurations, number 0 ahead of them. -/
def allL (cs : Cfs) : List Cg := (List.range (cs.length + 1)).map fun i => cgOf i (cfgP cs i)
theorem allL_len (cs : Cfs) : (allL cs).length = cs.length + 1 := by simp [allL]
theorem allL_at {cs : Cfs} {i : Nat} {x : Cg} (h : (allL cs)[i]? = some x) : i < cs.length + 1 ∧ x = cgOf i (cfgP cs i) := by
  have h1 := (List.getElem?_eq_some_iff.1 h).1
  rw [allL_len] at h1
  rw [allL, List.getElem?_map, List.getElem?_range h1] at h
  exact ⟨h1, by simpa using h.symm⟩
/-- Configurations that grow. -/
structure Gr (cs : Cfs) (N : Nat) (w : World) (v : Value) (n : Nat) (R : List Value) : Prop where
  own : w.ownsRow N 50 6 v n R
  row : ∀ i, i < n → ∃ gv, Gk N w v.ownBlock gv (cgOf i (cfgP cs i)).gs ∧ ∀ k u, (cgv (cgOf i (cfgP cs i)) gv)[k]? = some u → R[i * 6 + k]? = some u
theorem Gr.cl {cs : Cfs} {N : Nat} {w : World} {v : Value} {R : List Value} (h : Gr cs N w v (cs.length + 1) R) : Cl w v (allL cs) := by
  obtain ⟨g, cap, rfl, hb, hlt⟩ := h.own.form (Nat.succ_pos _)
  refine .inr ⟨g, 0, cap, by rw [allL_len], hlt, fun i x hx => ?_⟩
  obtain ⟨hi, rfl⟩ := allL_at hx
  obtain ⟨gv, h1, h2⟩ := h.row i hi
  refine ⟨gv, h1.1, fun k u hu => ?_⟩
  have hk : k < 6 := by have := (Array.getElem?_eq_some_iff.1 hu).1; simpa using this
  rw [Nat.zero_add]
  exact (h.own.cellAt (i * 6 + k) (by omega)).trans (h2 k u hu)
theorem Gr.step {cs : Cfs} {N : Nat} {w : World} {v : Value} {n : Nat} {R : List Value} (h : Gr cs N w v n R) {w1 w' : World} {g cp : Nat} {x : Cg} {gv : Value} (hx : x = cgOf n (cfgP cs n)) (hlt : ∀ j, v.ownBlock = some j → j < w.heap.size)
    (hg : Il w1 gv x.gs) (hf : Fr w.heap.size gv) (hN : N ≤ w.heap.size) (hb : Below w.heap.size w w1) (hgr : w1.grownBy w' v.ownBlock) (hown : w'.ownsRow N 50 6 (.slice (some ⟨g, 0, none⟩) (n + 1) cp) (n + 1) (R ++ (cgv x gv).toList)) (hat : v.ownBlock = some g ∨ g = w1.heap.size) :
    Gr cs N w' (.slice (some ⟨g, 0, none⟩) (n + 1) cp) (n + 1) (R ++ (cgv x gv).toList) := by
  have ho : some g = v.ownBlock ∨ ∃ g', some g = some g' ∧ w1.heap.size ≤ g' := by
    rcases hat with h | h
    · exact .inl h.symm
    · exact .inr ⟨g, rfl, by omega⟩
  have hR : R.length = n * 6 := h.own.1
  refine ⟨hown, fun i hi => ?_⟩
  by_cases h1 : i < n
  · obtain ⟨gv', h2, h3⟩ := h.row i h1
    have h4 : Gk N w1 v.ownBlock gv' (cgOf i (cfgP cs i)).gs := h2.grow (fun k hk _ => hb.block k hk) hb.size (.inl rfl)
    refine ⟨gv', h4.grow (ob' := some g) (fun k hk he => hgr.block k hk he) hgr.size ho, fun k u hu => ?_⟩
    have hk : k < 6 := by have := (Array.getElem?_eq_some_iff.1 hu).1; simpa using this
    rw [List.getElem?_append_left (by omega)]
    exact h3 k u hu
  · have : i = n := by omega
    subst this
    have h4 : Gk N w1 v.ownBlock gv x.gs := Gk.of hg hf hN hlt
    refine ⟨gv, ?_, fun k u hu => ?_⟩
    · rw [← hx]
      exact h4.grow (ob' := some g) (fun k hk he => hgr.block k hk he) hgr.size ho
    · rw [← hx] at hu
      rw [List.getElem?_append_right (by omega), hR, show i * 6 + k - i * 6 = k by omega, Array.getElem?_toList]
      exact hu
theorem below_grown {N : Nat} {w w1 w7 : World} {ob : Option Nat} (h : Below N w w1) (hg : w1.grownBy w7 ob) (ho : ∀ j, ob = some j → N ≤ j) (hs : N ≤ w1.heap.size) : Below N w w7 :=
  ⟨hg.os.trans h.os, hg.tape.trans h.tape, hg.output.trans h.output, Nat.le_trans h.size hg.size, fun k hk => (hg.block k (by omega) (fun e => by have := ho k e.symm; omega)).trans (h.block k hk)⟩
set_option maxRecDepth 20000 in
set_option maxHeartbeats 400000 in
theorem all_any (B base : Nat) (v : Value) (lc : List Rc) (w : World) (h : ChAt base w B v lc) (hl : lc.length ≤ 40) :
    Calls Try.prog 27 #[.func (.func 34) #[.pointer (some ⟨B, 0, none⟩)] #[]] w fun e W' => ∃ u, e = .returned u ∧ Cl W' u (allL (cls lc)) ∧ Below w.heap.size w W' := by
  obtain ⟨N, hN⟩ : ∃ N, w.heap.size = N := ⟨_, rfl⟩
  obtain ⟨i0, hi, hz0, hz1, hz2⟩ := info_parts (show (Try.prog.info? 50).map (fun i => (i.zero, i.size, i.bytes)) = some (some (.agg (cf 0 (.slice none 0 0) 0 0 0 0)), 6, 64) by kernel_rfl)
  rw [hN]
  have HC : Hid (∀ W, Below N w W → ChAt base W B v lc) := fun W hW => h.next (by rw [hN]; exact hW)
  have HN : Hid (w.heap.size = N) := hN
  clear h hN
  go_enter Try.func27, Try.ntmps27
  go_wp2_with fail
  go_loopg [3] (lc.length + 1) (fun gk j wr => ∃ (n : Nat) (R : List Value), n + gk = lc.length + 1 ∧ Gr (cls lc) N wr j n R ∧ Below N w wr)
  case atStart => exact ⟨0, [], by omega, ⟨World.ownsRow_nil _ _ _ _, fun i hi => by omega⟩, by rw [← HN.out]; exact Below.refl _ _⟩
  case round =>
    obtain ⟨n, R, hnn, hG, hB⟩ := hrel
    obtain ⟨va, vc, rfl⟩ := owns_slice hG.own
    have hNw : N ≤ wr.heap.size := by have := hB.size; have := HN.out; omega
    by_cases h1 : n ≤ lc.length
    · have hG1 := Get_ok n B base v lc wr (HC.out _ hB) (by omega) h1
      obtain ⟨D, hD⟩ : ∃ D, wr.heap.size = D := ⟨_, rfl⟩
      have HG : Hid (Gr (cls lc) N wr (.slice va n vc) n R) := hG
      have HB : Hid (Below N w wr) := hB
      have HD : Hid (wr.heap.size = D ∧ N ≤ D) := ⟨hD, by omega⟩
      clear hG hB hNw HC hD
      go_wp2_with (first
        | (go_at_call 34; refine hG1.mono ?_; clear hG1; rintro e w1 ⟨x, rfl, gv, a, b, c, d, e1, rfl, e3, e4, e5⟩; obtain ⟨ga0, gc0, rfl⟩ := e3.slice; obtain ⟨gl, hgl⟩ : ∃ m, (zi (cfgAt lc n).1).length = m := ⟨_, rfl⟩; obtain ⟨gz, hgz⟩ : ∃ m, zi (cfgAt lc n).1 = m := ⟨_, rfl⟩; rw [hgl] at e3 e4 ⊢; rw [hgz] at e3)
        | (at_builtin; refine wpList_append_lies _ rfl _ _ 22 rfl N 50 i0 (.agg (cf 0 (.slice none 0 0) 0 0 0 0)) 6 64 (by kernel_rfl) hi hz0 hz1 hz2 rfl (by decide) (.slice va n vc) n R rfl (owns_next HG.out.own ((e5.alloc e5.size (.cells (cf n (.slice ga0 gl gc0) a b c d) 50)).alloc (by have := e5.size; simp; omega) (.cells (cf n (.slice ga0 gl gc0) a b c d) 50))) ⟨w1.heap.size + 1, 0, none⟩ 1 1 (cfL n (.slice ga0 gl gc0) a b c d) rfl rfl (World.news_of_block (B := w1.heap.size + 1) (by have := heap_alloc_new (w1.alloc (.cells (cf n (.slice ga0 gl gc0) a b c d) 50)) (.cells (cf n (.slice ga0 gl gc0) a b c d) 50); simp only [World.size_alloc] at this; exact this)) (by simp [Value.oneCell']) (by decide) (by unfold maxLen; omega) (by omega) (by have := e5.size; have := HD.out; simp; omega) _ rfl ?_; intro ga ca w7 hown7 hgrow hat hlt7)
        | fail)
      have hown0 : ∀ j, (Value.slice va n vc).ownBlock = some j → N ≤ j ∧ j < wr.heap.size := HG.out.own.lt
      have hb2 : Below wr.heap.size wr ((w1.alloc (.cells (cf n (.slice ga0 gl gc0) a b c d) 50)).alloc (.cells (cf n (.slice ga0 gl gc0) a b c d) 50)) := (e5.alloc e5.size _).alloc (by have := e5.size; simp; omega) _
      have hBN : Below N w w7 := below_grown (HB.out.trans (hb2.mono (by have := HD.out; omega))) hgrow (fun j hj => (hown0 j hj).1) (by have h1 := hb2.size; have h2 := HD.out; omega)
      rw [cfgAt_cls] at e1 hgz
      have hcg : (⟨n, gz, a, b, c, d⟩ : Cg) = cgOf n (cfgP (cls lc) n) := by rw [cgOf_eq e1, hgz]
      have hGS := HG.out.step (w1 := (w1.alloc (.cells (cf n (.slice ga0 gl gc0) a b c d) 50)).alloc (.cells (cf n (.slice ga0 gl gc0) a b c d) 50)) hcg (fun j hj => (hown0 j hj).2) (e3.below (((Below.refl _ w1).alloc (Nat.le_refl _) (.cells (cf n (.slice ga0 gl gc0) a b c d) 50)).alloc (by simp) (.cells (cf n (.slice ga0 gl gc0) a b c d) 50)) (Nat.le_refl _)) e4 (by have := HD.out; omega) hb2 hgrow hown7 hat
      go_roundg (lc.length + 1 - (n + 1))
      case measure => omega
      case rel => exact ⟨n + 1, _, by omega, hGS, hBN⟩
    · have : n = lc.length + 1 := by omega
      subst this
      have hG1 := Get_no ((lc.length + 1 : Nat) : Int) B base v lc wr (HC.out _ hB) (by simp [wi]; omega)
      have HG : Hid (Gr (cls lc) N wr (.slice va (lc.length + 1) vc) (lc.length + 1) R) := hG
      have HB : Hid (Below N w wr) := hB
      clear hG hB HC
      go_wp2_with (first
        | (go_at_call 34; refine hG1.mono ?_; clear hG1; rintro e w1 ⟨rfl, e5⟩)
        | fail)
      have hcl : Cl wr (.slice va (lc.length + 1) vc) (allL (cls lc)) := Gr.cl (by rw [cls_len]; exact HG.out)
      refine bodyPost_ret (v := .slice va (lc.length + 1) vc) (by simp [results, Try.f27, go_sem]) rfl ⟨_, rfl, hcl.on (e5.alloc e5.size _) (Nat.le_refl _), ?_⟩
      exact HB.out.trans ((e5.alloc e5.size _).mono hNw)
end Go.Proofs.Ytcehmaegnfelhaa
