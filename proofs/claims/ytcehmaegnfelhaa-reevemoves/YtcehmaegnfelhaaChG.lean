/- Chains: even, walked. -/
import Derived.Test.YtcehmaegnfelhaaChF
namespace Go.Proofs.Ytcehmaegnfelhaa
open Go.RowKit
attribute [local go_sem ↓] Go.wp_at_zero Go.wp_at_succ

/-- A world behind W0: all that stood there stands there. -/
structure Cw (W0 : World) where
  w : World
  h : Below W0.heap.size W0 w
theorem wp_region_grow {P : Program} {id : Nat} {Q : Exit → Act → World → Prop} {a : Act} {w W0 : World} {l : List Oper} (hm : P.follows .mixedOrders = true) (hB : Region.lexB .any l.toArray = true) (hw : Below W0.heap.size W0 w)
    (h : wpQuiet P l.toArray (fun w' => ∃ x : Cw W0, w' = x.w) (fun a' => ∀ w', (∃ x : Cw W0, w' = x.w) → Q .normal a' w') l a) : (Code.region id l.toArray true).wp P Q a w :=
  wp_region_quiet (C := fun w' => ∃ x : Cw W0, w' = x.w) hm hB ⟨⟨_, below_drew hw⟩, rfl⟩ (by simpa using h)
theorem growC {k : Nat} {args : Array Value} {v : Value} {W0 : World} (hC : ∀ W, Below W0.heap.size W0 W → Calls Try.prog k args W fun e W' => e = .returned v ∧ Below W.heap.size W W') (x : Cw W0) :
    Calls Try.prog k args x.w fun e w'' => e = .returned v ∧ ∃ y : Cw W0, w'' = y.w := by
  refine (hC x.w x.h).mono ?_
  rintro e W' ⟨rfl, hb⟩
  exact ⟨rfl, ⟨W', x.h.trans (hb.mono x.h.size)⟩, rfl⟩
/-- Shards go from group to group till none has two more: in fewer than n rounds. -/
def evS : Nat → List Nat → List Nat → Option (List Nat)
  | 0, _, _ => none
  | n + 1, gs, o => if cnt o (manyF (cnt o) gs) < cnt o (fewF (cnt o) gs) + 2 then some o else evS n gs (o.set (o.idxOf (manyF (cnt o) gs)) (fewF (cnt o) gs))
theorem cnt_mem (l : List Nat) (g : Nat) : 0 < cnt l g → g ∈ l := by
  have : ∀ (l : List Nat) (n : Nat), g ∉ l → l.foldl (fun n x => if x == g then n + 1 else n) n = n := by
    intro l
    induction l with
    | nil => intro n _; rfl
    | cons a r ih =>
      intro n h
      simp at h
      rw [List.foldl_cons, ih _ h.2, if_neg (by simp; exact fun e => h.1 e.symm)]
  intro h
  apply Decidable.byContradiction
  intro hn
  have := this l 0 hn
  unfold cnt at h
  omega
theorem idxI_idxOf (l : List Nat) (g : Nat) (h : g ∈ l) : idxI (zi l) (g : Int) = (l.idxOf g : Nat) ∧ l.idxOf g < l.length := by
  induction l with
  | nil => cases h
  | cons a r ih =>
    show idxI ((a : Int) :: zi r) g = _ ∧ _
    unfold idxI
    by_cases e : g = a
    · subst e
      rw [if_pos rfl]
      simp
    · have e2 : (g : Int) ≠ a := by omega
      have e3 : (a == g) = false := by simp; exact fun h => e h.symm
      rw [if_neg e2]
      obtain ⟨i1, i2⟩ := ih (by simp at h; rcases h with h | h; exact absurd h e; exact h)
      rw [i1, if_neg (by omega), List.idxOf_cons, e3]
      refine ⟨by simp, by simp; exact i2⟩
set_option maxRecDepth 20000 in
set_option maxHeartbeats 8000000 in
theorem even_any (gs o R : List Nat) (n : Nat) (hR : evS n gs o = some R) (hl : 0 < gs.length) (hl2 : gs.length ≤ 1000) (hg : ∀ x ∈ gs, x ≤ 4) (h1 : o.length = 4) (h2 : ∀ x ∈ o, x ≤ 4) (gv : Value) (w : World) (hu : Il w gv (zi gs)) :
    Calls Try.prog 45 #[gv, .agg (owL o).toArray] w fun e W' => e = .returned (.agg (owL R).toArray) ∧ Below w.heap.size w W' := by
  obtain ⟨W0, hW0⟩ : ∃ W, (w.alloc (.cells (owL o).toArray 48)).alloc (.cells (owL [0, 0, 0, 0]).toArray 48) = W := ⟨_, rfl⟩
  have hb0 : Below w.heap.size w W0 := by
    rw [← hW0]
    exact ((Below.refl _ w).alloc (Nat.le_refl _) _).alloc (by simp) _
  have r0 : W0.heap[w.heap.size]? = some (.cells (owL o).toArray 48) := by
    rw [← hW0]
    exact (Below.heap_alloc _ _ _ (by simp)).trans (heap_alloc_new _ _)
  have r1 : W0.heap[w.heap.size + 1]? = some (.cells (owL [0, 0, 0, 0]).toArray 48) := by
    rw [← hW0]
    have := heap_alloc_new (w.alloc (.cells (owL o).toArray 48)) (.cells (owL [0, 0, 0, 0]).toArray 48)
    rwa [show (w.alloc (.cells (owL o).toArray 48)).heap.size = w.heap.size + 1 by simp] at this
  have HV : Hid ((w.alloc (.cells (owL o).toArray 48)).alloc (.cells (owL [0, 0, 0, 0]).toArray 48) = W0) := hW0
  have HR0 : Hid (W0.heap[w.heap.size]? = some (.cells (owL o).toArray 48)) := r0
  have HR1 : Hid (W0.heap[w.heap.size + 1]? = some (.cells (owL [0, 0, 0, 0]).toArray 48)) := r1
  have Hg : Hid (∀ x ∈ gs, x ≤ 4) := hg
  have Hu : Hid (Il w gv (zi gs)) := hu
  have HX : Hid (evS n gs o = some R ∧ o.length = 4 ∧ ∀ x ∈ o, x ≤ 4) := ⟨hR, h1, h2⟩
  obtain ⟨pa, pc, hpv⟩ := hu.slice
  rw [zi_len] at hpv
  obtain ⟨oc, hoc⟩ : ∃ oc, (owL o).toArray = oc := ⟨_, rfl⟩
  have HOC : Hid ((owL o).toArray = oc) := hoc
  rw [hoc] at HV HR0 ⊢
  clear hW0 r0 r1 hg h1 h2 hu hoc hR
  subst hpv
  go_enter Try.func45, Try.ntmps45
  go_upto_region 1 with fail
  rw [zero_ow, HV.out]
  clear HV
  go_loopg [] n (fun gk wr => ∃ cur : List Nat, (evS gk gs cur = some R ∧ cur.length = 4 ∧ ∀ x ∈ cur, x ≤ 4) ∧ Below w.heap.size w wr ∧ wr.heap[w.heap.size]? = some (.cells (owL cur).toArray 48) ∧ wr.heap[w.heap.size + 1]? = some (.cells (owL [0, 0, 0, 0]).toArray 48))
  case atStart => exact ⟨o, HX.out, hb0, by rw [HR0.out, ← HOC.out], HR1.out⟩
  case round =>
    obtain ⟨cur, ⟨hev, n4, n5⟩, hB, q0, q1⟩ := hrel
    clear HR0 HR1 hb0 HX HOC
    cases gk with
    | zero => cases hev
    | succ g =>
      obtain ⟨f, hf⟩ : ∃ f, cnt cur = f := ⟨_, rfl⟩
      have hN := count_list cur n4 n5 wr
      obtain ⟨a, ha⟩ : ∃ a, manyF f gs = a := ⟨_, rfl⟩
      obtain ⟨b, hb⟩ : ∃ b, fewF f gs = b := ⟨_, rfl⟩
      have a4 : a ≤ 4 := by rw [← ha]; exact Hg.out _ (manyF_mem _ _ hl)
      have b4 : b ≤ 4 := by rw [← hb]; exact Hg.out _ (fewF_mem _ _ hl)
      have fb4 : f b ≤ 4 := by rw [← hf]; exact Nat.le_trans (cnt_le _ _) (by omega)
      have fa4 : f a ≤ 4 := by rw [← hf]; exact Nat.le_trans (cnt_le _ _) (by omega)
      have hev2 : (if f a < f b + 2 then some cur else evS g gs (cur.set (cur.idxOf a) b)) = some R := by
        unfold evS at hev
        rw [hf, ha, hb] at hev
        exact hev
      have hmem : ¬ f a < f b + 2 → idxI (zi cur) (a : Int) = (cur.idxOf a : Nat) ∧ cur.idxOf a < cur.length := fun h => idxI_idxOf cur a (cnt_mem cur a (by rw [hf]; omega))
      have HM : Hid (¬ f a < f b + 2 → idxI (zi cur) (a : Int) = (cur.idxOf a : Nat) ∧ cur.idxOf a < cur.length) := hmem
      have HE2 : Hid ((if f a < f b + 2 then some cur else evS g gs (cur.set (cur.idxOf a) b)) = some R) := hev2
      rw [hf] at hN
      have hu1 := Hu.out.next hB
      have hMo := fun W (h : Below wr.heap.size wr W) => most_any f gs Hg.out hl hl2 (.slice pa gs.length pc) W (hu1.next h)
      have hFe := fun W (h : Below wr.heap.size wr W) => fewest_any f gs Hg.out hl hl2 (.slice pa gs.length pc) W (hu1.next h)
      rw [ha] at hMo
      rw [hb] at hFe
      have szw : w.heap.size + 1 < wr.heap.size := (Array.getElem?_eq_some_iff.1 q1).1
      have HB3 : Hid (∀ W, Below wr.heap.size wr W → W.heap[w.heap.size]? = some (.cells (owL cur).toArray 48)) := fun W h => (h.block _ (by omega)).trans q0
      have HB4 : Hid (∀ W, Below wr.heap.size wr W → W.heap[w.heap.size + 1]? = some (.cells (owL [0, 0, 0, 0]).toArray 48)) := fun W h => (h.block _ (by omega)).trans q1
      have K1 : Hid (wr.rangeAt w.heap.size 0 (owL cur)) := blk_range q0
      have S4 : Hid ((Try.prog.info? 48).map (·.size) = some (owL cur).length) := by show _ = _; rw [owL_len, n4]; exact Try.size48
      have N45 : Hid (cur.length = 4 ∧ ∀ x ∈ cur, x ≤ 4) := ⟨n4, n5⟩
      obtain ⟨cv, hcv⟩ : ∃ cv, (owL cur).toArray = cv := ⟨_, rfl⟩
      rw [hcv] at hN
      have HCV : Hid ((owL cur).toArray = cv) := hcv
      clear hev hev2 hmem n4 n5 q0 q1 hf ha hb hcv hu1
      go_upto_region 2 with (first
        | (refine wpList_load_mid rfl 48 _ rfl w.heap.size 0 rfl (owL cur) _ K1.out Try.underlying48 rfl S4.out ?_; rw [HCV.out])
        | (go_at_call 52; refine hN.mono ?_; rintro e w2 ⟨rfl, hb2⟩)
        | (refine wpList_store_mid rfl 91 _ _ rfl w2.heap.size 0 (lds f) rfl rfl (blk_there (heap_alloc_new w2 _) 0 5 (Nat.le_refl _)) Try.size91 (ones_lds f) ?_))
      have hb3 : Below wr.heap.size wr ((w2.alloc (.cells (lds (cnt [])) 91)).setCells w2.heap.size 0 (lds f).toList) := blk_below hb2.size _ _ _ (hb2.alloc hb2.size _)
      have r5 := blk_set (heap_alloc_new w2 (.cells (lds (cnt [])) 91)) (L := (lds f).toList) rfl
      rw [zero_lds]
      obtain ⟨W2, hW2⟩ : ∃ W, (w2.alloc (.cells (lds (cnt [])) 91)).setCells w2.heap.size 0 (lds f).toList = W := ⟨_, rfl⟩
      rw [hW2] at hb3 r5 ⊢
      obtain ⟨B5, hB5⟩ : ∃ B, w2.heap.size = B := ⟨_, rfl⟩
      rw [hB5] at r5 ⊢
      have H5 : Hid (∀ W, Below W2.heap.size W2 W → W.heap[B5]? = some (.cells (lds f) 91)) := fun W h => (h.block _ (Array.getElem?_eq_some_iff.1 r5).1).trans r5
      have gM := fun x : Cw W2 => growC (W0 := W2) (fun W h => hMo W (hb3.trans (h.mono hb3.size))) x
      have gF := fun x : Cw W2 => growC (W0 := W2) (fun W h => hFe W (hb3.trans (h.mono hb3.size))) x
      have g0 : ∀ x : Cw W2, x.w.cell? ⟨B5, 0, none⟩ = some (.int .i64 (f 0)) := fun x => cellB (H5.out _ x.h) 0 _ rfl
      have g1 : ∀ x : Cw W2, x.w.cell? ⟨B5, 1, none⟩ = some (.int .i64 (f 1)) := fun x => cellB (H5.out _ x.h) 1 _ rfl
      have g2 : ∀ x : Cw W2, x.w.cell? ⟨B5, 2, none⟩ = some (.int .i64 (f 2)) := fun x => cellB (H5.out _ x.h) 2 _ rfl
      have g3 : ∀ x : Cw W2, x.w.cell? ⟨B5, 3, none⟩ = some (.int .i64 (f 3)) := fun x => cellB (H5.out _ x.h) 3 _ rfl
      have g4 : ∀ x : Cw W2, x.w.cell? ⟨B5, 4, none⟩ = some (.int .i64 (f 4)) := fun x => cellB (H5.out _ x.h) 4 _ rfl
      have hne : Nonempty (Cw W2) := ⟨⟨W2, Below.refl _ _⟩⟩
      clear r5 hW2 hB5 hMo hFe hN
      refine wp_region_grow (W0 := W2) (by kernel_rfl) (by kernel_rfl) (Below.refl _ _) ?_
      repeat (quiet_step (first
        | (go_at_call 53; exact gM _)
        | (go_at_call 54; exact gF _)))
      refine wpQuiet_nil ?_
      rintro _ ⟨xx, rfl⟩
      clear g0 g1 g2 g3 g4 gM gF
      have x1 := cellB (H5.out _ xx.h) a _ (lds_at f a a4)
      have x2 := cellB (H5.out _ xx.h) b _ (lds_at f b b4)
      have a5 : a < 5 := by omega
      have b5 : b < 5 := by omega
      obtain ⟨q, hq⟩ : ∃ q : Int, (f b : Int) + 2 = q := ⟨_, rfl⟩
      have e1 : IntKind.i64.wrap ((f b : Int) + 2) = q := by rw [hq]; simp [IntKind.wrap, IntKind.bits, IntKind.signed]; omega
      have hbx : Below wr.heap.size wr xx.w := hb3.trans (xx.h.mono hb3.size)
      have HBX : Hid (Below wr.heap.size wr xx.w) := hbx
      by_cases hc : f a < f b + 2
      · have hd : decide ((f a : Int) < q) = true := by simp; omega
        have HCR : Hid (cur = R) := by have := HE2.out; rw [if_pos hc] at this; exact Option.some.inj this
        clear hc hbx
        go_upto_region 3 with fail
        go_quiet (fail)
        have hbq := below_drewN HBX.out nq
        obtain ⟨WQ, hWQ⟩ : ∃ W, xx.w.drewN nq = W := ⟨_, rfl⟩
        rw [hWQ] at hbq ⊢
        have q0 := HB3.out _ hbq
        have q1 := HB4.out _ hbq
        have hB9 := hB.trans (hbq.mono hB.size)
        have n4 := N45.out.1
        have K1 : Hid (WQ.rangeAt w.heap.size 0 (owL cur)) := blk_range q0
        have S5 : Hid ((Try.prog.info? 48).map (·.size) = some (owL cur).toArray.size) := by show _ = _; rw [List.size_toArray]; exact S4.out
        have K2 : Hid (WQ.there (w.heap.size + 1) 0 (owL cur).toArray.size) := by show World.there _ _ _ _; rw [show (owL cur).toArray.size = 4 by rw [List.size_toArray, owL_len, n4]]; exact blk_there q1 0 4 (Nat.le_refl _)
        have K3 : Hid (Below w.heap.size w (WQ.setCells (w.heap.size + 1) 0 (owL cur).toArray.toList)) := blk_below (by omega) _ _ _ hB9
        have K4 : Hid ((WQ.setCells (w.heap.size + 1) 0 (owL cur).toArray.toList).rangeAt (w.heap.size + 1) 0 (owL cur)) := blk_range (blk_set q1 (L := (owL cur)) (by rw [owL_len, n4]; rfl))
        have L4 : Hid ((owL cur).length = 4) := by show _ = _; rw [owL_len, n4]
        clear q0 q1 n4 hWQ hbq hB9 x1 x2
        go_wp2_with (first
          | (refine wpList_load_mid rfl 48 _ rfl w.heap.size 0 rfl (owL cur) _ K1.out Try.underlying48 rfl S4.out ?_)
          | (refine wpList_store_mid rfl 48 _ _ rfl (w.heap.size + 1) 0 (owL cur).toArray rfl rfl K2.out S5.out (owL_ones cur) ?_))
        exact bodyPost_ret (v := .agg (owL cur).toArray) (results_one rfl rfl (res23 K4.out L4.out)) rfl ⟨by rw [HCR.out], K3.out⟩
      · have hd : decide ((f a : Int) < q) = false := by simp; omega
        have HCR : Hid (evS g gs (cur.set (cur.idxOf a) b) = some R) := by have := HE2.out; rw [if_neg hc] at this; exact this
        clear hbx
        go_upto_region 3 with fail
        go_quiet (fail)
        have hbq := below_drewN HBX.out nq
        obtain ⟨WQ, hWQ⟩ : ∃ W, xx.w.drewN nq = W := ⟨_, rfl⟩
        rw [hWQ] at hbq ⊢
        have q0 := HB3.out _ hbq
        have q1 := HB4.out _ hbq
        have hB9 := hB.trans (hbq.mono hB.size)
        obtain ⟨n4, n5⟩ := N45.out
        obtain ⟨m1, m2⟩ := HM.out hc
        have hil : Il WQ (.slice (some ⟨w.heap.size, 0, none⟩) 4 4) (zi cur) := by
          refine .inr ⟨w.heap.size, 0, 4, by rw [zi_len, n4], (Array.getElem?_eq_some_iff.1 q0).1, fun i t ht => ?_⟩
          rw [Nat.zero_add]
          obtain ⟨t', ht', rfl⟩ : ∃ t' : Nat, cur[i]? = some t' ∧ (t' : Int) = t := by
            unfold zi at ht
            rw [List.getElem?_map] at ht
            cases h9 : cur[i]? with
            | none => rw [h9] at ht; cases ht
            | some t' => rw [h9] at ht; exact ⟨t', rfl, Option.some.inj ht⟩
          exact cellB q0 i _ (by rw [List.getElem?_toArray]; exact owL_at cur i t' ht')
        have hI := Index_any (zi cur) a _ WQ hil (by rw [zi_len]; omega)
        rw [m1] at hI
        obtain ⟨i, hi⟩ : ∃ i, cur.idxOf a = i := ⟨_, rfl⟩
        rw [hi] at hI m2 HCR
        have i4 : i < 4 := by omega
        have i0 : (0 : Int) ≤ (i : Int) := by omega
        have i1 : (i : Int) < 4 := by omega
        obtain ⟨t, ht⟩ : ∃ t, cur[i]? = some t := ⟨_, List.getElem?_eq_getElem (by omega)⟩
        have z1 := cellB q0 i _ (by rw [List.getElem?_toArray]; exact owL_at cur i t ht)
        have z2 := frozenB q0 i
        have HSet : Hid ((owL cur).toArray.setIfInBounds i (.int .i64 (b : Int)) = (owL (cur.set i b)).toArray) := by
          show _ = _
          rw [← owL_set]; simp
        have HF : Hid ((cur.set i b).length = 4 ∧ ∀ x ∈ cur.set i b, x ≤ 4) := by
          refine ⟨by simp [n4], fun x hx => ?_⟩
          rcases List.mem_or_eq_of_mem_set hx with h | h
          · exact n5 x h
          · omega
        have Q0 : Hid (WQ.heap[w.heap.size]? = some (.cells (owL cur).toArray 48)) := q0
        have Q1 : Hid (WQ.heap[w.heap.size + 1]? = some (.cells (owL [0, 0, 0, 0]).toArray 48)) := q1
        clear q0 q1 n4 n5 hWQ hbq x1 x2 m1 m2 hil ht hi hc
        go_wp2_with (first
          | (go_at_call 47; refine hI.mono ?_; rintro e w4 ⟨rfl, h9⟩; subst w4))
        go_roundg g
        case measure => omega
        case rel =>
          refine ⟨cur.set i b, ⟨HCR.out, HF.out⟩, hB9.setCell (Nat.le_refl _) _, ?_, (set_far (by omega) _ _).trans Q1.out⟩
          rw [← HSet.out]
          exact setB Q0.out i _
end Go.Proofs.Ytcehmaegnfelhaa
