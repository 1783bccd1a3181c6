/- The law BatchSteps, walked. -/
import Derived.Test.YtbibfhhnnjojnaaBtV
import Derived.Deep.CutBlock
namespace Go.Proofs.Ytbibfhhnnjojnaa
open Go.RowKit
attribute [local go_sem ↓] Go.wp_at_zero Go.wp_at_succ

/-- Both pools, side by side, above all that was there. -/
structure Tw (w : World) (B : Nat) (v : Value) (l : List Rq) (D : Nat → Int) (R : Nat) (vl vd : Value) (F : List Rq) (wr : World) : Prop where
  pool : PoolAt w.heap.size wr B v l D
  ref : RefAt w.heap.size wr R vl vd l F
  dis : ∀ k, fpP B v k → ¬ fpR R vl vd k
  inv : Inv l D
  lnk : Lk F D
  bel : Below w.heap.size w wr
theorem Tw.len {w wr : World} {B R : Nat} {v vl vd : Value} {l F : List Rq} {D : Nat → Int} (h : Tw w B v l D R vl vd F wr) : l.length ≤ 1000 := Nat.le_trans h.inv.len (by decide)
theorem Tw.next {w wr wr' : World} {B R : Nat} {v vl vd : Value} {l F : List Rq} {D : Nat → Int} (h : Tw w B v l D R vl vd F wr) (hb : Below wr.heap.size wr wr') : Tw w B v l D R vl vd F wr' :=
  ⟨h.pool.next hb, h.ref.next hb, h.dis, h.inv, h.lnk, h.bel.trans (hb.mono h.bel.size)⟩
/-- The program's pool has moved. -/
structure Hf (w : World) (B : Nat) (v : Value) (l1 : List Rq) (D1 : Nat → Int) (R : Nat) (vl vd : Value) (l F : List Rq) (wr : World) : Prop where
  pool : PoolAt w.heap.size wr B v l1 D1
  ref : RefAt w.heap.size wr R vl vd l F
  dis : ∀ k, fpP B v k → ¬ fpR R vl vd k
  bel : Below w.heap.size w wr
theorem Tw.half {w wr wr' : World} {B R : Nat} {v v' vl vd : Value} {l l1 F : List Rq} {D D1 : Nat → Int} (h : Tw w B v l D R vl vd F wr) (hm : Moved B v v' wr wr') (hp : PoolAt w.heap.size wr' B v' l1 D1) : Hf w B v' l1 D1 R vl vd l F wr' := by
  have hm2 := hm.mvd
  refine ⟨hp, h.ref.keep (fun k hk => hm2.block k (h.ref.fp hk).2 (fun e => h.dis k e hk)), fun k h1 h2 => ?_, h.bel.trans (h.pool.bel hm (Nat.le_refl _))⟩
  rcases hm2.own k h1 with e | e
  · exact h.dis k e h2
  · have := (h.ref.fp h2).2; omega
theorem Hf.next {w wr wr' : World} {B R : Nat} {v vl vd : Value} {l l1 F : List Rq} {D1 : Nat → Int} (h : Hf w B v l1 D1 R vl vd l F wr) (hb : Below wr.heap.size wr wr') : Hf w B v l1 D1 R vl vd l F wr' :=
  ⟨h.pool.next hb, h.ref.next hb, h.dis, h.bel.trans (hb.mono h.bel.size)⟩
theorem Hf.both {w wr wr' : World} {B R : Nat} {v vl vd vl' vd' : Value} {l l1 F F1 : List Rq} {D1 : Nat → Int} (h : Hf w B v l1 D1 R vl vd l F wr) (hm : Mvd (fpR R vl vd) (fpR R vl' vd') wr wr') (hr : RefAt w.heap.size wr' R vl' vd' l1 F1) (hi : Inv l1 D1) (hk : Lk F1 D1) : Tw w B v l1 D1 R vl' vd' F1 wr' := by
  refine ⟨h.pool.keep (hm.block B h.pool.lt (fun e => h.dis B (.inl rfl) e)) (fun k hk => hm.block k (h.pool.own.lt k hk).2 (fun e => h.dis k (.inr hk) e)), hr, fun k h1 h2 => ?_, hi, hk, h.bel.trans (hm.below h.bel.size (fun k hk => (h.ref.fp hk).1))⟩
  rcases hm.own k h2 with e | e
  · exact h.dis k h1 e
  · have := (h.pool.fp h1).2; omega
/-- A block beside both. -/
theorem Tw.far {w wr : World} {B R : Nat} {v vl vd : Value} {l F : List Rq} {D : Nat → Int} (h : Tw w B v l D R vl vd F wr) : B ≠ wr.heap.size ∧ v.ownBlock ≠ some wr.heap.size ∧ ¬ fpR R vl vd wr.heap.size := by
  refine ⟨Nat.ne_of_lt h.pool.lt, fun e => ?_, fun e => ?_⟩
  · have := (h.pool.own.lt _ e).2; omega
  · have := (h.ref.fp e).2; omega
theorem any_take2 {l : List Rq} {k : Nat} {a : Rq} (h : l[k]? = some a) (p : Rq → Bool) : (l.take (k + 1)).any p = ((l.take k).any p || p a) := by
  rw [take_snoc h, List.any_append]; simp
theorem Try.info29 : (Try.prog.info? 29).map (fun i => (i.zero, i.size, i.bytes)) = some (some (.agg #[.slice none 0 0, .slice none 0 0]), 2, 48) := by kernel_rfl
/-- What is held while both are asked. -/
def Zs (X : Nat) (c n : Int) (R : Nat) (vl : Value) (w' : World) : Prop := w'.cell? ⟨X, 1, none⟩ = some (.int .i64 c) ∧ w'.cell? ⟨X, 2, none⟩ = some (.int .i64 n) ∧ w'.cell? ⟨R, 0, none⟩ = some vl
theorem hold10 {W0 : World} {X R : Nat} {wh c n : Int} {t : Value} {vl vd : Value} (r : W0.heap[X]? = some (.cells #[.int .i64 wh, .int .i64 c, .int .i64 n, t] 33)) (rR : W0.heap[R]? = some (.cells #[vl, vd] 29)) : ∀ W', Below W0.heap.size W0 W' → Zs X c n R vl W' := by
  intro W' h
  have r' := (h.block X (Array.getElem?_eq_some_iff.1 r).1).trans r
  have r2 := (h.block R (Array.getElem?_eq_some_iff.1 rR).1).trans rR
  exact ⟨cellB r' 1 _ rfl, cellB r' 2 _ rfl, cellB r2 0 _ rfl⟩
theorem keepW {k : Nat} {args : Array Value} {v : Value} {W0 : World} (hC : ∀ W, Below W0.heap.size W0 W → Calls Try.prog k args W fun e W' => e = .returned v ∧ Below W.heap.size W W') {Z : World → Prop} (hZ : ∀ W', Below W0.heap.size W0 W' → Z W') :
    ∀ W, Below W0.heap.size W0 W → Calls Try.prog k args W fun e W' => e = .returned v ∧ Below W0.heap.size W0 W' ∧ Z W' := by
  intro W hW
  refine (hC W hW).mono ?_
  rintro e W' ⟨rfl, hb⟩
  have h2 := hW.trans (hb.mono hW.size)
  exact ⟨rfl, h2, hZ W' h2⟩
theorem sameB1 {k : Nat} {args : Array Value} {v : Value} {W : World} (hC : Calls Try.prog k args W fun e W' => e = .returned v ∧ W' = W) : Calls Try.prog k args W fun e W' => e = .returned v ∧ Below W.heap.size W W' :=
  hC.mono fun _ _ h => ⟨h.1, by rw [h.2]; exact Below.refl _ _⟩
set_option maxRecDepth 20000 in
set_option maxHeartbeats 8000000 in
theorem steps_any (l0 : List Stp) (v0 : Value) (w : World) (hl0 : Stl w v0 l0) : Calls Try.prog 3 #[v0] w fun e W' => e = .returned (.bool true) ∧ Below w.heap.size w W' := by
  obtain ⟨a0, c0, rfl⟩ := hl0.slice
  have hN := New_any w w.heap.size (Nat.le_refl _)
  by_cases hbig : 300 < l0.length
  · have hb2 : (300 : Int) < (l0.length : Int) := by omega
    go_enter Try.func3, Try.ntmps3
    go_wp2_with (first
      | (go_at_call 7; refine hN.mono ?_; rintro e w1 ⟨rfl, h0, hB0⟩)
      | (go_at_call 8; refine (one_any _).mono ?_; rintro e w2 ⟨rfl, hb2⟩))
    go_ret
    exact ⟨rfl, hB0.trans (hb2.mono hB0.size)⟩
  · have hb2 : (l0.length : Int) ≤ 300 := by omega
    go_enter Try.func3, Try.ntmps3
    go_upto_region 4 with (first
      | (go_at_call 7; refine hN.mono ?_; rintro e w1 ⟨rfl, h0, hB0⟩))
    obtain ⟨B, hB⟩ : ∃ B, w.heap.size = B := ⟨_, rfl⟩
    rw [show (⟨w.heap.size, 0, none⟩ : Addr) = ⟨B, 0, none⟩ by rw [hB]]
    rw [hB] at h0
    have HB : Hid (_) := hB
    have hba : Below w1.heap.size w1 (w1.alloc (.cells #[.slice none 0 0, .slice none 0 0] 29)) := (Below.refl _ _).alloc (Nat.le_refl _) _
    have hT0 : Tw w B (.slice none 0 0) [] (fun _ => 0) w1.heap.size (.slice none 0 0) (.slice none 0 0) [] (w1.alloc (.cells #[.slice none 0 0, .slice none 0 0] 29)) := by
      refine ⟨?_, ⟨heap_alloc_new _ _, World.ownsRow_nil _ _ _ _, World.ownsRow_nil _ _ _ _, fun e => (by cases e), fun e => (by cases e), fun k e => (by cases e), by rw [hB]; exact Nat.le_of_lt h0.lt⟩, ?_, Inv.new, Lk.new, hB0.trans (hba.mono hB0.size)⟩
      · rw [hB]; exact h0.next hba
      · intro k h1 h2
        rcases h1 with e | e
        · rcases h2 with e2 | e2 | e2
          · have := h0.lt; omega
          · cases e2
          · cases e2
        · cases e
    have HT0 : Hid (_) := hT0
    clear hN h0 hB0 hB hba hT0
    go_wp2_with fail
    have hT0 := HT0.out
    obtain ⟨R, hR⟩ : ∃ R, w1.heap.size = R := ⟨_, rfl⟩
    rw [hR] at hT0 ⊢
    clear HT0 HB
    go_loopg [39] l0.length (fun gk i wr => ∃ (k : Nat) (v : Value) (l : List Rq) (D : Nat → Int) (vl vd : Value) (F : List Rq), k + gk = l0.length ∧ i = .int .i64 k ∧ Tw w B v l D R vl vd F wr ∧ Hid (F.length ≤ k))
    case atStart => exact ⟨0, _, _, _, _, _, [], by omega, rfl, hT0, Nat.le_refl _⟩
    case round =>
      clear hT0
      obtain ⟨k, v, l, D, vl, vd, F, hk, rfl, hT, HF⟩ := hrel
      by_cases hlt : k < l0.length
      · obtain ⟨⟨wh, c, n, t⟩, ha⟩ : ∃ a, l0[k]? = some a := ⟨_, List.getElem?_eq_getElem hlt⟩
        obtain ⟨ab, ao, rfl, hab, x0, x1, x2, x3⟩ := (hl0.below hT.bel (Nat.le_refl _)).at ha
        simp only at x0 x1 x2 x3
        have m0 : (0 : Int) ≤ (k : Int) := by omega
        have m1 : (k : Int) < (l0.length : Int) := by omega
        have hba : Below wr.heap.size wr (wr.alloc (.cells #[.int .i64 wh, .int .i64 c, .int .i64 n, .string (bs t)] 33)) := (Below.refl _ _).alloc (Nat.le_refl _) _
        have rN := heap_alloc_new wr (.cells #[.int .i64 wh, .int .i64 c, .int .i64 n, .string (bs t)] 33)
        have hT1 := hT.next hba
        have hfar := hT.far
        have HX : Hid (_ ∧ _ ∧ _) := ⟨rN, hT1, hfar⟩
        clear ha rN hT1 hba hfar
        go_upto_region 8 with fail
        obtain ⟨rN, hT1, hXB, hXv, hXr⟩ := HX.out
        clear HX hT
        obtain ⟨W1, hW1⟩ : ∃ W, wr.alloc (.cells #[.int .i64 wh, .int .i64 c, .int .i64 n, .string (bs t)] 33) = W := ⟨_, rfl⟩
        obtain ⟨X, hX⟩ : ∃ X, wr.heap.size = X := ⟨_, rfl⟩
        rw [hW1] at rN hT1 ⊢
        rw [hX] at rN hXB hXv hXr ⊢
        have z0 := cellB rN 0 (.int .i64 wh) rfl
        have z1 := cellB rN 1 (.int .i64 c) rfl
        have z2 := cellB rN 2 (.int .i64 n) rfl
        have z3 := cellB rN 3 (.string (bs t)) rfl
        have hXl : X < W1.heap.size := (Array.getElem?_eq_some_iff.1 rN).1
        clear hW1 hX x0 x1 x2 x3
        go_upto_block 2 with fail
        go_cut [45] (fun _ wx => ∃ (v2 : Value) (l2 : List Rq) (D2 : Nat → Int) (vl2 vd2 : Value) (F2 : List Rq), Tw w B v2 l2 D2 R vl2 vd2 F2 wx ∧ wx.heap[X]? = some (.cells #[.int .i64 wh, .int .i64 c, .int .i64 n, .string (bs t)] 33) ∧ Hid (F2.length ≤ k + 1))
        case first =>
          have hwh : wh = 0 ∨ wh = 1 ∨ wh = 2 ∨ wh = 3 ∨ (wh ≠ 0 ∧ wh ≠ 1 ∧ wh ≠ 2 ∧ wh ≠ 3) := by omega
          rcases hwh with rfl | rfl | rfl | rfl | ⟨g0, g1, g2, g3⟩
          · -- 0: a request is added
            obtain ⟨⟨b1, e1, l1⟩, hRr⟩ : ∃ r, addR c n t l D = r := ⟨_, rfl⟩
            have hA := Add_any hT1.pool hT1.len c n t b1 e1 l1 hRr
            have HT1 : Hid (_ ∧ _) := ⟨hT1, hRr⟩
            have HFk := HF.out
            clear hRr hT1
            go_upto_region 12 with (first
              | (go_at_call 9; refine hA.mono ?_; rintro e w2 ⟨rfl, v2, h2, hm2⟩))
            obtain ⟨hT1, hRr⟩ := HT1.out
            have hH2 := hT1.half hm2 h2
            have r2 := hm2.far hXl (fun e => hXB e.symm) hXv rN
            have y1 := cellB r2 1 (.int .i64 c) rfl
            have y2 := cellB r2 2 (.int .i64 n) rfl
            have y3 := cellB r2 3 (.string (bs t)) rfl
            have hRf := ref_any c n t w2
            have HH2 : Hid (_ ∧ _) := ⟨hH2, r2⟩
            have HI := hT1.inv
            have HL := hT1.lnk
            have HG : Hid (∀ W, Hf w B v2 l1 D R vl vd l F W → Calls Try.prog 10 #[.pointer (some ⟨R, 0, none⟩), .agg #[.int .i64 c, .int .i64 n, .string (bs t)]] W fun e W' => e = .returned (.tuple #[.bool b1, .int .i64 e1]) ∧ ∃ vl', RefAt w.heap.size W' R vl' vd l1 F ∧ Mvd (fpR R vl vd) (fpR R vl' vd) W W') := fun W hW => rAdd_all hW.ref HI HL (by omega) c n t b1 e1 l1 hRr
            have HI2 : Hid (Inv l1 D ∧ Lk F D) := ⟨HI.add hRr, HL⟩
            clear hA HT1 hT1 hRr h2 hm2 hH2 r2 HI HL z0 z1 z2 z3 rN
            go_wp2_with (first
              | (go_at_call 11; refine hRf.mono ?_; rintro e w3 ⟨rfl, hb3⟩)
              | (go_at_call 10; refine (HG.out _ (HH2.out.1.next hb3)).mono ?_; rintro e w4 ⟨rfl, vl2, h4, hm4⟩))
            have hH3 := HH2.out.1.next hb3
            have r3 := (hb3.block X (Array.getElem?_eq_some_iff.1 HH2.out.2).1).trans HH2.out.2
            have hT9 := hH3.both hm4 h4 HI2.out.1 HI2.out.2
            have r9 := (hm4.block X (Array.getElem?_eq_some_iff.1 r3).1 hXr).trans r3
            have HF9 : Hid (F.length ≤ k + 1) := Nat.le_succ_of_le HFk
            go_meet
            case rel => exact ⟨_, _, _, _, _, _, hT9, r9, HF9⟩
          · -- 1: a request is added
            obtain ⟨⟨b1, e1, l1⟩, hRr⟩ : ∃ r, addR c n t l D = r := ⟨_, rfl⟩
            have hA := Add_any hT1.pool hT1.len c n t b1 e1 l1 hRr
            have HT1 : Hid (_ ∧ _) := ⟨hT1, hRr⟩
            have HFk := HF.out
            clear hRr hT1
            go_upto_region 12 with (first
              | (go_at_call 9; refine hA.mono ?_; rintro e w2 ⟨rfl, v2, h2, hm2⟩))
            obtain ⟨hT1, hRr⟩ := HT1.out
            have hH2 := hT1.half hm2 h2
            have r2 := hm2.far hXl (fun e => hXB e.symm) hXv rN
            have y1 := cellB r2 1 (.int .i64 c) rfl
            have y2 := cellB r2 2 (.int .i64 n) rfl
            have y3 := cellB r2 3 (.string (bs t)) rfl
            have hRf := ref_any c n t w2
            have HH2 : Hid (_ ∧ _) := ⟨hH2, r2⟩
            have HI := hT1.inv
            have HL := hT1.lnk
            have HG : Hid (∀ W, Hf w B v2 l1 D R vl vd l F W → Calls Try.prog 10 #[.pointer (some ⟨R, 0, none⟩), .agg #[.int .i64 c, .int .i64 n, .string (bs t)]] W fun e W' => e = .returned (.tuple #[.bool b1, .int .i64 e1]) ∧ ∃ vl', RefAt w.heap.size W' R vl' vd l1 F ∧ Mvd (fpR R vl vd) (fpR R vl' vd) W W') := fun W hW => rAdd_all hW.ref HI HL (by omega) c n t b1 e1 l1 hRr
            have HI2 : Hid (Inv l1 D ∧ Lk F D) := ⟨HI.add hRr, HL⟩
            clear hA HT1 hT1 hRr h2 hm2 hH2 r2 HI HL z0 z1 z2 z3 rN
            go_wp2_with (first
              | (go_at_call 11; refine hRf.mono ?_; rintro e w3 ⟨rfl, hb3⟩)
              | (go_at_call 10; refine (HG.out _ (HH2.out.1.next hb3)).mono ?_; rintro e w4 ⟨rfl, vl2, h4, hm4⟩))
            have hH3 := HH2.out.1.next hb3
            have r3 := (hb3.block X (Array.getElem?_eq_some_iff.1 HH2.out.2).1).trans HH2.out.2
            have hT9 := hH3.both hm4 h4 HI2.out.1 HI2.out.2
            have r9 := (hm4.block X (Array.getElem?_eq_some_iff.1 r3).1 hXr).trans r3
            have HF9 : Hid (F.length ≤ k + 1) := Nat.le_succ_of_le HFk
            go_meet
            case rel => exact ⟨_, _, _, _, _, _, hT9, r9, HF9⟩
          · -- a request is done
            obtain ⟨⟨b1, e1, l1, D1⟩, hRr⟩ : ∃ r, doneR c n l D = r := ⟨_, rfl⟩
            have hA := Done_all hT1.pool hT1.len c n b1 e1 l1 D1 hRr
            have HT1 : Hid (_ ∧ _) := ⟨hT1, hRr⟩
            have HFk := HF.out
            clear hRr hT1
            go_upto_region 17 with (first
              | (go_at_call 12; refine hA.mono ?_; rintro e w2 ⟨rfl, v2, h2, hm2⟩))
            obtain ⟨hT1, hRr⟩ := HT1.out
            have hH2 := hT1.half hm2 h2
            have r2 := hm2.far hXl (fun e => hXB e.symm) hXv rN
            have y1 := cellB r2 1 (.int .i64 c) rfl
            have y2 := cellB r2 2 (.int .i64 n) rfl
            have HH2 : Hid (_ ∧ _) := ⟨hH2, r2⟩
            have HI := hT1.inv
            have HL := hT1.lnk
            have hG := rFinish_all hH2.ref HI HL (by omega) c n b1 e1 l1 D1 hRr
            have HI2 : Hid (Inv l1 D1) := HI.done hRr
            clear hA HT1 hT1 hRr h2 hm2 hH2 r2 HI HL z0 z1 z2 z3 rN
            go_wp2_with (first
              | (go_at_call 13; refine hG.mono ?_; rintro e w4 ⟨rfl, vl2, vd2, F2, h4, hm4, hk4, hF4⟩))
            have hT9 := HH2.out.1.both hm4 h4 HI2.out hk4
            have r9 := (hm4.block X (Array.getElem?_eq_some_iff.1 HH2.out.2).1 hXr).trans HH2.out.2
            have HF9 : Hid (F2.length ≤ k + 1) := by show _ ≤ _; omega
            go_meet
            case rel => exact ⟨_, _, _, _, _, _, hT9, r9, HF9⟩
          · -- a request is forgotten
            obtain ⟨⟨b1, e1, l1⟩, hRr⟩ : ∃ r, forR c n l = r := ⟨_, rfl⟩
            have hA := Forget_all hT1.pool hT1.len c n b1 e1 l1 hRr
            have HT1 : Hid (_ ∧ _) := ⟨hT1, hRr⟩
            have HFk := HF.out
            clear hRr hT1
            go_upto_region 22 with (first
              | (go_at_call 14; refine hA.mono ?_; rintro e w2 ⟨rfl, v2, h2, hm2⟩))
            obtain ⟨hT1, hRr⟩ := HT1.out
            have hH2 := hT1.half hm2 h2
            have r2 := hm2.far hXl (fun e => hXB e.symm) hXv rN
            have y1 := cellB r2 1 (.int .i64 c) rfl
            have y2 := cellB r2 2 (.int .i64 n) rfl
            have HH2 : Hid (_ ∧ _) := ⟨hH2, r2⟩
            have HI := hT1.inv
            have HL := hT1.lnk
            have hG := rForget_all hH2.ref HI c n b1 e1 l1 hRr
            have HI2 : Hid (Inv l1 D ∧ Lk F D) := ⟨HI.forget hRr, HL⟩
            clear hA HT1 hT1 hRr h2 hm2 hH2 r2 HI HL z0 z1 z2 z3 rN
            go_wp2_with (first
              | (go_at_call 15; refine hG.mono ?_; rintro e w4 ⟨rfl, vl2, h4, hm4⟩))
            have hT9 := HH2.out.1.both hm4 h4 HI2.out.1 HI2.out.2
            have r9 := (hm4.block X (Array.getElem?_eq_some_iff.1 HH2.out.2).1 hXr).trans HH2.out.2
            have HF9 : Hid (F.length ≤ k + 1) := Nat.le_succ_of_le HFk
            go_meet
            case rel => exact ⟨_, _, _, _, _, _, hT9, r9, HF9⟩
          · -- nothing is done
            have HFk := HF.out
            have w0 : (wh == 0) = false := by simp [g0]
            have w1' : (wh == 1) = false := by simp [g1]
            have w2' : (wh == 2) = false := by simp [g2]
            have w3' : (wh == 3) = false := by simp [g3]
            have HT1 : Hid (_ ∧ _) := ⟨hT1, rN⟩
            clear hT1 rN g0 g1 g2 g3
            go_wp2_with fail
            obtain ⟨hT9, r9⟩ := HT1.out
            have HF9 : Hid (F.length ≤ k + 1) := Nat.le_succ_of_le HFk
            go_meet
            case rel => exact ⟨_, _, _, _, _, _, hT9, r9, HF9⟩
        case rest =>
          rename World => W9
          clear hT1 rN z0 z1 z2 z3 HF hXr hXv hXB hXl
          obtain ⟨v2, l2, D2, vl2, vd2, F2, hT9, r9, HF9⟩ := hcut
          -- what both say then
          obtain ⟨la, lc, rfl⟩ := owns_slice hT9.ref.own
          have d0 := cellB hT9.ref.blk 0 (.slice la l2.length lc) rfl
          have HT9 : Hid (_ ∧ _) := ⟨hT9, r9⟩
          clear hT9 r9
          go_wp2_with fail
          go_loopg [19, 140] l2.length (fun gj b p wj => ∃ q : Nat, q + gj = l2.length ∧ p = .int .i64 q ∧ b = .bool ((l2.take q).any (exP c n)) ∧ Below W9.heap.size W9 wj)
          case atStart => exact ⟨0, by omega, rfl, by simp, Below.refl _ _⟩
          case round =>
            rename World => wj
            obtain ⟨q, hq, rfl, rfl, hBq⟩ := hrel
            have rr := (hBq.block X (Array.getElem?_eq_some_iff.1 HT9.out.2).1).trans HT9.out.2
            by_cases hqt : q < l2.length
            · obtain ⟨⟨c5, n5, t5⟩, hx⟩ : ∃ a, l2[q]? = some a := ⟨_, List.getElem?_eq_getElem hqt⟩
              obtain ⟨gb, gc, hgv, hg1, hg2, y0, y1, y2⟩ := row_at (owns_next HT9.out.1.ref.own hBq) hx
              injection hgv with f1 _ f2
              subst f1 f2
              simp only at y0 y1 y2
              have q0 : (0 : Int) ≤ (q : Int) := by omega
              have q1 : (q : Int) < (l2.length : Int) := by omega
              have q2 : (q : Int) ≤ 1000 := by have := HT9.out.1.len; omega
              have hba : Below wj.heap.size wj (wj.alloc (.cells #[.int .i64 c5, .int .i64 n5, .string (bs t5)] 39)) := (Below.refl _ _).alloc (Nat.le_refl _) _
              have rN := heap_alloc_new wj (.cells #[.int .i64 c5, .int .i64 n5, .string (bs t5)] 39)
              have rr1 := (hba.block X (Array.getElem?_eq_some_iff.1 rr).1).trans rr
              have hB1 := hBq.trans (hba.mono hBq.size)
              have HBN : Hid (_ ∧ _ ∧ _) := ⟨rN, rr1, hB1⟩
              have HS : Hid ((l2.take (q + 1)).any (exP c n) = ((l2.take q).any (exP c n) || exP c n (c5, n5, t5))) := any_take2 hx _
              have hcs : (c5 = c ∧ n5 = n ∧ exP c n (c5, n5, t5) = true) ∨ ((c5 == c) = false ∧ exP c n (c5, n5, t5) = false) ∨ (c5 = c ∧ (n5 == n) = false ∧ exP c n (c5, n5, t5) = false) := by
                by_cases e1 : c5 = c
                · by_cases e2 : n5 = n
                  · left; exact ⟨e1, e2, by simp [exP, e1, e2]⟩
                  · right; right; exact ⟨e1, by simp [e2], by simp [exP, e2]⟩
                · right; left; exact ⟨by simp [e1], by simp [exP, e1]⟩
              obtain ⟨I, hI⟩ : ∃ I, (l2.take q).any (exP c n) = I := ⟨_, rfl⟩
              rw [hI] at HS ⊢
              clear rN rr1 hB1 hba hx hg1 rr hI
              go_upto_region 29 with fail
              obtain ⟨rN, rr1, hB1⟩ := HBN.out
              obtain ⟨WA, hWA⟩ : ∃ W, wj.alloc (.cells #[.int .i64 c5, .int .i64 n5, .string (bs t5)] 39) = W := ⟨_, rfl⟩
              obtain ⟨Y, hY⟩ : ∃ Y, wj.heap.size = Y := ⟨_, rfl⟩
              rw [hWA] at rN rr1 hB1 ⊢
              rw [hY] at rN ⊢
              have g0 := cellB rN 0 (.int .i64 c5) rfl
              have g1 := cellB rN 1 (.int .i64 n5) rfl
              have g3 := cellB rr1 1 (.int .i64 c) rfl
              have g4 := cellB rr1 2 (.int .i64 n) rfl
              clear hWA hY rN rr1 HBN y0 y1 y2
              cases I
              · rcases hcs with ⟨e1, e2, e3⟩ | ⟨e1, e3⟩ | ⟨e1, e2, e3⟩
                · have HS2 : Hid ((l2.take (q + 1)).any (exP c n) = true) := by show _ = _; rw [HS.out, e3]; simp
                  subst e1 e2
                  clear e3 HS
                  go_wp2
                  go_roundg (l2.length - (q + 1))
                  case measure => omega
                  case rel => exact ⟨q + 1, by omega, by go_num, by rw [HS2.out], hB1⟩
                · have HS2 : Hid ((l2.take (q + 1)).any (exP c n) = false) := by show _ = _; rw [HS.out, e3]; simp
                  clear e3 HS
                  go_wp2
                  go_roundg (l2.length - (q + 1))
                  case measure => omega
                  case rel => exact ⟨q + 1, by omega, by go_num, by rw [HS2.out], hB1⟩
                · have HS2 : Hid ((l2.take (q + 1)).any (exP c n) = false) := by show _ = _; rw [HS.out, e3]; simp
                  subst e1
                  clear e3 HS
                  go_wp2
                  go_roundg (l2.length - (q + 1))
                  case measure => omega
                  case rel => exact ⟨q + 1, by omega, by go_num, by rw [HS2.out], hB1⟩
              · have HS2 : Hid ((l2.take (q + 1)).any (exP c n) = true) := by show _ = _; rw [HS.out]; simp
                clear HS hcs
                go_wp2
                go_roundg (l2.length - (q + 1))
                case measure => omega
                case rel => exact ⟨q + 1, by omega, by go_num, by rw [HS2.out], hB1⟩
            · have hql : q = l2.length := by omega
              subst hql
              have hT10 := HT9.out.1.next hBq
              have hl24 := hT10.len
              rw [List.take_length, ← hitB_any]
              have hZ := hold10 rr hT10.ref.blk
              have gL := keepW (W0 := wj) (fun W hW => sameB1 (Len_any (hT10.next hW).pool)) hZ
              have gH := keepW (W0 := wj) (fun W hW => Has_any (hT10.next hW).pool hl24 c n) hZ
              have gA := keepW (W0 := wj) (fun W hW => sameB1 (Last_any (hT10.next hW).pool c)) hZ
              have gB := keepW (W0 := wj) (fun W hW => rLast_any (hT10.next hW).ref (by have := HF9.out; omega) c) hZ
              rw [hT10.lnk.last c] at gB
              have gT : ∀ W, Below wj.heap.size wj W → Calls Try.prog 18 #[.pointer (some ⟨B, 0, none⟩)] W fun e W' => (∃ u, e = .returned u ∧ W'.ownsRow W.heap.size 31 3 u (takeGo 4 0 l2).length (rcs (takeGo 4 0 l2))) ∧ Below wj.heap.size wj W' ∧ Zs X c n R (.slice la l2.length lc) W' := fun W hW => (Take_any (hT10.next hW).pool hl24 hT10.inv.txt).mono (fun e W' h => ⟨h.1, hW.trans (h.2.mono hW.size), hZ _ (hW.trans (h.2.mono hW.size))⟩)
              have gR : ∀ W, Below wj.heap.size wj W → Calls Try.prog 19 #[.pointer (some ⟨R, 0, none⟩)] W fun e W' => (∃ u, e = .returned u ∧ W'.ownsRow W.heap.size 39 3 u (takeGo 4 0 l2).length (rcs (takeGo 4 0 l2))) ∧ Below wj.heap.size wj W' ∧ Zs X c n R (.slice la l2.length lc) W' ∧ Below W.heap.size W W' := fun W hW => (rTake_any (hT10.next hW).ref hl24 hT10.inv.txt).mono (fun e W' h => ⟨h.1, hW.trans (h.2.mono hW.size), hZ _ (hW.trans (h.2.mono hW.size)), h.2⟩)
              have ht4 := take_len 4 0 l2
              obtain ⟨T, hTe⟩ : ∃ T, takeGo 4 0 l2 = T := ⟨_, rfl⟩
              obtain ⟨H, hH⟩ : ∃ H, hitB (exP c n) l2 = H := ⟨_, rfl⟩
              obtain ⟨LV, hLV⟩ : ∃ L, lastV D2 c = L := ⟨_, rfl⟩
              rw [hTe] at gT gR ht4
              rw [hH] at gH ⊢
              rw [hLV] at gA gB
              have gS : ∀ W (u v : Value) (b1 b2 : Nat), Below wj.heap.size wj W → W.ownsRow b1 31 3 u T.length (rcs T) → W.ownsRow b2 39 3 v T.length (rcs T) → Calls Try.prog 17 #[u, v] W fun e W' => e = .returned (.bool true) ∧ Below wj.heap.size wj W' ∧ Zs X c n R (.slice la l2.length lc) W' := fun W u v b1 b2 hW hu hv => (same_any hu hv (by omega)).mono (fun e W' h => ⟨h.1, hW.trans (h.2.mono hW.size), hZ _ (hW.trans (h.2.mono hW.size))⟩)
              obtain ⟨s1, s2, s3⟩ := hZ _ (Below.refl _ _)
              have hRf := Below.refl wj.heap.size wj
              have HT10 : Hid (_) := hT10
              clear hTe hH hLV hZ rr hT10
              go_upto_region 31 with fail
              go_region_held3 (fun w' => w'.cell? ⟨X, 1, none⟩ = some (.int .i64 c) ∧ w'.cell? ⟨X, 2, none⟩ = some (.int .i64 n) ∧ w'.cell? ⟨R, 0, none⟩ = some (.slice la l2.length lc)) (go_keep)
                (first
                  | (go_at_call 16; refine (gL _ (by first | assumption | exact below_drew (by assumption))).mono ?_; rintro e w11 ⟨rfl, hb11, p1, p2, p3⟩)
                  | (go_at_call 18; refine (gT _ (by first | assumption | exact below_drew (by assumption))).mono ?_; rintro e w12 ⟨⟨u12, rfl, ho12⟩, hb12, p1, p2, p3⟩)
                  | (go_at_call 19; refine (gR w12 hb12).mono ?_; rintro e w13 ⟨⟨u13, rfl, ho13⟩, hb13, ⟨p1, p2, p3⟩, hbx13⟩)
                  | (go_at_call 17; refine (gS w13 _ _ _ _ hb13 (owns_next ho12 hbx13) ho13).mono ?_; rintro e w14 ⟨rfl, hb14, p1, p2, p3⟩)
                  | (go_at_call 20; refine (gH _ (by first | assumption | exact below_drew (by assumption))).mono ?_; rintro e w15 ⟨rfl, hb15, p1, p2, p3⟩)
                  | (go_at_call 21; refine (gA _ (by first | assumption | exact below_drew (by assumption))).mono ?_; rintro e w16 ⟨rfl, hb16, p1, p2, p3⟩)
                  | (go_at_call 22; refine (gB _ (by first | assumption | exact below_drew (by assumption))).mono ?_; rintro e w17 ⟨rfl, hb17, p1, p2, p3⟩))
              all_goals
                go_wp2
                go_roundg (l0.length - (k + 1))
                case measure => omega
                case rel => exact ⟨k + 1, v2, l2, D2, _, vd2, F2, by omega, by go_num, HT10.out.next hb17, HF9⟩
      · have hkl : k = l0.length := by omega
        subst hkl
        go_wp2_with (first
          | (go_at_call 8; refine (one_any _).mono ?_; rintro e w2 ⟨rfl, hb2⟩))
        go_ret
        exact ⟨rfl, hT.bel.trans (hb2.mono hT.bel.size)⟩
end Go.Proofs.Ytbibfhhnnjojnaa
