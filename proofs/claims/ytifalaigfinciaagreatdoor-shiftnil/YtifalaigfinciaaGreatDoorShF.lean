/- A number's batch of all best orders. -/
import Derived.Test.YtifalaigfinciaaGreatDoorShE
namespace Go.Proofs.YtifalaigfinciaaGreatDoor
open Go.RowKit Go.Shelf
attribute [local go_sem] Oper.semAt_some

def ocells : Option Bv → Array Value
  | none => #[.int .i64 0, .int .i64 0, .string ⟨#[]⟩, .int .i64 0, .slice none 0 0]
  | some x => #[.int .i64 x.n, .int .i64 x.v, .string (bs x.t), .int .i64 x.g, .slice x.ta x.tn x.tc]
theorem pick_snoc (n : Int) (l : List Bv) (x : Bv) : pick n none (l ++ [x]) = pick1 n (pick n none l) x := by simp [pick]
theorem ocells_text (o : Option Bv) : (ocells o)[2]? = some (.string (bs (btxt o))) := by cases o <;> rfl
theorem blk_own {β : Type} (B : Nat) (t : TypeId) (f : β → Array Value) : Own (fun (s : β) W => W.heap[B]? = some (.cells (f s) t)) := fun s X Y row hs hg hrow => cells_own (β := Unit) B (f s) t () X Y row hs hg hrow
theorem blk_set_other {W : World} {B B' : Nat} {o : Option Obj} (h : W.heap[B]? = o) (hne : B ≠ B') (j : Nat) (u : Value) : (W.setCell ⟨B', j, none⟩ u).heap[B]? = o := (set_far hne j u).trans h

theorem size_own {β : Type} (k : Nat) : Own (fun (_ : β) W => k ≤ W.heap.size) := fun _ _ _ _ hs hg _ => Nat.le_trans hs hg.size
theorem put5_keeps (W : World) (B : Nat) (a b c d e : Value) : KeepsOthers W (put5 W B a b c d e) :=
  ((((KeepsOthers.setCell W ⟨B, 0, none⟩ a).trans (KeepsOthers.setCell _ ⟨B, 1, none⟩ b)).trans (KeepsOthers.setCell _ ⟨B, 2, none⟩ c)).trans (KeepsOthers.setCell _ ⟨B, 3, none⟩ d)).trans (KeepsOthers.setCell _ ⟨B, 4, none⟩ e)
theorem put5_far {W : World} {B B' : Nat} {o : Option Obj} (h : W.heap[B]? = o) (hne : B ≠ B') (a b c d e : Value) : (put5 W B' a b c d e).heap[B]? = o :=
  blk_set_other (blk_set_other (blk_set_other (blk_set_other (blk_set_other h hne 0 a) hne 1 b) hne 2 c) hne 3 d) hne 4 e
theorem put5_size (W : World) (B : Nat) (a b c d e : Value) : (put5 W B a b c d e).heap.size = W.heap.size := by simp [put5, World.setCell]
/-- What lies where the best one of a number is kept, once another is laid there. -/
theorem put_best {W : World} {Q : Nat} {m : Int} {w : World} {x : Bv} {o : Option Bv} (hb0 : Boxed W Q 3 (.int .i64 m)) (hb1 : W.heap[Q + 1]? = some (.cells (ocells o) 34)) (hb2 : Boxed W (Q + 1 + 1) 4 (.bool o.isSome)) (hBw : Below Q w W) :
    KeepsOthers W ((put5 W (Q + 1) (.int .i64 x.n) (.int .i64 x.v) (.string (bs x.t)) (.int .i64 x.g) (.slice x.ta x.tn x.tc)).setCell ⟨Q + 1 + 1, 0, none⟩ (.bool true)) ∧
    Below Q W ((put5 W (Q + 1) (.int .i64 x.n) (.int .i64 x.v) (.string (bs x.t)) (.int .i64 x.g) (.slice x.ta x.tn x.tc)).setCell ⟨Q + 1 + 1, 0, none⟩ (.bool true)) ∧
    Boxed ((put5 W (Q + 1) (.int .i64 x.n) (.int .i64 x.v) (.string (bs x.t)) (.int .i64 x.g) (.slice x.ta x.tn x.tc)).setCell ⟨Q + 1 + 1, 0, none⟩ (.bool true)) Q 3 (.int .i64 m) ∧
    ((put5 W (Q + 1) (.int .i64 x.n) (.int .i64 x.v) (.string (bs x.t)) (.int .i64 x.g) (.slice x.ta x.tn x.tc)).setCell ⟨Q + 1 + 1, 0, none⟩ (.bool true)).heap[Q + 1]? = some (.cells (ocells (some x)) 34) ∧
    Boxed ((put5 W (Q + 1) (.int .i64 x.n) (.int .i64 x.v) (.string (bs x.t)) (.int .i64 x.g) (.slice x.ta x.tn x.tc)).setCell ⟨Q + 1 + 1, 0, none⟩ (.bool true)) (Q + 1 + 1) 4 (.bool true) ∧
    Below Q w ((put5 W (Q + 1) (.int .i64 x.n) (.int .i64 x.v) (.string (bs x.t)) (.int .i64 x.g) (.slice x.ta x.tn x.tc)).setCell ⟨Q + 1 + 1, 0, none⟩ (.bool true)) := by
  have hb : Below Q W ((put5 W (Q + 1) (.int .i64 x.n) (.int .i64 x.v) (.string (bs x.t)) (.int .i64 x.g) (.slice x.ta x.tn x.tc)).setCell ⟨Q + 1 + 1, 0, none⟩ (.bool true)) := (put5_below (Below.refl Q W) (by omega) _ _ _ _ _).setCell (p := ⟨Q + 1 + 1, 0, none⟩) (by show Q ≤ Q + 1 + 1; omega) _
  refine ⟨(put5_keeps _ _ _ _ _ _ _).trans (KeepsOthers.setCell _ _ _), hb, blk_set_other (put5_far hb0 (by omega) _ _ _ _ _) (by omega) _ _, blk_set_other ?_ (by omega) _ _, ?_, hBw.trans hb⟩
  · cases o with
    | none => exact put5_blk hb1 _ _ _ _ _
    | some y => exact put5_blk hb1 _ _ _ _ _
  · have h2 : (put5 W (Q + 1) (.int .i64 x.n) (.int .i64 x.v) (.string (bs x.t)) (.int .i64 x.g) (.slice x.ta x.tn x.tc)).heap[Q + 1 + 1]? = some (.cells #[.bool o.isSome] 4) := put5_far hb2 (by omega) _ _ _ _ _
    exact setB h2 0 _

set_option maxRecDepth 100000 in
set_option maxHeartbeats 2000000 in
theorem batchOf_any (L : List Cv) (v : Value) (m : Int) (w : World) (hL : L.length ≤ 1000) (hbl : ∀ c ∈ L, c.bl.length ≤ 1000) (he : Env w) (hv : Cl w.heap.size w v L) :
    Calls Tryz.prog 16 #[v, .int .i64 m] w fun e W' => e = .returned (.string (bs (batchL L m))) ∧ Below w.heap.size w W' := by
  obtain ⟨va, vc, rfl⟩ := hv.slice
  refine (callsIn_wide (n := 4)).1 ?_
  obtain ⟨n, hn⟩ : ∃ n, n = 4 := ⟨_, rfl⟩
  rw [← hn]
  have h1 : 1 ≤ n := by omega
  refine callsIn_of_wp_marks Tryz.func16 rfl trivial ?_ rfl
  simp only [Tryz.ntmps16, List.size_toArray, List.length_cons, List.length_nil, Nat.reduceAdd, Nat.reduceSub, Array.replicate_succ, Array.replicate_zero, List.push_toArray, List.append_toArray, List.nil_append, List.cons_append]
  gi_wp2
  refine ⟨trivial, (callsIn_wide.2 (bests_any _ _ _ _ rfl _)).mono ?_⟩
  rintro e w' ⟨rfl, rfl⟩
  gi_wp2
  obtain ⟨Q, hQ⟩ : ∃ Q, w.heap.size = Q := ⟨_, rfl⟩
  have hB0 : Below Q w ((((w.alloc (.cells #[.int .i64 m] 3)).alloc (.cells #[.int .i64 0, .int .i64 0, .string ⟨#[]⟩, .int .i64 0, .slice none 0 0] 34)).alloc (.cells #[.bool false] 4)).alloc (.cells #[.slice va L.length vc] 40)) := by
    rw [← hQ]
    exact ((((Below.refl _ w).alloc (Nat.le_refl _) _).alloc (by simp) _).alloc (by simp; omega) _).alloc (by simp; omega) _
  have b0 : Boxed ((((w.alloc (.cells #[.int .i64 m] 3)).alloc (.cells #[.int .i64 0, .int .i64 0, .string ⟨#[]⟩, .int .i64 0, .slice none 0 0] 34)).alloc (.cells #[.bool false] 4)).alloc (.cells #[.slice va L.length vc] 40)) Q 3 (.int .i64 m) := by
    rw [← hQ]
    exact (((Boxed.new w 3 (.int .i64 m)).alloc _).alloc _).alloc _
  have b1 : ((((w.alloc (.cells #[.int .i64 m] 3)).alloc (.cells #[.int .i64 0, .int .i64 0, .string ⟨#[]⟩, .int .i64 0, .slice none 0 0] 34)).alloc (.cells #[.bool false] 4)).alloc (.cells #[.slice va L.length vc] 40)).heap[Q + 1]? = some (.cells (ocells none) 34) := by
    have h0 := heap_alloc_new (w.alloc (.cells #[.int .i64 m] 3)) (.cells #[.int .i64 0, .int .i64 0, .string ⟨#[]⟩, .int .i64 0, .slice none 0 0] 34)
    rw [World.size_alloc, hQ] at h0
    exact (Below.heap_alloc _ _ _ (by simp; omega)).trans ((Below.heap_alloc _ _ _ (by simp; omega)).trans h0)
  have b2 : Boxed ((((w.alloc (.cells #[.int .i64 m] 3)).alloc (.cells #[.int .i64 0, .int .i64 0, .string ⟨#[]⟩, .int .i64 0, .slice none 0 0] 34)).alloc (.cells #[.bool false] 4)).alloc (.cells #[.slice va L.length vc] 40)) (Q + 1 + 1) 4 (.bool false) := by
    have h0 := (Boxed.new ((w.alloc (.cells #[.int .i64 m] 3)).alloc (.cells #[.int .i64 0, .int .i64 0, .string ⟨#[]⟩, .int .i64 0, .slice none 0 0] 34)) 4 (.bool false)).alloc (.cells #[.slice va L.length vc] 40)
    simp only [World.size_alloc, hQ] at h0
    exact h0
  have b3 : Boxed ((((w.alloc (.cells #[.int .i64 m] 3)).alloc (.cells #[.int .i64 0, .int .i64 0, .string ⟨#[]⟩, .int .i64 0, .slice none 0 0] 34)).alloc (.cells #[.bool false] 4)).alloc (.cells #[.slice va L.length vc] 40)) (Q + 1 + 1 + 1) 40 (.slice va L.length vc) := by
    have h0 := Boxed.new (((w.alloc (.cells #[.int .i64 m] 3)).alloc (.cells #[.int .i64 0, .int .i64 0, .string ⟨#[]⟩, .int .i64 0, .slice none 0 0] 34)).alloc (.cells #[.bool false] 4)) 40 (.slice va L.length vc)
    simp only [World.size_alloc, hQ] at h0
    exact h0
  have hWs : ((((w.alloc (.cells #[.int .i64 m] 3)).alloc (.cells #[.int .i64 0, .int .i64 0, .string ⟨#[]⟩, .int .i64 0, .slice none 0 0] 34)).alloc (.cells #[.bool false] 4)).alloc (.cells #[.slice va L.length vc] 40)).heap.size = Q + 4 := by simp [hQ]
  rw [hQ] at hv
  rw [hQ]
  obtain ⟨W0, hW0⟩ : ∃ W0, ((((w.alloc (.cells #[.int .i64 m] 3)).alloc (.cells #[.int .i64 0, .int .i64 0, .string ⟨#[]⟩, .int .i64 0, .slice none 0 0] 34)).alloc (.cells #[.bool false] 4)).alloc (.cells #[.slice va L.length vc] 40)) = W0 := ⟨_, rfl⟩
  rw [hW0] at hB0 b0 b1 b2 b3 hWs ⊢
  clear hW0
  refine wpIn_rangeFunc_ownH rfl h1 (gf := 37) (lb := #[.pointer (some ⟨Q + 1 + 1 + 1, 0, none⟩)]) rfl trivial (enters_of Tryz.func37 (by kernel_rfl) rfl)
    (bests_stops (n - 1) (by omega) (Q + 1 + 1 + 1) Q L _ hL hbl _ (by omega) (by omega) b3.cell (hv.below hB0 (Nat.le_refl _))) belowK_t (belowK_b (by omega)) (Below.refl _ _) (fun _ => rfl)
    (fun pre W => (Boxed W Q 3 (.int .i64 m) ∧ (W.heap[Q + 1]? = some (.cells (ocells (pick m none pre)) 34) ∧ Boxed W (Q + 1 + 1) 4 (.bool (pick m none pre).isSome))) ∧ (Below Q w W ∧ Q + 4 ≤ W.heap.size))
    (fun _ _ _ => False)
    (OwnFrom.and (OwnFrom.and (Own.from (boxed_own _ _ _) _) (OwnFrom.and (Own.from (blk_own _ _ _) _) (Own.from (boxed_own _ _ _) _))) (OwnFrom.and (ownFrom_below (by omega) (by omega)) (Own.from (size_own _) _)))
    (fun _ => ownFrom_pure _ _)
    ⟨⟨b0, b1, b2⟩, hB0, by omega⟩
    (fun x a' W => ∃ Bx, Q + 4 ≤ Bx ∧ W.heap[Bx]? = some (.cells #[.int .i64 x.n, .int .i64 x.v, .string (bs x.t), .int .i64 x.g, .slice x.ta x.tn x.tc] 34) ∧ a' = { tmps := #[.slice va L.length vc, .int .i64 m, undef, .pointer (some ⟨Q, 0, none⟩), .string ⟨#[]⟩, .pointer (some ⟨Q + 1, 0, none⟩), .pointer (some ⟨Q + 1 + 1, 0, none⟩), .pointer (some ⟨Bx, 0, none⟩), undef, undef, .slice va L.length vc, .func (.func 37) #[] #[.pointer (some ⟨Q + 1 + 1 + 1, 0, none⟩)], .agg #[.int .i64 x.n, .int .i64 x.v, .string (bs x.t), .int .i64 x.g, .slice x.ta x.tn x.tc], undef, undef, undef, undef, undef, undef, undef, undef, undef, undef, undef, undef, undef, undef, undef, undef, undef, undef, undef, undef, undef, undef, undef, undef, undef], defers := [] })
    (fun x a' s X Y row hs hg hr => by
      obtain ⟨Bx, h0, h1, h2⟩ := hs
      exact ⟨Bx, h0, (Own.from (cells_own (β := Unit) Bx _ _) _) () X Y row h1 hg hr, h2⟩)
    ?assign ?body ?done ?stop
  case assign =>
    rintro l pre x W K ⟨⟨hb0, hb1, hb2⟩, hBw, hsz⟩ hK
    have hba := (Below.refl W.heap.size W).alloc (Nat.le_refl _) (.cells #[.int .i64 x.n, .int .i64 x.v, .string (bs x.t), .int .i64 x.g, .slice x.ta x.tn x.tc] 34)
    have hQW : Q ≤ W.heap.size := by have := (Array.getElem?_eq_some_iff.1 hb1).1; omega
    gi_wp2
    exact hK _ _ (keepsFrom_below hba) (hba.mono hQW) ⟨⟨hb0.alloc _, (Below.heap_alloc _ _ _ (Array.getElem?_eq_some_iff.1 hb1).1).trans hb1, hb2.alloc _⟩, hBw.alloc hQW _, by simp; omega⟩ ⟨W.heap.size, hsz, heap_alloc_new _ _, rfl⟩
  case body =>
    rintro l pre x a' W hl - ⟨⟨hb0, hb1, hb2⟩, hBw, hsz⟩ ⟨Bx, hQx, hBx, rfl⟩ hlt
    have hc0 := hb0.cell
    have hc2 := hb2.cell
    have hf2 := hb2.frozen
    have x0 := cellB hBx 0 _ rfl
    have x1 := cellB hBx 1 _ rfl
    have x2 := cellB hBx 2 _ rfl
    have x3 := cellB hBx 3 _ rfl
    have x4 := cellB hBx 4 _ rfl
    obtain ⟨o, ho⟩ : ∃ o, pick m none pre = o := ⟨_, rfl⟩
    rw [ho] at hb1 hb2 hc2
    have hno : pickI m o x = false → pick m none (pre ++ [x]) = o := fun h => by rw [pick_snoc, ho, pick1, h]; rfl
    have hyes : pickI m o x = true → pick m none (pre ++ [x]) = some x := fun h => by rw [pick_snoc, ho, pick1, h]; rfl
    have stay : pickI m o x = false → KeepsFrom W0.heap.size W W ∧ Below Q W W ∧ ((Boxed W Q 3 (.int .i64 m) ∧ (W.heap[Q + 1]? = some (.cells (ocells (pick m none (pre ++ [x]))) 34) ∧ Boxed W (Q + 1 + 1) 4 (.bool (pick m none (pre ++ [x])).isSome))) ∧ (Below Q w W ∧ Q + 4 ≤ W.heap.size)) := fun h => by
      rw [hno h]
      exact ⟨KeepsFrom.refl _ _, Below.refl _ _, ⟨hb0, hb1, hb2⟩, hBw, hsz⟩
    have go : pickI m o x = true → KeepsFrom W0.heap.size W ((put5 W (Q + 1) (.int .i64 x.n) (.int .i64 x.v) (.string (bs x.t)) (.int .i64 x.g) (.slice x.ta x.tn x.tc)).setCell ⟨Q + 1 + 1, 0, none⟩ (.bool true)) ∧ Below Q W ((put5 W (Q + 1) (.int .i64 x.n) (.int .i64 x.v) (.string (bs x.t)) (.int .i64 x.g) (.slice x.ta x.tn x.tc)).setCell ⟨Q + 1 + 1, 0, none⟩ (.bool true)) ∧ ((Boxed ((put5 W (Q + 1) (.int .i64 x.n) (.int .i64 x.v) (.string (bs x.t)) (.int .i64 x.g) (.slice x.ta x.tn x.tc)).setCell ⟨Q + 1 + 1, 0, none⟩ (.bool true)) Q 3 (.int .i64 m) ∧ (((put5 W (Q + 1) (.int .i64 x.n) (.int .i64 x.v) (.string (bs x.t)) (.int .i64 x.g) (.slice x.ta x.tn x.tc)).setCell ⟨Q + 1 + 1, 0, none⟩ (.bool true)).heap[Q + 1]? = some (.cells (ocells (pick m none (pre ++ [x]))) 34) ∧ Boxed ((put5 W (Q + 1) (.int .i64 x.n) (.int .i64 x.v) (.string (bs x.t)) (.int .i64 x.g) (.slice x.ta x.tn x.tc)).setCell ⟨Q + 1 + 1, 0, none⟩ (.bool true)) (Q + 1 + 1) 4 (.bool (pick m none (pre ++ [x])).isSome))) ∧ (Below Q w ((put5 W (Q + 1) (.int .i64 x.n) (.int .i64 x.v) (.string (bs x.t)) (.int .i64 x.g) (.slice x.ta x.tn x.tc)).setCell ⟨Q + 1 + 1, 0, none⟩ (.bool true)) ∧ Q + 4 ≤ ((put5 W (Q + 1) (.int .i64 x.n) (.int .i64 x.v) (.string (bs x.t)) (.int .i64 x.g) (.slice x.ta x.tn x.tc)).setCell ⟨Q + 1 + 1, 0, none⟩ (.bool true)).heap.size)) := fun h => by
      rw [hyes h]
      obtain ⟨p1, p2, p3, p4, p5, p6⟩ := put_best (x := x) hb0 hb1 hb2 hBw
      exact ⟨p1.from _, p2, ⟨p3, p4, p5⟩, p6, Nat.le_trans hsz p2.size⟩
    have HG : Hid (_) := go
    have HS : Hid (_) := stay
    have f0 := frozenB hb1 0
    have f1 := frozenB hb1 1
    have f2 := frozenB hb1 2
    have f3 := frozenB hb1 3
    have f4 := frozenB hb1 4
    by_cases hxm : x.n = m
    · have q0 : (x.n == m) = true := by simpa using hxm
      cases o with
      | none =>
        have s0 : W.cell? ⟨Q + 1, 0, none⟩ = some (.int .i64 0) := cellB hb1 0 _ rfl
        have s1 : W.cell? ⟨Q + 1, 1, none⟩ = some (.int .i64 0) := cellB hb1 1 _ rfl
        have s2 : W.cell? ⟨Q + 1, 2, none⟩ = some (.string ⟨#[]⟩) := cellB hb1 2 _ rfl
        have s3 : W.cell? ⟨Q + 1, 3, none⟩ = some (.int .i64 0) := cellB hb1 3 _ rfl
        have s4 : W.cell? ⟨Q + 1, 4, none⟩ = some (.slice none 0 0) := cellB hb1 4 _ rfl
        clear go stay hno hyes hb1
        gi_wp2
        have h := HG.out (by simp [pickI, hxm])
        unfold put5 at h
        rw [hxm] at h
        exact h
      | some y =>
        have s0 : W.cell? ⟨Q + 1, 0, none⟩ = some (.int .i64 y.n) := cellB hb1 0 _ rfl
        have s1 : W.cell? ⟨Q + 1, 1, none⟩ = some (.int .i64 y.v) := cellB hb1 1 _ rfl
        have s2 : W.cell? ⟨Q + 1, 2, none⟩ = some (.string (bs y.t)) := cellB hb1 2 _ rfl
        have s3 : W.cell? ⟨Q + 1, 3, none⟩ = some (.int .i64 y.g) := cellB hb1 3 _ rfl
        have s4 : W.cell? ⟨Q + 1, 4, none⟩ = some (.slice y.ta y.tn y.tc) := cellB hb1 4 _ rfl
        clear go stay hno hyes hb1
        by_cases hyx : y.v < x.v
        · gi_wp2
          have h := HG.out (by simp [pickI, hxm, hyx])
          unfold put5 at h
          rw [hxm] at h
          exact h
        · have hyx2 : x.v ≤ y.v := by omega
          clear hyx
          gi_wp2
          exact HS.out (by simp [pickI, hyx2])
    · have q0 : (x.n == m) = false := by simpa using hxm
      clear go stay hno hyes
      gi_wp2
      exact HS.out (by simp [pickI, hxm])
  case done =>
    rintro D ys W hD rfl ⟨⟨hb0, hb1, hb2⟩, hBw, hsz⟩ hK
    have hct := cellB hb1 2 _ (ocells_text _)
    have hR := Read_any (btxt (pick m none (allB L))) W (he.next (by rw [hQ]; exact hBw))
    have hbv : batchL L m = (sreadV (btxt (pick m none (allB L)))).2.2.2.2 := rfl
    obtain ⟨⟨RK, RG, RV, RN, RS⟩, hRV⟩ : ∃ y, sreadV (btxt (pick m none (allB L))) = y := ⟨_, rfl⟩
    obtain ⟨RE, hRE⟩ : ∃ y, sreadE (btxt (pick m none (allB L))) = y := ⟨_, rfl⟩
    rw [hRV] at hbv
    rw [hRV, hRE] at hR
    have HB : Hid (batchL L m = RS) := hbv
    clear hbv hRV hRE hb1 hb2 hb0 b0 b1 b2 b3
    gi_wp2
    refine ⟨trivial, (callsIn_wide.2 hR).mono ?_⟩
    rintro e W1 ⟨rfl, hb5⟩
    have hBw5 := hBw.trans (hb5.mono (by omega))
    have hK5 := (hb5.block D (Array.getElem?_eq_some_iff.1 hK).1).trans hK
    have hb6 := (Below.refl W1.heap.size W1).alloc (Nat.le_refl _) (.cells #[.string (bs RK), .int .i64 RG, .int .i64 RV, .int .i64 RN, .string (bs RS)] 48)
    have hK6 := (hb6.block D (Array.getElem?_eq_some_iff.1 hK5).1).trans hK5
    have hBw6 := hBw5.trans (hb6.mono (by have := hb5.size; omega))
    have hBB := hBw6.trans (belowK_b (w := W0) (by omega) _ D _ (.deferred none) (by omega) hK6 rfl rfl)
    gi_wp2
    refine ⟨by simp, .inl ⟨_, _, rfl, run_takeDeferred hK6, ?_⟩⟩
    refine ⟨.string (bs RS), ?_, by rw [HB.out], by rw [hQ]; exact hBB⟩
    simp [results, Tryz.f16, go_sem]
  case stop => rintro D c pre W hD _ h hK; exact h.elim
end Go.Proofs.YtifalaigfinciaaGreatDoor
