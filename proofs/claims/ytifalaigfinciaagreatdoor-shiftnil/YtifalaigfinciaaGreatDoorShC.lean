/- What a text says: the program's, walked. -/
import Derived.Test.YtifalaigfinciaaGreatDoorShB
namespace Go.Proofs.YtifalaigfinciaaGreatDoor
open Go.RowKit
attribute [local go_sem ↓] Go.wp_at_zero Go.wp_at_succ

theorem sread_five {s a b c d e : List UInt8} (hT : texts s = [a, b, c, d, e]) (hs : s.length ≤ 30000) (ha : a = kOrd ∨ a = kSet) :
    (saidE a (tnV b) (tnV c) (tnV d) e = 0 ∧ saidV a (tnV b) (tnV c) (tnV d) e = s ∧ sreadV s = (a, tnV b, tnV c, tnV d, e) ∧ sreadE s = 0) ∨ ((saidE a (tnV b) (tnV c) (tnV d) e ≠ 0 ∨ saidV a (tnV b) (tnV c) (tnV d) e ≠ s) ∧ sreadV s = ([], 0, 0, 0, []) ∧ sreadE s = 4) := by
  rcases h : sreadL s with _ | ⟨k, g, v, n, d'⟩
  · obtain ⟨h1, h2⟩ := sread_none h
    refine .inr ⟨?_, h1, h2⟩
    by_cases h3 : saidE a (tnV b) (tnV c) (tnV d) e = 0
    · right
      intro h4
      obtain ⟨h5, _, h6⟩ := saidE_zero h3
      rw [h6] at h4
      have := (sreadL_some (s := s) (k := a) (d := e) (g := tnV b) (v := tnV c) (n := tnV d)).2 ⟨ha, h5, h4.symm, hs⟩
      rw [this] at h
      cases h
    · exact .inl h3
  · obtain ⟨h1, h2⟩ := sread_some h
    obtain ⟨_, h3, h4, _⟩ := sreadL_some.1 h
    have hd : sreadT (texts s) = some (k, g, v, n, d') := by
      rw [sreadL, if_pos hs] at h; exact h
    rw [hT] at hd
    simp only [sreadT] at hd
    rw [if_pos ha] at hd
    obtain ⟨g', v', n', e1, e2, e3, _, e4⟩ := rd3_some hd
    simp only [Prod.mk.injEq] at e4
    obtain ⟨rfl, rfl, rfl, rfl, rfl⟩ := e4
    rw [(tnV_some e1).1, (tnV_some e2).1, (tnV_some e3).1]
    obtain ⟨x1, x2⟩ := saidE_0 (k := k) (g := g) (v := v) (n := n) (b := d') h3 (by rw [← h4]; exact hs)
    exact .inl ⟨x1, by rw [x2]; exact h4.symm, h1, h2⟩
theorem sread_kind {s a b c d e : List UInt8} (hT : texts s = [a, b, c, d, e]) (h1 : a ≠ kOrd) (h2 : a ≠ kSet) : sreadL s = none := by
  unfold sreadL
  split
  · rw [hT]; simp [sreadT, h1, h2]
  · rfl
def put5 (w : World) (B : Nat) (a b c d e : Value) : World := ((((w.setCell ⟨B, 0, none⟩ a).setCell ⟨B, 1, none⟩ b).setCell ⟨B, 2, none⟩ c).setCell ⟨B, 3, none⟩ d).setCell ⟨B, 4, none⟩ e
theorem put5_blk {w : World} {B : Nat} {t : TypeId} {x0 x1 x2 x3 x4 : Value} (h : w.heap[B]? = some (.cells #[x0, x1, x2, x3, x4] t)) (a b c d e : Value) : (put5 w B a b c d e).heap[B]? = some (.cells #[a, b, c, d, e] t) :=
  setB (setB (setB (setB (setB h 0 a) 1 b) 2 c) 3 d) 4 e
theorem put5_below {n : Nat} {w w' : World} (h : Below n w w') {B : Nat} (hB : n ≤ B) (a b c d e : Value) : Below n w (put5 w' B a b c d e) :=
  ((((h.setCell (p := ⟨B, 0, none⟩) hB a).setCell (p := ⟨B, 1, none⟩) hB b).setCell (p := ⟨B, 2, none⟩) hB c).setCell (p := ⟨B, 3, none⟩) hB d).setCell (p := ⟨B, 4, none⟩) hB e

/-- How the kind of a list of five is asked for. -/
theorem kind_cases (a : List UInt8) : (a ≠ kOrd ∧ a ≠ kSet) ∨ a = kOrd ∨ (a ≠ kOrd ∧ a = kSet) := by
  by_cases h : a = kOrd
  · exact .inr (.inl h)
  · by_cases h2 : a = kSet
    · exact .inr (.inr ⟨h, h2⟩)
    · exact .inl ⟨h, h2⟩

set_option maxRecDepth 20000 in
set_option maxHeartbeats 2000000 in
theorem Read_any (s : List UInt8) (w : World) (he : Env w) :
    Calls Tryz.prog 21 #[.string (bs s)] w fun e W' => e = .returned (.tuple #[.agg #[.string (bs (sreadV s).1), .int .i64 (sreadV s).2.1, .int .i64 (sreadV s).2.2.1, .int .i64 (sreadV s).2.2.2.1, .string (bs (sreadV s).2.2.2.2)], .int .i64 (sreadE s)]) ∧ Below w.heap.size w W' := by
  have hsz : (bs s).size = s.length := bs_size s
  have hb0 : Below w.heap.size w (w.alloc (.cells #[.string ⟨#[]⟩, .int .i64 0, .int .i64 0, .int .i64 0, .string ⟨#[]⟩] 48)) := (Below.refl _ w).alloc (Nat.le_refl _) _
  have r0 : (w.alloc (.cells #[.string ⟨#[]⟩, .int .i64 0, .int .i64 0, .int .i64 0, .string ⟨#[]⟩] 48)).heap[w.heap.size]? = some (.cells #[.string ⟨#[]⟩, .int .i64 0, .int .i64 0, .int .i64 0, .string ⟨#[]⟩] 48) := heap_alloc_new _ _
  have HF : Hid (∀ W, W.heap[w.heap.size]? = some (.cells #[.string ⟨#[]⟩, .int .i64 0, .int .i64 0, .int .i64 0, .string ⟨#[]⟩] 48) → ∀ a b c d e : Value, (put5 W w.heap.size a b c d e).cell? ⟨w.heap.size, 0, none⟩ = some a ∧ (put5 W w.heap.size a b c d e).cell? ⟨w.heap.size, 1, none⟩ = some b ∧ (put5 W w.heap.size a b c d e).cell? ⟨w.heap.size, 2, none⟩ = some c ∧ (put5 W w.heap.size a b c d e).cell? ⟨w.heap.size, 3, none⟩ = some d ∧ (put5 W w.heap.size a b c d e).cell? ⟨w.heap.size, 4, none⟩ = some e) := by
    intro W hW a b c d e
    have hr := put5_blk hW a b c d e
    exact ⟨cellB hr 0 _ rfl, cellB hr 1 _ rfl, cellB hr 2 _ rfl, cellB hr 3 _ rfl, cellB hr 4 _ rfl⟩
  have HZ0 : Hid (∀ W, W.heap[w.heap.size]? = some (.cells #[.string ⟨#[]⟩, .int .i64 0, .int .i64 0, .int .i64 0, .string ⟨#[]⟩] 48) → Below w.heap.size w W → ((put5 W w.heap.size (.string ⟨#[]⟩) (.int .i64 0) (.int .i64 0) (.int .i64 0) (.string ⟨#[]⟩)).cell? ⟨w.heap.size, 0, none⟩ = some (.string ⟨#[]⟩) ∧ (put5 W w.heap.size (.string ⟨#[]⟩) (.int .i64 0) (.int .i64 0) (.int .i64 0) (.string ⟨#[]⟩)).cell? ⟨w.heap.size, 1, none⟩ = some (.int .i64 0) ∧ (put5 W w.heap.size (.string ⟨#[]⟩) (.int .i64 0) (.int .i64 0) (.int .i64 0) (.string ⟨#[]⟩)).cell? ⟨w.heap.size, 2, none⟩ = some (.int .i64 0) ∧ (put5 W w.heap.size (.string ⟨#[]⟩) (.int .i64 0) (.int .i64 0) (.int .i64 0) (.string ⟨#[]⟩)).cell? ⟨w.heap.size, 3, none⟩ = some (.int .i64 0) ∧ (put5 W w.heap.size (.string ⟨#[]⟩) (.int .i64 0) (.int .i64 0) (.int .i64 0) (.string ⟨#[]⟩)).cell? ⟨w.heap.size, 4, none⟩ = some (.string ⟨#[]⟩)) ∧ Below w.heap.size w (put5 W w.heap.size (.string ⟨#[]⟩) (.int .i64 0) (.int .i64 0) (.int .i64 0) (.string ⟨#[]⟩))) := fun W hW hB => ⟨HF.out W hW _ _ _ _ _, put5_below hB (Nat.le_refl _) _ _ _ _ _⟩
  have hlp : w.heap.size < (w.alloc (.cells #[.string ⟨#[]⟩, .int .i64 0, .int .i64 0, .int .i64 0, .string ⟨#[]⟩] 48)).heap.size := by simp
  by_cases hs : 30000 < s.length
  · obtain ⟨h1, h2⟩ := sread_none (s := s) (by rw [sreadL, if_neg (by omega)])
    rw [h1, h2]
    have hl2 : (30000 : Int) < (s.length : Int) := by omega
    have HZ : Hid (_) := hb0
    clear h1 h2 HF HZ0 r0 hb0 hlp
    go_enter Tryz.func21, Tryz.ntmps21
    go_wp2
    exact bodyPost_ret (v := .tuple #[.agg #[.string ⟨#[]⟩, .int .i64 0, .int .i64 0, .int .i64 0, .string ⟨#[]⟩], .int .i64 4]) (by simp [results, Tryz.f21, go_sem]) rfl ⟨rfl, HZ.out⟩
  · have hs3 : s.length ≤ 30000 := by omega
    have hl2 : (s.length : Int) ≤ 30000 := by omega
    have hU := Unpack_any s (w.alloc (.cells #[.string ⟨#[]⟩, .int .i64 0, .int .i64 0, .int .i64 0, .string ⟨#[]⟩] 48)) (by omega) (he.next hb0)
    obtain ⟨KO, hKO⟩ : ∃ K, bs kOrd = K := ⟨_, rfl⟩
    obtain ⟨KS, hKS⟩ : ∃ K, bs kSet = K := ⟨_, rfl⟩
    have hlitO : ({ data := #[111, 114, 100, 101, 114] } : ByteArray) = KO := hKO
    have hlitS : ({ data := #[115, 101, 116, 116, 108, 101] } : ByteArray) = KS := hKS
    by_cases h5 : (texts s).length = 5
    · obtain ⟨a, b, c, d, e, hT⟩ := five_of h5
      have h0 : errOf s = 0 := by
        rcases err_cases s with h | ⟨_, h⟩
        · exact h
        · rw [h] at h5; cases h5
      have hlb := texts_mem (s := s) (t := b) (by rw [hT]; simp)
      have hlc := texts_mem (s := s) (t := c) (by rw [hT]; simp)
      have hld := texts_mem (s := s) (t := d) (by rw [hT]; simp)
      have hle := texts_mem (s := s) (t := e) (by rw [hT]; simp)
      have HT : Hid (texts s = [a, b, c, d, e]) := hT
      rw [h0, hT] at hU
      rcases kind_cases a with ⟨hk1, hk2⟩ | hk
      · obtain ⟨h1, h2⟩ := sread_none (sread_kind hT hk1 hk2)
        rw [h1, h2]
        have e1 := str_other hk1
        have e2 := str_other hk2
        rw [hKO] at e1
        rw [hKS] at e2
        clear h1 h2 hk1 hk2 hKO hKS hlb hlc hld hle h0 h5 hT HT hs hs3 HF
        go_enter Tryz.func21, Tryz.ntmps21
        rw [hlitO, hlitS]
        clear hlitO hlitS
        go_upto_region 4 with (first | (go_at_call 33; refine hU.mono ?_; clear hU; rintro ex w1 ⟨v, rfl, hv, hb1⟩; obtain ⟨vb, vo, vc, rfl, hvl, c0, c1, c2, c3, c4⟩ := (Sl.of_owns (l := [a, b, c, d, _]) hv).cells5; clear hv))
        have hB1 := hb0.trans (hb1.mono hb0.size)
        have r1 := (hb1.block w.heap.size hlp).trans r0
        have f0 := frozenB r1 0
        have f1 := frozenB r1 1
        have f2 := frozenB r1 2
        have f3 := frozenB r1 3
        have f4 := frozenB r1 4
        have s0 := cellB r1 0 _ rfl
        have s1 := cellB r1 1 _ rfl
        have s2 := cellB r1 2 _ rfl
        have s3 := cellB r1 3 _ rfl
        have s4 := cellB r1 4 _ rfl
        have HZ : Hid (_) := HZ0.out _ r1 hB1
        clear r1 hB1 hb1 r0 hb0 hlp HZ0 c1 c2 c3 c4
        go_wp2
        obtain ⟨⟨z0, z1, z2, z3, z4⟩, hBz⟩ := HZ.out
        unfold put5 at z0 z1 z2 z3 z4 hBz
        exact bodyPost_ret (v := .tuple #[.agg #[.string ⟨#[]⟩, .int .i64 0, .int .i64 0, .int .i64 0, .string ⟨#[]⟩], .int .i64 4]) (by simp [results, Tryz.f21, go_sem, z0, z1, z2, z3, z4]) rfl ⟨rfl, hBz⟩
      · have hak : a = kOrd ∨ a = kSet := by rcases hk with h | ⟨_, h⟩; exact .inl h; exact .inr h
        have hakl : a.length ≤ 1000 := by rcases hak with rfl | rfl <;> decide
        have hcase := sread_five hT hs3 hak
        obtain ⟨⟨RK, RG, RV, RN, RS⟩, hRV⟩ : ∃ x, sreadV s = x := ⟨_, rfl⟩
        obtain ⟨RE, hRE⟩ : ∃ x, sreadE s = x := ⟨_, rfl⟩
        obtain ⟨A, hA⟩ : ∃ x, tnV b = x := ⟨_, rfl⟩
        obtain ⟨C, hC⟩ : ∃ x, tnV c = x := ⟨_, rfl⟩
        obtain ⟨D, hD⟩ : ∃ x, tnV d = x := ⟨_, rfl⟩
        obtain ⟨EA, hEA⟩ : ∃ x, tnE b = x := ⟨_, rfl⟩
        obtain ⟨EC, hEC⟩ : ∃ x, tnE c = x := ⟨_, rfl⟩
        obtain ⟨ED, hED⟩ : ∃ x, tnE d = x := ⟨_, rfl⟩
        have HX : Hid (∀ W, Below w.heap.size w W → Calls Tryz.prog 13 #[.agg #[.string (bs a), .int .i64 A, .int .i64 C, .int .i64 D, .string (bs e)]] W fun x W' => x = .returned (.tuple #[.string (bs (saidV a A C D e)), .int .i64 (saidE a A C D e)]) ∧ Below W.heap.size W W') := by
          intro W hW
          exact textOf_any a A C D e W hakl (by omega) (he.next hW).p
        have hTN : ∀ (t : List UInt8) (V E : Int), t.length ≤ s.length → tnV t = V → tnE t = E → ∀ W, Below w.heap.size w W → Calls Tryz.prog 34 #[.string (bs t)] W fun e W' => e = .returned (.tuple #[.int .i64 V, .int .i64 E]) ∧ Below W.heap.size W W' := by
          intro t V E hl h1 h2 W hW
          have := ToNum_any (bs t) W (by rw [bs_size]; omega) (he.next hW)
          rw [bs_list, h1, h2] at this
          exact this
        have HA : Hid (_) := hTN b A EA hlb hA hEA
        have HC : Hid (_) := hTN c C EC hlc hC hEC
        have HD : Hid (_) := hTN d D ED hld hD hED
        rw [hRV, hRE, hA, hC, hD] at hcase
        rw [hRV, hRE]
        obtain ⟨X, hX⟩ : ∃ x, saidV a A C D e = x := ⟨_, rfl⟩
        obtain ⟨E, hE⟩ : ∃ x, saidE a A C D e = x := ⟨_, rfl⟩
        rw [hX, hE] at hcase HX
        have HCS : Hid (_) := hcase
        clear hTN hcase hRV hRE hA hC hD hEA hEC hED hX hE hlb hlc hld hle h0 h5 hT HT hs hs3 hak hakl
        have hk2 : ((bs a).toList == KO.toList) = true ∨ (((bs a).toList == KO.toList) = false ∧ ((bs a).toList == KS.toList) = true) := by
          rcases hk with rfl | ⟨h, rfl⟩
          · left; rw [← hKO]; exact str_same _
          · right; rw [← hKO, ← hKS]; exact ⟨str_other h, str_same _⟩
        clear hk hKO hKS
        rcases hk2 with e1 | ⟨e1, e2⟩
        all_goals
          go_enter Tryz.func21, Tryz.ntmps21
          rw [hlitO, hlitS]
          clear hlitO hlitS
          go_upto_region 4 with (first | (go_at_call 33; refine hU.mono ?_; clear hU; rintro ex w1 ⟨v, rfl, hv, hb1⟩; obtain ⟨vb, vo, vc, rfl, hvl, c0, c1, c2, c3, c4⟩ := (Sl.of_owns (l := [a, b, c, d, _]) hv).cells5; clear hv))
          have hB1 := hb0.trans (hb1.mono hb0.size)
          have r1 := (hb1.block w.heap.size hlp).trans r0
          have hl1 : w.heap.size < w1.heap.size := (Array.getElem?_eq_some_iff.1 r1).1
          have hTa := HA.out _ hB1
          clear HA hb1 r0 hb0 hlp
          go_upto_region 9 with (first
            | (go_at_call 34; refine hTa.mono ?_; clear hTa; rintro ex w2 ⟨rfl, hb2⟩; have hB2 := hB1.trans (hb2.mono hB1.size); have hTc := HC.out _ hB2; have d2 := (hb2.cell (p := ⟨vb, vo + 2, none⟩) hvl).trans c2)
            | (go_at_call 34; refine hTc.mono ?_; clear hTc; rintro ex w3 ⟨rfl, hb3⟩; have hB3 := hB2.trans (hb3.mono hB2.size); have hTd := HD.out _ hB3; have hb23 := hb2.trans (hb3.mono hb2.size); have d3 := (hb23.cell (p := ⟨vb, vo + 3, none⟩) hvl).trans c3)
            | (go_at_call 34; refine hTd.mono ?_; clear hTd; rintro ex w4 ⟨rfl, hb4⟩))
          have hb24 := hb23.trans (hb4.mono hb23.size)
          have hB4 := hB1.trans (hb24.mono hB1.size)
          have r4 := (hb24.block w.heap.size hl1).trans r1
          have hl4 : w.heap.size < w4.heap.size := (Array.getElem?_eq_some_iff.1 r4).1
          have d0 := (hb24.cell (p := ⟨vb, vo, none⟩) hvl).trans c0
          have d4 := (hb24.cell (p := ⟨vb, vo + 4, none⟩) hvl).trans c4
          clear HC HD c0 c1 c2 c3 c4 d2 d3 hB1 hB2 hB3 hb2 hb3 hb23 hb4 r1 hl1
          have hvl4 : vb < w4.heap.size := Nat.lt_of_lt_of_le hvl hb24.size
          have g0 : ((w4.alloc (.cells #[.string ⟨#[]⟩, .int .i64 0, .int .i64 0, .int .i64 0, .string ⟨#[]⟩] 48)).drew).cell? ⟨vb, vo, none⟩ = some (.string (bs a)) := (Below.cell (below_drew ((Below.refl w4.heap.size w4).alloc (Nat.le_refl _) _)) (p := ⟨vb, vo, none⟩) hvl4).trans d0
          have g4 : ((w4.alloc (.cells #[.string ⟨#[]⟩, .int .i64 0, .int .i64 0, .int .i64 0, .string ⟨#[]⟩] 48)).drew).cell? ⟨vb, vo + 4, none⟩ = some (.string (bs e)) := (Below.cell (below_drew ((Below.refl w4.heap.size w4).alloc (Nat.le_refl _) _)) (p := ⟨vb, vo + 4, none⟩) hvl4).trans d4
          have HR4 : Hid (w4.heap[w.heap.size]? = _) := r4
          have HB4 : Hid (_) := hB4
          clear r4 hB4 hb24
          go_region
          have hb5 := below_drew ((Below.refl w4.heap.size w4).alloc (Nat.le_refl _) (.cells #[.string (bs a), .int .i64 A, .int .i64 C, .int .i64 D, .string (bs e)] 48))
          have r5 : ((w4.alloc (.cells #[.string (bs a), .int .i64 A, .int .i64 C, .int .i64 D, .string (bs e)] 48)).drew).heap[w4.heap.size]? = _ := heap_alloc_new w4 (.cells #[.string (bs a), .int .i64 A, .int .i64 C, .int .i64 D, .string (bs e)] 48)
          obtain ⟨w5, hw5⟩ : ∃ W, (w4.alloc (.cells #[.string (bs a), .int .i64 A, .int .i64 C, .int .i64 D, .string (bs e)] 48)).drew = W := ⟨_, rfl⟩
          rw [hw5] at hb5 r5 ⊢
          clear hw5 g0 g4 d0 d4 hvl4 hvl
          have hB5 := HB4.out.trans (hb5.mono HB4.out.size)
          have rr5 := (hb5.block w.heap.size hl4).trans HR4.out
          have hTx := HX.out w5 hB5
          obtain ⟨P5, hP5⟩ : ∃ P, w4.heap.size = P := ⟨_, rfl⟩
          rw [hP5] at r5 ⊢
          have q0 := cellB r5 0 _ rfl
          have q1 := cellB r5 1 _ rfl
          have q2 := cellB r5 2 _ rfl
          have q3 := cellB r5 3 _ rfl
          have q4 := cellB r5 4 _ rfl
          have hl5 := (Array.getElem?_eq_some_iff.1 r5).1
          have hl5b := (Array.getElem?_eq_some_iff.1 rr5).1
          clear HX HB4 HR4 hb5 hl4 hP5 r5
          go_upto_region 11 with (first | (go_at_call 13; refine hTx.mono ?_; clear hTx; rintro ex w6 ⟨rfl, hb6⟩))
          have hB6 := hB5.trans (hb6.mono hB5.size)
          have r6 := (hb6.block w.heap.size hl5b).trans rr5
          have u0 := (hb6.cell (p := ⟨P5, 0, none⟩) hl5).trans q0
          have u1 := (hb6.cell (p := ⟨P5, 1, none⟩) hl5).trans q1
          have u2 := (hb6.cell (p := ⟨P5, 2, none⟩) hl5).trans q2
          have u3 := (hb6.cell (p := ⟨P5, 3, none⟩) hl5).trans q3
          have u4 := (hb6.cell (p := ⟨P5, 4, none⟩) hl5).trans q4
          have f0 := frozenB r6 0
          have f1 := frozenB r6 1
          have f2 := frozenB r6 2
          have f3 := frozenB r6 3
          have f4 := frozenB r6 4
          have s0 := cellB r6 0 _ rfl
          have s1 := cellB r6 1 _ rfl
          have s2 := cellB r6 2 _ rfl
          have s3 := cellB r6 3 _ rfl
          have s4 := cellB r6 4 _ rfl
          have HZ : Hid (_) := HZ0.out _ r6 hB6
          have HY : Hid (_) := HF.out _ r6 (.string (bs a)) (.int .i64 A) (.int .i64 C) (.int .i64 D) (.string (bs e))
          have HY2 : Hid (_) := put5_below hB6 (Nat.le_refl _) (.string (bs a)) (.int .i64 A) (.int .i64 C) (.int .i64 D) (.string (bs e))
          clear HZ0 HF r6 hB6 hB5 rr5 hb6 q0 q1 q2 q3 q4 hl5 hl5b
          rcases HCS.out with ⟨rfl, rfl, h1, rfl⟩ | ⟨hne, h1, rfl⟩
          · simp only [Prod.mk.injEq] at h1
            obtain ⟨rfl, rfl, rfl, rfl, rfl⟩ := h1
            have hss := str_same X
            clear HCS HZ
            go_wp2
            obtain ⟨z0, z1, z2, z3, z4⟩ := HY.out
            have hBz := HY2.out
            unfold put5 at z0 z1 z2 z3 z4 hBz
            exact bodyPost_ret (v := .tuple #[.agg #[.string (bs RK), .int .i64 RG, .int .i64 RV, .int .i64 RN, .string (bs RS)], .int .i64 0]) (by simp [results, Tryz.f21, go_sem, z0, z1, z2, z3, z4]) rfl ⟨rfl, hBz⟩
          · simp only [Prod.mk.injEq] at h1
            obtain ⟨rfl, rfl, rfl, rfl, rfl⟩ := h1
            clear HCS HY HY2
            by_cases hE0 : E = 0
            · subst hE0
              have hss := str_other (a := X) (b := s) (by rcases hne with h | h; exact absurd rfl h; exact h)
              clear hne
              go_wp2
              obtain ⟨⟨z0, z1, z2, z3, z4⟩, hBz⟩ := HZ.out
              unfold put5 at z0 z1 z2 z3 z4 hBz
              exact bodyPost_ret (v := .tuple #[.agg #[.string ⟨#[]⟩, .int .i64 0, .int .i64 0, .int .i64 0, .string ⟨#[]⟩], .int .i64 4]) (by simp [results, Tryz.f21, go_sem, z0, z1, z2, z3, z4]) rfl ⟨rfl, hBz⟩
            · have hE1 : (E != 0) = true := by simpa using hE0
              clear hne hE0
              go_wp2
              obtain ⟨⟨z0, z1, z2, z3, z4⟩, hBz⟩ := HZ.out
              unfold put5 at z0 z1 z2 z3 z4 hBz
              exact bodyPost_ret (v := .tuple #[.agg #[.string ⟨#[]⟩, .int .i64 0, .int .i64 0, .int .i64 0, .string ⟨#[]⟩], .int .i64 4]) (by simp [results, Tryz.f21, go_sem, z0, z1, z2, z3, z4]) rfl ⟨rfl, hBz⟩
    · obtain ⟨h1, h2⟩ := sread_none (s := s) (by rw [sreadL, if_pos hs3, sreadT_not5 h5])
      rw [h1, h2]
      have hcase : (errOf s = 0 ∧ (((texts s).length : Int) != 5) = true) ∨ (errOf s = 4) := by
        rcases err_cases s with h | ⟨h, _⟩
        · exact .inl ⟨h, by simp; omega⟩
        · exact .inr h
      obtain ⟨ES, hES⟩ : ∃ x, errOf s = x := ⟨_, rfl⟩
      rw [hES] at hU hcase
      obtain ⟨L, hL⟩ : ∃ L, texts s = L := ⟨_, rfl⟩
      rw [hL] at hU hcase
      clear hES hL h5 h1 h2 hs hs3 hKO hKS HF
      go_enter Tryz.func21, Tryz.ntmps21
      rw [hlitO, hlitS]
      clear hlitO hlitS
      go_upto_region 4 with (first | (go_at_call 33; refine hU.mono ?_; clear hU; rintro e w1 ⟨v, rfl, hv, hb1⟩; obtain ⟨va, vc, rfl⟩ := (Sl.of_owns hv).slice; clear hv))
      have hB1 := hb0.trans (hb1.mono hb0.size)
      have r1 := (hb1.block w.heap.size hlp).trans r0
      have f0 := frozenB r1 0
      have f1 := frozenB r1 1
      have f2 := frozenB r1 2
      have f3 := frozenB r1 3
      have f4 := frozenB r1 4
      have s0 := cellB r1 0 _ rfl
      have s1 := cellB r1 1 _ rfl
      have s2 := cellB r1 2 _ rfl
      have s3 := cellB r1 3 _ rfl
      have s4 := cellB r1 4 _ rfl
      have HZ : Hid (_) := HZ0.out _ r1 hB1
      clear r1 hB1 hb1 r0 hb0 hlp HZ0
      rcases hcase with ⟨rfl, hne⟩ | rfl
      all_goals
        go_wp2
        obtain ⟨⟨z0, z1, z2, z3, z4⟩, hBz⟩ := HZ.out
        unfold put5 at z0 z1 z2 z3 z4 hBz
        exact bodyPost_ret (v := .tuple #[.agg #[.string ⟨#[]⟩, .int .i64 0, .int .i64 0, .int .i64 0, .string ⟨#[]⟩], .int .i64 4]) (by simp [results, Tryz.f21, go_sem, z0, z1, z2, z3, z4]) rfl ⟨rfl, hBz⟩
end Go.Proofs.YtifalaigfinciaaGreatDoor
