/- The law TableSteps, walked. -/
import Derived.Test.YtmkmidahfcjcgaaDoorTdF
import Derived.Test.YtmkmidahfcjcgaaDoorTdG
import Derived.Test.YtmkmidahfcjcgaaDoorTbS
namespace Go.Proofs.YtmkmidahfcjcgaaDoor
open Go.RowKit
attribute [local go_sem ↓] Go.wp_at_zero Go.wp_at_succ

/-- The table beside the document's one. -/
structure S2 (W0 : World) (B C q : Nat) (l L : List Rw) (v u : Value) (W : World) : Prop where
  tab : TabAt W B l v
  ref : RfAt W C q L u
  ne : B ≠ C
  vC : ∀ k, v.ownBlock = some k → k ≠ C
  uB : ∀ k, u.ownBlock = some k → k ≠ B
  vu : ∀ k, v.ownBlock = some k → u.ownBlock ≠ some k
  b1 : W0.heap.size ≤ B
  b2 : W0.heap.size ≤ C
  b3 : ∀ k, u.ownBlock = some k → W0.heap.size ≤ k
  below : Below W0.heap.size W0 W
theorem S2.on {W0 W W' : World} {B C q : Nat} {l L : List Rw} {v u : Value} (h : S2 W0 B C q l L v u W) (hb : Below W.heap.size W W') : S2 W0 B C q l L v u W' :=
  ⟨h.tab.on hb, h.ref.on hb, h.ne, h.vC, h.uB, h.vu, h.b1, h.b2, h.b3, h.below.trans (hb.mono h.below.size)⟩
theorem S2.do {W0 W W' : World} {B C q : Nat} {l l' L : List Rw} {v u : Value} (h : S2 W0 B C q l L v u W) (hd : DoPost W B v l' W') : ∃ v', S2 W0 B C q l' L v' u W' := by
  obtain ⟨v', h1, h2, h3⟩ := hd
  have hC := h.ref.lt
  have hu := fun k hk => (h.ref.rows.lt k hk).2
  refine ⟨v', h1, h.ref.keep (h3.block C hC h.ne.symm) (fun k hk hlt => h3.block k hlt (h.uB k hk)), h.ne, fun k hk => ?_, h.uB, fun k hk e => ?_, h.b1, h.b2, h.b3, h.below.trans (h3.below h.b1 h.below.size)⟩
  · rcases h2 k hk with e | e
    · exact h.vC k e
    · omega
  · rcases h2 k hk with e2 | e2
    · exact h.vu k e2 e
    · have := hu k e
      omega
theorem S2.rdo {W0 W W' : World} {B C q : Nat} {l L L' : List Rw} {v u : Value} (h : S2 W0 B C q l L v u W) (hd : RefPost W C q u L' W') : ∃ u', S2 W0 B C q l L' v u' W' := by
  obtain ⟨u', h1, h2, h3⟩ := hd
  have hB := h.tab.lt
  have hv := h.tab.rows.lt
  refine ⟨u', h.tab.keep (h3.block B hB h.ne (fun e => h.uB B e rfl)) (fun k hk hlt => h3.block k hlt (h.vC k hk) (h.vu k hk)), h1, h.ne, h.vC, fun k hk => ?_, fun k hk e => ?_, h.b1, h.b2, fun k hk => ?_, h.below.trans (h3.below h.b2 h.below.size h.b3)⟩
  · rcases h2 k hk with e | e
    · exact h.uB k e
    · omega
  · rcases h2 k e with e2 | e2
    · exact h.vu k hk e2
    · have := hv k hk
      omega
  · rcases h2 k hk with e | e
    · exact h.b3 k e
    · exact Nat.le_trans h.below.size e
theorem S2.run {W0 W : World} {B C q : Nat} {l L : List Rw} {v u : Value} (h : S2 W0 B C q l L v u W) (kind : Int) (k vl o : List UInt8) {t : List UInt8} {E : Int} {l' : List Rw} (hd : doR l kind k vl o = (t, E, l')) :
    Calls Tryd.prog 11 #[.pointer (some ⟨B, 0, none⟩), opV kind k vl o] W fun e W' => e = .returned (.tuple #[.string (bs t), .int .i64 E]) ∧ (∃ v', S2 W0 B C q l' L v' u W') ∧ Mv B W W' := by
  have := Do_any h.tab kind k vl o
  rw [hd] at this
  refine this.mono ?_
  rintro e W' ⟨rfl, h1⟩
  obtain ⟨_, _, _, hm⟩ := id h1
  exact ⟨rfl, h.do h1, hm⟩
theorem S2.rrun {W0 W : World} {B C q : Nat} {l L : List Rw} {v u : Value} (h : S2 W0 B C q l L v u W) (kind : Int) (k vl o : List UInt8) {t : List UInt8} {E : Int} {L' : List Rw} (hd : rdoL L kind k vl o = (t, E, L')) :
    Calls Tryd.prog 12 #[.pointer (some ⟨C, q, none⟩), opV kind k vl o] W fun e W' => e = .returned (.tuple #[.string (bs t), .int .i64 E]) ∧ (∃ u', S2 W0 B C q l L' v u' W') ∧ Mr C q u W W' := by
  have := rDo_any h.ref kind k vl o
  rw [hd] at this
  refine this.mono ?_
  rintro e W' ⟨rfl, h1⟩
  obtain ⟨_, _, _, hm⟩ := id h1
  exact ⟨rfl, h.rdo h1, hm⟩
set_option maxRecDepth 20000 in
set_option maxHeartbeats 4000000 in
theorem steps_any (l0 : List Op4) (v0 : Value) (w : World) (he : EnvP w) (hv : Ol w v0 l0) : Calls Tryd.prog 3 #[v0] w fun e W' => e = .returned (.bool true) ∧ Below w.heap.size w W' := by
  obtain ⟨va, vc, rfl⟩ := hv.slice
  have hN := New_any w
  have HF : Hid (∀ W, Below w.heap.size w W → Calls Tryd.prog 10 #[] W fun e W' => e = .returned (.bool true) ∧ Below w.heap.size w W') := fun W hb => by
    refine (four_any W (he.next hb)).mono ?_
    rintro e W' ⟨rfl, h⟩
    exact ⟨rfl, hb.trans (h.mono hb.size)⟩
  by_cases hl : 200 < l0.length
  · have hl2 : (200 : Int) < (l0.length : Int) := by omega
    clear hv he
    go_enter Tryd.func3, Tryd.ntmps3
    go_wp2_with (first
      | (go_at_call 9; refine hN.mono ?_; clear hN; rintro e w1 ⟨rfl, ht, hb, _⟩; have hF := HF.out _ hb; clear HF ht)
      | (go_at_call 10; refine hF.mono ?_; rintro e w2 ⟨rfl, hb2⟩))
    go_ret
    exact ⟨rfl, hb2⟩
  · have hl2 : (l0.length : Int) ≤ 200 := by omega
    go_enter Tryd.func3, Tryd.ntmps3
    go_upto_region 5 with (go_at_call 9; refine hN.mono ?_; clear hN; rintro e w1 ⟨rfl, ht, hb, hsz⟩)
    have hka : Below w1.heap.size w1 (w1.alloc (.cells #[.slice none 0 0] 29)) := (Below.refl _ _).alloc (Nat.le_refl _) _
    have hnew := heap_alloc_new w1 (.cells #[.slice none 0 0] 29)
    have h0 : S2 w w.heap.size w1.heap.size 0 [] [] (.slice none 0 0) (.slice none 0 0) (w1.alloc (.cells #[.slice none 0 0] 29)) :=
      ⟨ht.on hka, ⟨cellB hnew 0 _ rfl, frozenB hnew 0, World.ownsRow_nil _ _ _ _, (fun k hk => by cases hk), by decide, (fun r hr => by cases hr)⟩, by omega, (fun k hk => by cases hk), (fun k hk => by cases hk), (fun k hk => by cases hk), Nat.le_refl _, hb.size, (fun k hk => by cases hk), hb.trans (hka.mono hb.size)⟩
    obtain ⟨W2, hW2⟩ : ∃ W, w1.alloc (.cells #[.slice none 0 0] 29) = W := ⟨_, rfl⟩
    obtain ⟨C, hC⟩ : ∃ C, w.heap.size + 1 = C := ⟨_, rfl⟩
    rw [hW2, hsz, hC] at h0
    rw [hW2, hC]
    clear hW2 hC hka hnew ht hb hsz
    go_wp2
    go_loopg [28] l0.length (fun gk i wr => ∃ (n : Nat) (l L : List Rw) (v u : Value), n + gk = l0.length ∧ i = .int .i64 n ∧ S2 w w.heap.size C 0 l L v u wr ∧ L.Perm l)
    case atStart => exact ⟨0, [], [], _, _, by omega, rfl, h0, List.Perm.refl _⟩
    case round =>
      clear h0
      obtain ⟨n, l, L, v, u, hn, rfl, hK, hP⟩ := hrel
      by_cases hn1 : n = l0.length
      · subst hn1
        have hF := HF.out _ hK.below
        clear HF hK hP
        go_wp2_with (go_at_call 10; refine hF.mono ?_; rintro e w5 ⟨rfl, hb5⟩)
        go_ret
        exact ⟨rfl, hb5⟩
      · have hn2 : n < l0.length := by omega
        obtain ⟨s, hs⟩ : ∃ s, l0[n]? = some s := ⟨_, List.getElem?_eq_getElem hn2⟩
        obtain ⟨b', oo, rfl, hb0, c0, c1, c2, c3⟩ := (hv.on hK.below).at hs
        have hka := hK.on ((Below.refl _ wr).alloc (Nat.le_refl _) (.cells #[.int .i64 s.kind, .string (bs s.k), .string (bs s.v), .string (bs s.o)] 31))
        have hq := heap_alloc_new wr (.cells #[.int .i64 s.kind, .string (bs s.k), .string (bs s.v), .string (bs s.o)] 31)
        have hqs : wr.heap.size < (wr.alloc (.cells #[.int .i64 s.kind, .string (bs s.k), .string (bs s.v), .string (bs s.o)] 31)).heap.size := by simp
        have hqn : wr.heap.size ≠ w.heap.size := by have := hK.tab.lt; omega
        have hqC : wr.heap.size ≠ C := by have := hK.ref.lt; omega
        have hqu : u.ownBlock ≠ some wr.heap.size := fun e => by have := (hK.ref.rows.lt _ e).2; omega
        obtain ⟨t, E, L', l', hd1, hd2, hP', hok'⟩ := do_alike hP hK.tab.ok s.kind s.k s.v s.o
        have hD := hka.run s.kind s.k s.v s.o hd2
        have HQ1 : Hid (∀ W, Mv w.heap.size (wr.alloc (.cells #[.int .i64 s.kind, .string (bs s.k), .string (bs s.v), .string (bs s.o)] 31)) W → W.heap[wr.heap.size]? = some (.cells #[.int .i64 s.kind, .string (bs s.k), .string (bs s.v), .string (bs s.o)] 31)) := fun W hm => (hm.block _ hqs hqn).trans hq
        have HRR : Hid (∀ W v, S2 w w.heap.size C 0 l' L v u W → _) := fun W v h => h.rrun s.kind s.k s.v s.o hd1
        obtain ⟨Q, hQ⟩ : ∃ Q, wr.heap.size = Q := ⟨_, rfl⟩
        rw [hQ] at hqC hqu
        have HQ2 : Hid (∀ W W' : World, W.heap[Q]? = some (.cells #[.int .i64 s.kind, .string (bs s.k), .string (bs s.v), .string (bs s.o)] 31) → Mr C 0 u W W' → W'.heap[Q]? = some (.cells #[.int .i64 s.kind, .string (bs s.k), .string (bs s.v), .string (bs s.o)] 31)) := fun W W' h hm => (hm.block Q (Array.getElem?_eq_some_iff.1 h).1 hqC hqu).trans h
        have HREF : Hid (∀ W, Calls Tryd.prog 13 #[opV s.kind s.k s.v s.o] W fun e W' => e = .returned (opV s.kind s.k s.v s.o) ∧ Below W.heap.size W W') := fun W => ref_any _ _ _ _ W
        unfold opV at hD HRR HREF
        clear hs hka hq hqs hqn hd1 hd2 hK hP HF
        go_upto_region 10 with (first
          | (go_at_call 11; refine hD.mono ?_; clear hD; rintro e w5 ⟨rfl, ⟨v5, hk5⟩, hm5⟩; have hq5 := HQ1.out _ hm5; rw [hQ] at hq5; have r0 := cellB hq5 0 _ rfl; have r1 := cellB hq5 1 _ rfl; have r2 := cellB hq5 2 _ rfl; have r3 := cellB hq5 3 _ rfl; have hREF := HREF.out w5; clear HQ1 hm5)
          | (go_at_call 13; refine hREF.mono ?_; clear hREF; rintro e w6 ⟨rfl, hb6⟩; have hk6 := hk5.on hb6; have hq6 := (hb6.block _ (Array.getElem?_eq_some_iff.1 hq5).1).trans hq5; have hRR := HRR.out _ _ hk6; clear HRR hk5 hb6 hq5 r0 r1 r2 r3)
          | (go_at_call 12; refine hRR.mono ?_; clear hRR; rintro e w7 ⟨rfl, ⟨u7, hk7⟩, hm7⟩; have hq7 := HQ2.out _ _ hq6 hm7; clear hq6 hm7))
        have hcu := hk7.ref.cell
        obtain ⟨ua, uc, rfl⟩ := owns_slice hk7.ref.rows
        have hLl : L'.length = l'.length := hP'.length_eq
        have HK7 : Hid (S2 w w.heap.size C 0 l' L' v5 (.slice ua L'.length uc) w7) := hk7
        have hlq := (Array.getElem?_eq_some_iff.1 hq7).1
        have hlC := hk7.ref.lt
        have kQ0 : ∀ x : Cw w7, x.w.cell? ⟨Q, 0, none⟩ = some (.int .i64 s.kind) := fun x => cellB ((x.h.block _ hlq).trans hq7) 0 _ rfl
        have kQ1 : ∀ x : Cw w7, x.w.cell? ⟨Q, 1, none⟩ = some (.string (bs s.k)) := fun x => cellB ((x.h.block _ hlq).trans hq7) 1 _ rfl
        have kQ2 : ∀ x : Cw w7, x.w.cell? ⟨Q, 2, none⟩ = some (.string (bs s.v)) := fun x => cellB ((x.h.block _ hlq).trans hq7) 2 _ rfl
        have kQ3 : ∀ x : Cw w7, x.w.cell? ⟨Q, 3, none⟩ = some (.string (bs s.o)) := fun x => cellB ((x.h.block _ hlq).trans hq7) 3 _ rfl
        have kC : ∀ x : Cw w7, x.w.cell? ⟨C, 0, none⟩ = some (.slice ua l'.length uc) := fun x => by rw [← hLl]; exact (x.h.cell (p := ⟨C, 0, none⟩) hlC).trans hcu
        have g14 : ∀ x : Cw w7, Calls Tryd.prog 14 #[.agg #[.int .i64 s.kind, .string (bs s.k), .string (bs s.v), .string (bs s.o)]] x.w fun e w'' => e = .returned (.int .i64 (chk s.kind s.k s.v s.o)) ∧ ∃ y : Cw w7, w'' = y.w := fun x => by
          refine (Check_any s.kind s.k s.v s.o x.w).mono ?_
          rintro e W' ⟨rfl, h⟩
          exact ⟨rfl, ⟨W', x.h.trans (h.mono x.h.size)⟩, rfl⟩
        have g13 : ∀ x : Cw w7, Calls Tryd.prog 13 #[.agg #[.int .i64 s.kind, .string (bs s.k), .string (bs s.v), .string (bs s.o)]] x.w fun e w'' => e = .returned (.agg #[.int .i64 s.kind, .string (bs s.k), .string (bs s.v), .string (bs s.o)]) ∧ ∃ y : Cw w7, w'' = y.w := fun x => by
          refine (ref_any s.kind s.k s.v s.o x.w).mono ?_
          rintro e W' ⟨rfl, h⟩
          exact ⟨rfl, ⟨W', x.h.trans (h.mono x.h.size)⟩, rfl⟩
        have g15 : ∀ x : Cw w7, Calls Tryd.prog 15 #[.agg #[.int .i64 s.kind, .string (bs s.k), .string (bs s.v), .string (bs s.o)]] x.w fun e w'' => e = .returned (.int .i64 (chk s.kind s.k s.v s.o)) ∧ ∃ y : Cw w7, w'' = y.w := fun x => by
          refine (rCheck_any s.kind s.k s.v s.o x.w).mono ?_
          rintro e W' ⟨rfl, h⟩
          exact ⟨rfl, ⟨W', x.h.trans (h.mono x.h.size)⟩, rfl⟩
        have g16 : ∀ x : Cw w7, Calls Tryd.prog 16 #[.pointer (some ⟨w.heap.size, 0, none⟩)] x.w fun e w'' => e = .returned (.string (bs (textT l'))) ∧ ∃ y : Cw w7, w'' = y.w := fun x => by
          have hx := hk7.on x.h
          refine (Text_any hx.tab (he.next hx.below)).mono ?_
          rintro e W' ⟨rfl, h⟩
          exact ⟨rfl, ⟨W', x.h.trans (h.mono x.h.size)⟩, rfl⟩
        have g17 : ∀ x : Cw w7, Calls Tryd.prog 17 #[.pointer (some ⟨C, 0, none⟩)] x.w fun e w'' => e = .returned (.string (bs (textT l'))) ∧ ∃ y : Cw w7, w'' = y.w := fun x => by
          have hx := hk7.on x.h
          refine (rTextT_any hx.ref hP' hok').mono ?_
          rintro e W' ⟨rfl, h⟩
          exact ⟨rfl, ⟨W', x.h.trans (h.mono x.h.size)⟩, rfl⟩
        have g18 : ∀ x : Cw w7, Calls Tryd.prog 18 #[.pointer (some ⟨w.heap.size, 0, none⟩)] x.w fun e w'' => e = .returned (.int .i64 l'.length) ∧ ∃ y : Cw w7, w'' = y.w := fun x => by
          have hx := hk7.on x.h
          refine (Len_any hx.tab).mono ?_
          rintro e W' ⟨rfl, rfl⟩
          exact ⟨rfl, x, rfl⟩
        have hst := str_same t
        have hEE : (E != E) = false := by simp
        obtain ⟨K, hKK⟩ : ∃ K, chk s.kind s.k s.v s.o = K := ⟨_, rfl⟩
        rw [hKK] at g14 g15
        have hKe : (K != K) = false := by simp
        obtain ⟨X, hX⟩ : ∃ X, textT l' = X := ⟨_, rfl⟩
        rw [hX] at g16 g17
        have hsX := str_same X
        have hll : ((l'.length : Int) != (l'.length : Int)) = false := by simp
        have hne : Nonempty (Cw w7) := ⟨⟨w7, Below.refl _ _⟩⟩
        clear hk7 hcu hq7 hlq hlC hLl hKK hX HQ2 HREF
        refine wp_region_grow (W0 := w7) (by kernel_rfl) (by kernel_rfl) (Below.refl _ _) ?_
        repeat (go_big_quiet_step (first | (go_at_call 14; exact g14 _) | (go_at_call 13; exact g13 _) | (go_at_call 15; exact g15 _) | (go_at_call 16; exact g16 _) | (go_at_call 17; exact g17 _) | (go_at_call 18; exact g18 _)))
        refine wpQuiet_nil ?_
        rintro _ ⟨xx, rfl⟩
        have HX2 : Hid (S2 w w.heap.size C 0 l' L' v5 (.slice ua L'.length uc) xx.w) := HK7.out.on xx.h
        clear kQ0 kQ1 kQ2 kQ3 kC g13 g14 g15 g16 g17 g18
        go_wp2
        go_roundg (l0.length - (n + 1))
        case measure => omega
        case rel => exact ⟨n + 1, l', L', v5, _, by omega, by go_num, HX2.out, hP'⟩
end Go.Proofs.YtmkmidahfcjcgaaDoor
