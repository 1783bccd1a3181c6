/- The law TableBack, walked. -/
import Derived.Test.YtmkmidahfcjcgaaDoorTcB
import Derived.Test.YtmkmidahfcjcgaaDoorTbS
namespace Go.Proofs.YtmkmidahfcjcgaaDoor
open Go.RowKit
attribute [local go_sem ↓] Go.wp_at_zero Go.wp_at_succ

theorem text_len {l : List Rw} (h : Ok l) : (textT l).length ≤ 3000 := by
  obtain ⟨h1, h2⟩ := flat_tot h
  have := pack_len (flat l) (by omega)
  unfold textT
  omega
/-- Two tables, and all that stood at W0. -/
structure T2 (W0 : World) (B1 B2 : Nat) (l1 l2 : List Rw) (v1 v2 : Value) (W : World) : Prop where
  t1 : TabAt W B1 l1 v1
  t2 : TabAt W B2 l2 v2
  ne : B1 ≠ B2
  o1 : ∀ k, v1.ownBlock = some k → k ≠ B2
  o2 : ∀ k, v2.ownBlock = some k → k ≠ B1
  b1 : W0.heap.size ≤ B1
  b2 : W0.heap.size ≤ B2
  below : Below W0.heap.size W0 W
theorem T2.on {W0 W W' : World} {B1 B2 : Nat} {l1 l2 : List Rw} {v1 v2 : Value} (h : T2 W0 B1 B2 l1 l2 v1 v2 W) (hb : Below W.heap.size W W') : T2 W0 B1 B2 l1 l2 v1 v2 W' :=
  ⟨h.t1.on hb, h.t2.on hb, h.ne, h.o1, h.o2, h.b1, h.b2, h.below.trans (hb.mono h.below.size)⟩
theorem T2.turn {W0 W : World} {B1 B2 : Nat} {l1 l2 : List Rw} {v1 v2 : Value} (h : T2 W0 B1 B2 l1 l2 v1 v2 W) : T2 W0 B2 B1 l2 l1 v2 v1 W := ⟨h.t2, h.t1, h.ne.symm, h.o2, h.o1, h.b2, h.b1, h.below⟩
theorem T2.do {W0 W W' : World} {B1 B2 : Nat} {l1 l2 l' : List Rw} {v1 v2 : Value} (h : T2 W0 B1 B2 l1 l2 v1 v2 W) (hd : DoPost W B1 v1 l' W') : ∃ v', T2 W0 B1 B2 l' l2 v' v2 W' := by
  obtain ⟨v', h1, h2, h3⟩ := hd
  refine ⟨v', h1, h.t2.keep (h3.block B2 h.t2.lt h.ne.symm) (fun k hk hlt => h3.block k hlt (h.o2 k hk)), h.ne, fun k hk => ?_, h.o2, h.b1, h.b2, h.below.trans (h3.below h.b1 h.below.size)⟩
  rcases h2 k hk with e | e
  · exact h.o1 k e
  · have := h.t2.lt
    omega
theorem T2.run1 {W0 W : World} {B1 B2 : Nat} {l1 l2 : List Rw} {v1 v2 : Value} (h : T2 W0 B1 B2 l1 l2 v1 v2 W) (kind : Int) (k vl o : List UInt8) {t : List UInt8} {E : Int} {l' : List Rw} (hd : doR l1 kind k vl o = (t, E, l')) :
    Calls Tryd.prog 11 #[.pointer (some ⟨B1, 0, none⟩), opV kind k vl o] W fun e W' => e = .returned (.tuple #[.string (bs t), .int .i64 E]) ∧ (∃ v', T2 W0 B1 B2 l' l2 v' v2 W') ∧ Mv B1 W W' := by
  have := Do_any h.t1 kind k vl o
  rw [hd] at this
  refine this.mono ?_
  rintro e W' ⟨rfl, h1⟩
  obtain ⟨_, _, _, hm⟩ := id h1
  exact ⟨rfl, h.do h1, hm⟩
theorem T2.run2 {W0 W : World} {B1 B2 : Nat} {l1 l2 : List Rw} {v1 v2 : Value} (h : T2 W0 B1 B2 l1 l2 v1 v2 W) (kind : Int) (k vl o : List UInt8) {t : List UInt8} {E : Int} {l' : List Rw} (hd : doR l2 kind k vl o = (t, E, l')) :
    Calls Tryd.prog 11 #[.pointer (some ⟨B2, 0, none⟩), opV kind k vl o] W fun e W' => e = .returned (.tuple #[.string (bs t), .int .i64 E]) ∧ (∃ v', T2 W0 B1 B2 l1 l' v1 v' W') ∧ Mv B2 W W' := by
  refine (h.turn.run1 kind k vl o hd).mono ?_
  rintro e W' ⟨rfl, ⟨v', h1⟩, hm⟩
  exact ⟨rfl, ⟨v', h1.turn⟩, hm⟩
set_option maxRecDepth 20000 in
set_option maxHeartbeats 4000000 in
theorem back_any (a b : List Op4) (va vb : Value) (w : World) (he : Env w) (ha : Ol w va a) (hob : Ol w vb b) : Calls Tryd.prog 5 #[va, vb] w fun e W' => e = .returned (.bool true) ∧ Below w.heap.size w W' := by
  obtain ⟨aa, ac, rfl⟩ := ha.slice
  obtain ⟨ba, bc, rfl⟩ := hob.slice
  have hN := New_any w
  have HF : Hid (∀ W, Below w.heap.size w W → Calls Tryd.prog 10 #[] W fun e W' => e = .returned (.bool true) ∧ Below w.heap.size w W') := fun W hb => by
    refine (four_any W (he.p.next hb)).mono ?_
    rintro e W' ⟨rfl, h⟩
    exact ⟨rfl, hb.trans (h.mono hb.size)⟩
  by_cases hl : 200 < a.length ∨ 200 < b.length
  · by_cases hl1 : 200 < a.length
    · have hl2 : (200 : Int) < (a.length : Int) := by omega
      clear hl ha hob he
      go_enter Tryd.func5, Tryd.ntmps5
      go_wp2_with (first
        | (go_at_call 9; refine hN.mono ?_; clear hN; rintro e w1 ⟨rfl, ht, hb, _⟩; have hF := HF.out _ hb; clear HF ht)
        | (go_at_call 10; refine hF.mono ?_; rintro e w2 ⟨rfl, hb2⟩))
      go_ret
      exact ⟨rfl, hb2⟩
    · have hl2 : decide ((200 : Int) < (a.length : Int)) = false := by simp; omega
      have hl3 : (200 : Int) < (b.length : Int) := by omega
      clear hl ha hob he hl1
      go_enter Tryd.func5, Tryd.ntmps5
      go_wp2_with (first
        | (go_at_call 9; refine hN.mono ?_; clear hN; rintro e w1 ⟨rfl, ht, hb, _⟩; have hF := HF.out _ hb; clear HF ht)
        | (go_at_call 10; refine hF.mono ?_; rintro e w2 ⟨rfl, hb2⟩))
      go_ret
      exact ⟨rfl, hb2⟩
  · have hl2 : (a.length : Int) ≤ 200 := by omega
    have hl3 : (b.length : Int) ≤ 200 := by omega
    have HT : Hid (∀ W l v, Tk w w.heap.size l v W → Calls Tryd.prog 16 #[.pointer (some ⟨w.heap.size, 0, none⟩)] W fun e W' => e = .returned (.string (bs (textT l))) ∧ Tk w w.heap.size l v W') := fun W l v h => by
      refine (Text_any h.tab (he.p.next h.below)).mono ?_
      rintro e W' ⟨rfl, hb⟩
      exact ⟨rfl, h.on hb⟩
    have HL : Hid (∀ W l v, Tk w w.heap.size l v W → Calls Tryd.prog 19 #[.string (bs (textT l))] W fun e W' => ∃ B v2, e = .returned (.tuple #[.pointer (some ⟨B, 0, none⟩), .int .i64 0]) ∧ T2 w w.heap.size B l l v v2 W') := fun W l v h => by
      have hok := h.tab.ok
      have := Load_any (textT l) W (by have := text_len hok; omega) (he.next h.below)
      rw [load_text hok] at this
      refine this.mono ?_
      rintro e W' ⟨B, v2, rfl, h1, h2, h3, h4⟩
      have hk := h.on h4
      have hlt := h.tab.lt
      have hs := h.below.size
      exact ⟨B, v2, rfl, hk.tab, h2, by omega, fun k hk' => (by have := h.tab.rows.lt k hk'; omega), fun k hk' => (by have := h3 k hk'; omega), Nat.le_refl _, by omega, hk.below⟩
    have HT1 : Hid (∀ W B l l2 v v2, T2 w w.heap.size B l l2 v v2 W → Calls Tryd.prog 16 #[.pointer (some ⟨w.heap.size, 0, none⟩)] W fun e W' => e = .returned (.string (bs (textT l))) ∧ T2 w w.heap.size B l l2 v v2 W') := fun W B l l2 v v2 h => by
      refine (Text_any h.t1 (he.p.next h.below)).mono ?_
      rintro e W' ⟨rfl, hb⟩
      exact ⟨rfl, h.on hb⟩
    have HT2 : Hid (∀ W B l l2 v v2, T2 w w.heap.size B l l2 v v2 W → Calls Tryd.prog 16 #[.pointer (some ⟨B, 0, none⟩)] W fun e W' => e = .returned (.string (bs (textT l2))) ∧ T2 w w.heap.size B l l2 v v2 W') := fun W B l l2 v v2 h => by
      refine (Text_any h.t2 (he.p.next h.below)).mono ?_
      rintro e W' ⟨rfl, hb⟩
      exact ⟨rfl, h.on hb⟩
    clear hl he
    go_enter Tryd.func5, Tryd.ntmps5
    go_wp2_with (go_at_call 9; refine hN.mono ?_; clear hN; rintro e w1 ⟨rfl, ht, hb, hsz⟩)
    have h0 : Tk w w.heap.size [] (.slice none 0 0) w1 := ⟨ht, by assumption⟩
    clear ht hsz
    go_loopg [36] a.length (fun gk i wr => ∃ (n : Nat) (l : List Rw) (v : Value), n + gk = a.length ∧ i = .int .i64 n ∧ Tk w w.heap.size l v wr)
    case atStart => exact ⟨0, [], _, by omega, rfl, h0⟩
    case round =>
      obtain ⟨n, l, v, hn, rfl, hK⟩ := hrel
      by_cases hn1 : n = a.length
      · subst hn1
        have hT1 := HT.out _ _ _ hK
        have HLl : Hid (∀ W v, Tk w w.heap.size l v W → _) := fun W v h => HL.out W l v h
        obtain ⟨X, hX⟩ : ∃ X, textT l = X := ⟨_, rfl⟩
        rw [hX] at hT1 HLl
        clear hK HT HL hX ha
        go_wp2_with (first
          | (go_at_call 16; refine hT1.mono ?_; clear hT1; rintro e w3 ⟨rfl, hk3⟩; have hL := HLl.out _ _ hk3; clear HLl hk3)
          | (go_at_call 19; refine hL.mono ?_; clear hL; rintro e w4 ⟨B, v2, rfl, hk4⟩))
        go_loopg [58] b.length (fun gk i wr => ∃ (m : Nat) (l : List Rw) (v v2 : Value), m + gk = b.length ∧ i = .int .i64 m ∧ T2 w w.heap.size B l l v v2 wr)
        case atStart => exact ⟨0, l, v, v2, by omega, rfl, hk4⟩
        case round =>
          clear hk4
          obtain ⟨m, l3, v3, v4, hm, rfl, hK2⟩ := hrel
          rename World => wq
          by_cases hm1 : m = b.length
          · subst hm1
            have hF := HF.out _ hK2.below
            clear HF HT1 HT2 hK2
            go_wp2_with (go_at_call 10; refine hF.mono ?_; rintro e w5 ⟨rfl, hb5⟩)
            go_ret
            exact ⟨rfl, hb5⟩
          · have hm2 : m < b.length := by omega
            obtain ⟨s, hs⟩ : ∃ s, b[m]? = some s := ⟨_, List.getElem?_eq_getElem hm2⟩
            obtain ⟨b', oo, rfl, hb0, c0, c1, c2, c3⟩ := (hob.on hK2.below).at hs
            have hka := hK2.on ((Below.refl _ wq).alloc (Nat.le_refl _) (.cells #[.int .i64 s.kind, .string (bs s.k), .string (bs s.v), .string (bs s.o)] 31))
            have hq := heap_alloc_new wq (.cells #[.int .i64 s.kind, .string (bs s.k), .string (bs s.v), .string (bs s.o)] 31)
            have hqs : wq.heap.size < (wq.alloc (.cells #[.int .i64 s.kind, .string (bs s.k), .string (bs s.v), .string (bs s.o)] 31)).heap.size := by simp
            have hqn : wq.heap.size ≠ w.heap.size := by have := hK2.t1.lt; omega
            obtain ⟨⟨t, E, l'⟩, hd⟩ : ∃ x, doR l3 s.kind s.k s.v s.o = x := ⟨_, rfl⟩
            have hD := hka.run1 s.kind s.k s.v s.o hd
            have HD2 : Hid (∀ W l v v2, T2 w w.heap.size B l l3 v v2 W → _) := fun W l v v2 h => h.run2 s.kind s.k s.v s.o hd
            have hT1 := fun W v v2 => HT1.out W B l' l' v v2
            have hT2 := fun W v v2 => HT2.out W B l' l' v v2
            obtain ⟨X, hX⟩ : ∃ X, textT l' = X := ⟨_, rfl⟩
            simp only [hX] at hT1 hT2
            have HTA : Hid (_) := hT1
            have HTB : Hid (_) := hT2
            have HQ : Hid (∀ W, Mv w.heap.size (wq.alloc (.cells #[.int .i64 s.kind, .string (bs s.k), .string (bs s.v), .string (bs s.o)] 31)) W → W.heap[wq.heap.size]? = some (.cells #[.int .i64 s.kind, .string (bs s.k), .string (bs s.v), .string (bs s.o)] 31)) := fun W hm => (hm.block _ hqs hqn).trans hq
            have hst := str_same t
            have hsX := str_same X
            have hEE : (E != E) = false := by simp
            unfold opV at hD HD2
            clear hs hka hd hK2 HF HT1 HT2 hX hq hqs hT1 hT2 hqn
            go_wp2_with (first
              | (go_at_call 11; refine hD.mono ?_; clear hD; rintro e w5 ⟨rfl, ⟨v5, hk5⟩, hm5⟩; have hq5 := HQ.out _ hm5; have r0 := cellB hq5 0 _ rfl; have r1 := cellB hq5 1 _ rfl; have r2 := cellB hq5 2 _ rfl; have r3 := cellB hq5 3 _ rfl; have hD2 := HD2.out _ _ _ _ hk5; clear HD2 hk5 hm5 hq5)
              | (go_at_call 11; refine hD2.mono ?_; clear hD2; rintro e w6 ⟨rfl, ⟨v6, hk6⟩, _⟩; have hTA := HTA.out _ _ _ hk6; clear HTA hk6)
              | (go_at_call 16; refine hTA.mono ?_; clear hTA; rintro e w7 ⟨rfl, hk7⟩; have hTB := HTB.out _ _ _ hk7; clear HTB hk7)
              | (go_at_call 16; refine hTB.mono ?_; clear hTB; rintro e w8 ⟨rfl, hk8⟩))
            go_roundg (b.length - (m + 1))
            case measure => omega
            case rel => exact ⟨m + 1, l', v5, v6, by omega, by go_num, hk8⟩
      · have hn2 : n < a.length := by omega
        obtain ⟨s, hs⟩ : ∃ s, a[n]? = some s := ⟨_, List.getElem?_eq_getElem hn2⟩
        obtain ⟨b', oo, rfl, hb0, c0, c1, c2, c3⟩ := (ha.on hK.below).at hs
        have hka := hK.on ((Below.refl _ wr).alloc (Nat.le_refl _) (.cells #[.int .i64 s.kind, .string (bs s.k), .string (bs s.v), .string (bs s.o)] 31))
        obtain ⟨⟨t, E, l'⟩, hd⟩ : ∃ x, doR l s.kind s.k s.v s.o = x := ⟨_, rfl⟩
        have hD := hka.do (Nat.le_refl _) s.kind s.k s.v s.o hd
        unfold opV at hD
        clear hs hka hd hK HT HF HT1 HT2 HL
        go_wp2_with (go_at_call 11; refine hD.mono ?_; clear hD; rintro e w4 ⟨rfl, v4, hk4⟩)
        go_roundg (a.length - (n + 1))
        case measure => omega
        case rel => exact ⟨n + 1, l', v4, by omega, by go_num, hk4⟩
end Go.Proofs.YtmkmidahfcjcgaaDoor
