/- Moots: one, walked; steps that come in. -/
import Derived.Test.YtfjbhljnledphaaDoorMoD
namespace Go.Proofs.YtfjbhljnledphaaDoor
open Go.RowKit
attribute [local go_sem ↓] Go.wp_at_zero Go.wp_at_succ

theorem one_r1 : moR (cls []) zK 0 1 1 1 0 = (0, true, 0) := by decide +kernel
theorem one_l1 : moL (cls []) zK 0 1 1 1 0 = [([1], [1, 1, 1, 1])] := by decide +kernel
theorem one_c1 : moC (cls []) zK 0 1 1 1 0 = [(1, 0), (0, 0), (0, 0), (0, 0), (0, 0), (0, 0), (0, 0), (0, 0)] := by decide +kernel
def oneK : List Kn := [(1, 0), (0, 0), (0, 0), (0, 0), (0, 0), (0, 0), (0, 0), (0, 0)]
theorem one_r2 : moR [([1], [1, 1, 1, 1])] oneK 0 1 1 2 0 = (0, false, 0) := by decide +kernel
theorem one_l2 : moL [([1], [1, 1, 1, 1])] oneK 0 1 1 2 0 = [([1], [1, 1, 1, 1])] := by decide +kernel
theorem one_c2 : moC [([1], [1, 1, 1, 1])] oneK 0 1 1 2 0 = oneK := by decide +kernel
theorem one_r3 : moR [([1], [1, 1, 1, 1])] oneK 0 2 1 1 0 = (150, true, 0) := by decide +kernel
theorem one_l3 : moL [([1], [1, 1, 1, 1])] oneK 0 2 1 1 0 = [([1], [1, 1, 1, 1])] := by decide +kernel
/-- Do, where what it tells is known. -/
theorem MDo_told {c n k g s : Int} {base M B : Nat} {v u : Value} {L : List Rc} {T : List C3} {cl : List Kn} {w : World} (h : MtAt base w M B v u L T cl) {cs : List (List Nat × List Nat)} (hL : cls L = cs) {a : Int} {b : Bool} {e : Int} (hr : moR cs cl c n k g s = (a, b, e)) :
    Calls Tryd.prog 4 #[.pointer (some ⟨M, 0, none⟩), .int .i64 c, .int .i64 n, .agg #[.int .i64 k, .int .i64 g, .int .i64 s]] w fun x W' => x = .returned (.tuple #[.int .i64 a, .bool b, .int .i64 e]) ∧ ∃ v' u' L' T', cls L' = moL cs cl c n k g s ∧ MtAt base W' M B v' u' L' T' (moC cs cl c n k g s) ∧ MK M B v u L v' u' L' w W' := by
  subst hL
  have := MDo_all c n k g s base M B v u L T cl w h
  rw [hr] at this
  exact this
theorem fld0 (n : Int) (v : Value) (a b c d : Int) (W : World) : (Instr.field 33 (.agg (cf n v a b c d)) 0).run Tryd.prog W = .ok (.int .i64 n) W := by kernel_rfl
set_option maxRecDepth 20000 in
set_option maxHeartbeats 1000000 in
theorem one_any (w : World) : Calls Tryd.prog 8 #[] w fun e W' => e = .returned (.bool true) ∧ Below w.heap.size w W' := by
  have hN := MNew_any w
  go_enter Tryd.func8, Tryd.ntmps8
  go_upto_region 2 with (go_at_call 15; refine hN.mono ?_; rintro e w1 ⟨M, B, rfl, h1, hb1⟩; have H1 : Hid (MtAt w.heap.size w1 M B (.slice none 0 0) (.slice none 0 0) [] [] zK ∧ Below w.heap.size w w1) := ⟨h1, hb1⟩; clear h1 hb1)
  clear hN
  have D1 := MDo_told H1.out.1 rfl one_r1
  go_upto_region 3 with (go_at_call 4; refine D1.mono ?_; rintro e w2 ⟨rfl, v2, u2, L2, T2, c2, m2, k2⟩; rw [one_l1] at c2; rw [one_c1] at m2; have H2 : Hid (cls L2 = [([1], [1, 1, 1, 1])] ∧ MtAt w.heap.size w2 M B v2 u2 L2 T2 oneK ∧ Below w.heap.size w w2) := ⟨c2, m2, k2.below H1.out.1 H1.out.2⟩; clear c2 m2 k2)
  clear D1 H1
  have D2 := MDo_told H2.out.2.1 H2.out.1 one_r2
  go_upto_region 4 with (go_at_call 4; refine D2.mono ?_; rintro e w3 ⟨rfl, v3, u3, L3, T3, c3, m3, k3⟩; rw [one_l2] at c3; rw [one_c2] at m3; have H3 : Hid (cls L3 = [([1], [1, 1, 1, 1])] ∧ MtAt w.heap.size w3 M B v3 u3 L3 T3 oneK ∧ Below w.heap.size w w3) := ⟨c3, m3, k3.below H2.out.2.1 H2.out.2.2⟩; clear c3 m3 k3)
  clear D2 H2
  have D3 := MDo_told H3.out.2.1 H3.out.1 one_r3
  go_upto_region 5 with (go_at_call 4; refine D3.mono ?_; rintro e w4 ⟨rfl, v4, u4, L4, T4, c4, m4, k4⟩; rw [one_l3] at c4; have H4 : Hid (L4.length = 1 ∧ (∃ cl, MtAt w.heap.size w4 M B v4 u4 L4 T4 cl) ∧ Below w.heap.size w w4) := ⟨by rw [← cls_len, c4]; rfl, ⟨_, m4⟩, k4.below H3.out.2.1 H3.out.2.2⟩; clear c4 m4 k4)
  clear D3 H3
  obtain ⟨hl4, ⟨cl4, hm4⟩, hb4⟩ := H4.out
  have hLast := MLast_any _ M B v4 u4 L4 T4 cl4 w4 hm4
  rw [hl4] at hLast
  have z3 : ∀ v a b c d W, (Instr.field 33 (.agg (cf 1 v a b c d)) 0).run Tryd.prog W = .ok (.int .i64 1) W := fun v a b c d W => fld0 1 v a b c d W
  clear hm4 hl4
  go_wp2_with (go_at_call 6; refine hLast.mono ?_; rintro e w5 ⟨x, rfl, u5, a, b, c, d, j1, rfl, j3, j4, j5⟩; have hB5 := hb4.trans (j5.mono hb4.size); have hil := j3; obtain ⟨ua, uc, rfl⟩ := j3.slice; clear j1 hil j4 j5)
  go_ret
  exact ⟨rfl, hB5⟩
/-- A step: client, number, command. -/
abbrev S5 := Int × Int × Int × Int × Int
def s5s (x : S5) : List Value := [.int .i64 x.1, .int .i64 x.2.1, .int .i64 x.2.2.1, .int .i64 x.2.2.2.1, .int .i64 x.2.2.2.2]
def scs (l : List S5) : List Value := l.flatMap s5s
theorem scs_snoc (l : List S5) (x : S5) : scs (l ++ [x]) = scs l ++ s5s x := by simp [scs]
theorem scs_at : ∀ (l : List S5) (i : Nat) (x : S5), l[i]? = some x → ∀ j, j < 5 → (scs l)[i * 5 + j]? = (s5s x)[j]?
  | [], _, _, h, _, _ => by cases h
  | a :: l, 0, x, h, j, hj => by
    have : a = x := by simpa using h
    subst this
    show (s5s a ++ scs l)[0 * 5 + j]? = _
    rw [List.getElem?_append_left (by simp [s5s]; omega), Nat.zero_mul, Nat.zero_add]
  | a :: l, i + 1, x, h, j, hj => by
    show (s5s a ++ scs l)[(i + 1) * 5 + j]? = _
    rw [List.getElem?_append_right (by simp [s5s]; omega), show (i + 1) * 5 + j - (s5s a).length = i * 5 + j by simp [s5s]; omega]
    exact scs_at l i x (by simpa using h) j hj
/-- A slice of just these steps. -/
def Ss (w : World) (v : Value) (l : List S5) : Prop :=
  (l = [] ∧ ∃ a c, v = .slice a 0 c) ∨ ∃ b o cap, v = .slice (some ⟨b, o, none⟩) l.length cap ∧ b < w.heap.size ∧ ∀ (i : Nat) x, l[i]? = some x → ∀ j u, (s5s x)[j]? = some u → w.cell? ⟨b, o + i * 5 + j, none⟩ = some u
theorem Ss.next {w w' : World} {v : Value} {l : List S5} (h : Ss w v l) (hb : Below w.heap.size w w') : Ss w' v l := by
  rcases h with h | ⟨b, o, cap, rfl, hlt, h⟩
  · exact .inl h
  · exact .inr ⟨b, o, cap, rfl, Nat.lt_of_lt_of_le hlt hb.size, fun i x hx j u hu => (hb.cell (p := ⟨b, o + i * 5 + j, none⟩) hlt).trans (h i x hx j u hu)⟩
theorem Ss.slice {w : World} {v : Value} {l : List S5} (h : Ss w v l) : ∃ a c, v = .slice a l.length c := by
  rcases h with ⟨rfl, a, c, rfl⟩ | ⟨b, o, cap, rfl, _⟩
  · exact ⟨a, c, rfl⟩
  · exact ⟨_, _, rfl⟩
theorem Ss.at {w : World} {a : Option Addr} {c : Nat} {l : List S5} (h : Ss w (.slice a l.length c) l) {i : Nat} {x : S5} (hi : l[i]? = some x) : ∃ b o, a = some ⟨b, o, none⟩ ∧ w.cell? ⟨b, o + i * 5, none⟩ = some (.int .i64 x.1) ∧ w.cell? ⟨b, o + i * 5 + 1, none⟩ = some (.int .i64 x.2.1) ∧ w.cell? ⟨b, o + i * 5 + 2, none⟩ = some (.int .i64 x.2.2.1) ∧ w.cell? ⟨b, o + i * 5 + 3, none⟩ = some (.int .i64 x.2.2.2.1) ∧ w.cell? ⟨b, o + i * 5 + 4, none⟩ = some (.int .i64 x.2.2.2.2) := by
  rcases h with ⟨rfl, _⟩ | ⟨b, o, cap, hv, hlt, h⟩
  · cases hi
  · injection hv with h1 _ _
    exact ⟨b, o, h1, h i x hi 0 _ rfl, h i x hi 1 _ rfl, h i x hi 2 _ rfl, h i x hi 3 _ rfl, h i x hi 4 _ rfl⟩
theorem Ss_owns {w : World} {base : Nat} {u : Value} {l : List S5} (h : w.ownsRow base 25 5 u l.length (scs l)) : Ss w u l := by
  rcases Nat.eq_zero_or_pos l.length with h0 | h0
  · obtain ⟨a, c, rfl⟩ := owns_slice h
    have := List.length_eq_zero_iff.1 h0
    subst this
    exact .inl ⟨rfl, a, c, rfl⟩
  · obtain ⟨g, cap, rfl, hb, hlt⟩ := h.form h0
    refine .inr ⟨g, 0, cap, rfl, hlt, fun i x hx j u hu => ?_⟩
    have hi : i < l.length := (List.getElem?_eq_some_iff.1 hx).1
    have hj : j < 5 := by have := (List.getElem?_eq_some_iff.1 hu).1; simpa [s5s] using this
    have e := (h.cellAt (i * 5 + j) (by omega)).trans ((scs_at l i x hx j hj).trans hu)
    rw [Nat.zero_add]
    exact e
end Go.Proofs.YtfjbhljnledphaaDoor
