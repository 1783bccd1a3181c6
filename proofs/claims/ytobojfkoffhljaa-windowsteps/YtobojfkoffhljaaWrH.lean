/- does, walked. -/
import Derived.Test.YtobojfkoffhljaaWrG
namespace Go.Proofs.Ytobojfkoffhljaa
open Go.RowKit Go.Maps
attribute [local go_sem ↓] Go.wp_at_zero Go.wp_at_succ

theorem TwB.on {base B R : Nat} {g : Int} {f c : Nat} {Fp : Nat → Prop} {W W' : World} (h : TwB base B R g f c Fp W) (hb : Below W.heap.size W W') : TwB base B R g f c Fp W' := by
  obtain ⟨low, S, T, ms, mb, vl, vd, h, rfl⟩ := h
  exact ⟨low, S, T, ms, mb, vl, vd, h.keep hb, rfl⟩
theorem TwB.lt {base B R : Nat} {g : Int} {f c : Nat} {Fp : Nat → Prop} {W : World} (h : TwB base B R g f c Fp W) {k : Nat} (hk : Fp k) : base ≤ k ∧ k < W.heap.size := by
  obtain ⟨low, S, T, ms, mb, vl, vd, h, rfl⟩ := h
  exact h.fp hk
theorem TwB.more {base B R : Nat} {g : Int} {f c c' : Nat} {Fp : Nat → Prop} {W : World} (h : TwB base B R g f c Fp W) (hc : c ≤ c') : TwB base B R g f c' Fp W := by
  obtain ⟨low, S, T, ms, mb, vl, vd, h, rfl⟩ := h
  exact ⟨low, S, T, ms, mb, vl, vd, h.more hc, rfl⟩
/-- The step as it is boxed. -/
structure Dx (base B R : Nat) (g : Int) (f c : Nat) (Fp : Nat → Prop) (w : World) (what view n : Int) (s : List UInt8) : Prop where
  two : TwB base B R g f c Fp (w.alloc (.cells #[.int .i64 what, .int .i64 view, .int .i64 n, .string (bs s)] 34))
  mv : Mvd Fp Fp w (w.alloc (.cells #[.int .i64 what, .int .i64 view, .int .i64 n, .string (bs s)] 34))
  box : (w.alloc (.cells #[.int .i64 what, .int .i64 view, .int .i64 n, .string (bs s)] 34)).heap[w.heap.size]? = some (.cells #[.int .i64 what, .int .i64 view, .int .i64 n, .string (bs s)] 34)
  out : ¬ Fp w.heap.size
theorem TwB.box {base B R : Nat} {g : Int} {f c : Nat} {Fp : Nat → Prop} {w : World} (h : TwB base B R g f c Fp w) (what view n : Int) (s : List UInt8) : Dx base B R g f c Fp w what view n s := by
  have hb := (Below.refl w.heap.size w).alloc (Nat.le_refl _) (.cells #[.int .i64 what, .int .i64 view, .int .i64 n, .string (bs s)] 34)
  exact ⟨h.on hb, Mvd.of_below hb _, heap_alloc_new _ _, fun e => by have := (h.lt e).2; omega⟩
theorem Dx.still {base B R : Nat} {g : Int} {f c : Nat} {Fp Fp1 : Nat → Prop} {w w1 : World} {what view n : Int} {s : List UInt8} (h : Dx base B R g f c Fp w what view n s) (m : Mvd Fp Fp1 (w.alloc (.cells #[.int .i64 what, .int .i64 view, .int .i64 n, .string (bs s)] 34)) w1) : w1.heap[w.heap.size]? = some (.cells #[.int .i64 what, .int .i64 view, .int .i64 n, .string (bs s)] 34) :=
  (m.block _ (Array.getElem?_eq_some_iff.1 h.box).1 h.out).trans h.box
set_option maxRecDepth 20000 in
set_option maxHeartbeats 2000000 in
theorem does_at {base B R : Nat} {g : Int} {f c : Nat} {Fp : Nat → Prop} {w : World} (h : TwB base B R g f c Fp w) (hc : c < 1000) {what : Int} (hw : what = 0 ∨ what = 1) (view n : Int) (s : List UInt8) : Calls Try.prog 11 #[.pointer (some ⟨B, 0, none⟩), .pointer (some ⟨R, 0, none⟩), .agg #[.int .i64 what, .int .i64 view, .int .i64 n, .string (bs s)]] w fun e W' => e = .returned (.bool true) ∧ ∃ Fp', TwB base B R g f (c + 1) Fp' W' ∧ Mvd Fp Fp' w W' := by
  have hx := h.box what view n s
  obtain ⟨E, hA⟩ := at_both hx.two hc view n
  have HX : Hid (_) := hx
  have z0 := cellB hx.box 0 _ rfl
  have z1 := cellB hx.box 1 _ rfl
  have z2 := cellB hx.box 2 _ rfl
  clear h hx
  rcases hw with rfl | rfl
  all_goals
    go_enter Try.func11, Try.ntmps11
    go_upto_region 6 with (first
      | (go_at_call 18; refine hA.mono ?_; rintro e w1 ⟨p, Fp1, rfl, hp, m1, hR⟩; have r1 := HX.out.still m1; have y1 := cellB r1 1 _ rfl; have y2 := cellB r1 2 _ rfl; have HM : Hid (_) := m1; have HP : Hid (_) := hp; clear hA m1 hp r1)
      | (go_at_call 26; refine hR.mono ?_; rintro e w2 ⟨rfl, Fp2, t2, m2⟩; have HT : Hid (_ ∧ _) := ⟨t2, m2⟩; clear t2 m2 hR))
    rcases p with _ | a
    · have hE : ¬ E = 0 := HP.out.1 rfl
      have hz : (E == 0) = false := by simp [hE]
      go_wp2
      go_ret
      exact ⟨rfl, Fp2, HT.out.1, (HX.out.mv.trans HM.out).trans HT.out.2⟩
    · have hE : E = 0 := by
        by_cases h9 : E = 0
        · exact h9
        · exact absurd (HP.out.2 h9) (by simp)
      subst hE
      go_wp2
      go_ret
      exact ⟨rfl, Fp2, HT.out.1, (HX.out.mv.trans HM.out).trans HT.out.2⟩
set_option maxRecDepth 20000 in
set_option maxHeartbeats 2000000 in
theorem does_note {base B R : Nat} {g : Int} {f c : Nat} {Fp : Nat → Prop} {w : World} (h : TwB base B R g f c Fp w) (hc : c < 1000) (view n : Int) (s : List UInt8) : Calls Try.prog 11 #[.pointer (some ⟨B, 0, none⟩), .pointer (some ⟨R, 0, none⟩), .agg #[.int .i64 2, .int .i64 view, .int .i64 n, .string (bs s)]] w fun e W' => e = .returned (.bool true) ∧ ∃ Fp', TwB base B R g f (c + 1) Fp' W' ∧ Mvd Fp Fp' w W' := by
  have hx := h.box 2 view n s
  obtain ⟨b, E, hA⟩ := note_both hx.two hc view n s
  have HX : Hid (_) := hx
  have z0 := cellB hx.box 0 _ rfl
  have z1 := cellB hx.box 1 _ rfl
  have z2 := cellB hx.box 2 _ rfl
  have z3 := cellB hx.box 3 _ rfl
  clear h hx
  go_enter Try.func11, Try.ntmps11
  go_wp2_with (first
    | (go_at_call 23; refine hA.mono ?_; rintro e w1 ⟨Fp1, rfl, m1, hR⟩; have r1 := HX.out.still m1; have y1 := cellB r1 1 _ rfl; have y2 := cellB r1 2 _ rfl; have y3 := cellB r1 3 _ rfl; have HM : Hid (_) := m1; clear hA m1 r1)
    | (go_at_call 27; refine hR.mono ?_; rintro e w2 ⟨rfl, Fp2, t2, m2⟩; have HT : Hid (_ ∧ _) := ⟨t2, m2⟩; clear t2 m2 hR))
  go_ret
  exact ⟨by first | rfl | simp, Fp2, HT.out.1, (HX.out.mv.trans HM.out).trans HT.out.2⟩
set_option maxRecDepth 20000 in
set_option maxHeartbeats 2000000 in
theorem does_raise {base B R : Nat} {g : Int} {f c : Nat} {Fp : Nat → Prop} {w : World} (h : TwB base B R g f c Fp w) (hc : c < 1000) (view n : Int) (s : List UInt8) : Calls Try.prog 11 #[.pointer (some ⟨B, 0, none⟩), .pointer (some ⟨R, 0, none⟩), .agg #[.int .i64 3, .int .i64 view, .int .i64 n, .string (bs s)]] w fun e W' => e = .returned (.bool true) ∧ ∃ Fp', TwB base B R g f (c + 1) Fp' W' ∧ Mvd Fp Fp' w W' := by
  have hx := h.box 3 view n s
  obtain ⟨b, E, hA⟩ := raise_both hx.two hc n
  have HX : Hid (_) := hx
  have z0 := cellB hx.box 0 _ rfl
  have z2 := cellB hx.box 2 _ rfl
  clear h hx
  go_enter Try.func11, Try.ntmps11
  go_wp2_with (first
    | (go_at_call 24; refine hA.mono ?_; rintro e w1 ⟨Fp1, rfl, m1, hR⟩; have r1 := HX.out.still m1; have y2 := cellB r1 2 _ rfl; have HM : Hid (_) := m1; clear hA m1 r1)
    | (go_at_call 28; refine hR.mono ?_; rintro e w2 ⟨rfl, Fp2, t2, m2⟩; have HT : Hid (_ ∧ _) := ⟨t2, m2⟩; clear t2 m2 hR))
  go_ret
  exact ⟨by first | rfl | simp, Fp2, HT.out.1, (HX.out.mv.trans HM.out).trans HT.out.2⟩
set_option maxRecDepth 20000 in
set_option maxHeartbeats 2000000 in
theorem does_other {base B R : Nat} {g : Int} {f c : Nat} {Fp : Nat → Prop} {w : World} (h : TwB base B R g f c Fp w) {what : Int} (w0 : (what == 0) = false) (w1 : (what == 1) = false) (w2 : (what == 2) = false) (w3 : (what == 3) = false) (w4 : (what == 4) = false) (view n : Int) (s : List UInt8) : Calls Try.prog 11 #[.pointer (some ⟨B, 0, none⟩), .pointer (some ⟨R, 0, none⟩), .agg #[.int .i64 what, .int .i64 view, .int .i64 n, .string (bs s)]] w fun e W' => e = .returned (.bool true) ∧ ∃ Fp', TwB base B R g f (c + 1) Fp' W' ∧ Mvd Fp Fp' w W' := by
  have hx := h.box what view n s
  have HX : Hid (_) := hx
  have z0 := cellB hx.box 0 _ rfl
  clear h hx
  go_enter Try.func11, Try.ntmps11
  go_wp2
  go_ret
  exact ⟨rfl, Fp, HX.out.two.more (by omega), HX.out.mv⟩
end Go.Proofs.Ytobojfkoffhljaa
