/- The window and the document's own, a step of each. -/
import Derived.Test.YtobojfkoffhljaaWrF
namespace Go.Proofs.Ytobojfkoffhljaa
open Go.RowKit Go.Maps

/-- The two side by side, whatever is in them. -/
def TwB (base B R : Nat) (g : Int) (f c : Nat) (Fp : Nat → Prop) (W : World) : Prop := ∃ low S T ms mb vl vd, Tw base B R g f c low S T ms mb vl vd W ∧ Fp = fpB B R ms mb vl vd
theorem Tw.more {base B R : Nat} {g : Int} {f c c' : Nat} {low : Int} {S : List Sk} {T : List Bt} {ms mb : Option Nat} {vl vd : Value} {W : World} (h : Tw base B R g f c low S T ms mb vl vd W) (hc : c ≤ c') : Tw base B R g f c' low S T ms mb vl vd W :=
  ⟨h.win, h.ref, h.apart, h.above, h.views, Nat.le_trans h.fewS hc, Nat.le_trans h.fewT hc⟩
theorem at_both {base B R : Nat} {g : Int} {f c : Nat} {Fp : Nat → Prop} {W : World} (h : TwB base B R g f c Fp W) (hc : c < 1000) (view n : Int) : ∃ E : Int, Calls Try.prog 18 #[.pointer (some ⟨B, 0, none⟩), .int .i64 view, .int .i64 n] W fun e W1 => ∃ p Fp1, e = .returned (.tuple #[.pointer p, .int .i64 E]) ∧ (p = none ↔ E ≠ 0) ∧ Mvd Fp Fp1 W W1 ∧ Calls Try.prog 26 #[.pointer (some ⟨R, 0, none⟩), .int .i64 view, .int .i64 n] W1 fun e W2 => e = .returned (.int .i64 E) ∧ ∃ Fp2, TwB base B R g f (c + 1) Fp2 W2 ∧ Mvd Fp1 Fp2 W1 W2 := by
  obtain ⟨low, S, T, ms, mb, vl, vd, h, rfl⟩ := h
  have l0 := h.win.low0
  have l1 := h.win.low1
  have hS := h.fewS
  by_cases hE : askE low view n = 0
  · refine ⟨0, ?_⟩
    by_cases hb : ∃ b, (view, n, b) ∈ S
    · obtain ⟨b, hm⟩ := hb
      refine (At_there h.win hE hm).mono ?_
      rintro e W1 ⟨rfl, hb1⟩
      have h1 := h.keep hb1
      refine ⟨_, _, rfl, by simp, Mvd.of_below hb1 _, ?_⟩
      refine (rAt_ok h1.ref (by rw [List.length_map]; omega) l0 l1 hE).mono ?_
      rintro e W2 ⟨rfl, vl', r2, m2⟩
      rw [if_pos (any_pl.2 ⟨b, hm⟩)] at r2
      obtain ⟨w2, d2⟩ := h1.win.beside m2 h1.apart
      exact ⟨rfl, _, ⟨low, S, T, ms, mb, vl', vd, ⟨w2, r2, d2, h.above, h.views, by omega, Nat.le_trans h.fewT (by omega)⟩, rfl⟩, m2.right⟩
    · refine (At_new h.win (by omega) hE (fun a ha e => hb ⟨a.2.2, by rw [← e.1, ← e.2]; exact ha⟩)).mono ?_
      rintro e W1 ⟨b, ms', rfl, w1, _, _, v1⟩
      obtain ⟨r1, d1⟩ := h.ref.beside v1.mvd h.apart
      refine ⟨_, _, rfl, by simp, v1.mvd.left, ?_⟩
      refine (rAt_ok r1 (by rw [List.length_map]; omega) l0 l1 hE).mono ?_
      rintro e W2 ⟨rfl, vl', r2, m2⟩
      rw [if_neg (fun e => hb (any_pl.1 e))] at r2
      obtain ⟨w2, d2⟩ := w1.beside m2 d1
      refine ⟨rfl, _, ⟨low, _, T, ms', mb, vl', vd, ⟨w2, by rw [List.map_append]; exact r2, d2, fun a ha => ?_, h.views, by rw [List.length_append, List.length_cons, List.length_nil]; omega, Nat.le_trans h.fewT (by omega)⟩, rfl⟩, m2.right⟩
      rcases List.mem_append.1 ha with h9 | h9
      · exact h.above a h9
      · rw [List.mem_singleton] at h9
        subst h9
        exact (askE_0 hE).2.2.1
  · refine ⟨askE low view n, ?_⟩
    refine (At_bad h.win hE).mono ?_
    rintro e W1 ⟨rfl, rfl⟩
    refine ⟨none, _, rfl, by simp [hE], Mvd.of_below (Below.refl _ _) _, ?_⟩
    refine (rAt_bad h.ref l0 l1 hE).mono ?_
    rintro e W2 ⟨rfl, rfl⟩
    exact ⟨rfl, _, ⟨low, S, T, ms, mb, vl, vd, h.more (by omega), rfl⟩, Mvd.of_below (Below.refl _ _) _⟩
theorem raise_both {base B R : Nat} {g : Int} {f c : Nat} {Fp : Nat → Prop} {W : World} (h : TwB base B R g f c Fp W) (hc : c < 1000) (x : Int) : ∃ (b : Bool) (E : Int), Calls Try.prog 24 #[.pointer (some ⟨B, 0, none⟩), .int .i64 x] W fun e W1 => ∃ Fp1, e = .returned (.tuple #[.bool b, .int .i64 E]) ∧ Mvd Fp Fp1 W W1 ∧ Calls Try.prog 28 #[.pointer (some ⟨R, 0, none⟩), .int .i64 x] W1 fun e W2 => e = .returned (.tuple #[.bool b, .int .i64 E]) ∧ ∃ Fp2, TwB base B R g f (c + 1) Fp2 W2 ∧ Mvd Fp1 Fp2 W1 W2 := by
  obtain ⟨low, S, T, ms, mb, vl, vd, h, rfl⟩ := h
  have hS := h.fewS
  have hT := h.fewT
  cases hx : inB x 1099511627768
  · refine ⟨false, 1, (Raise_bad h.win hx).mono ?_⟩
    rintro e W1 ⟨rfl, hb1⟩
    have h1 := h.keep hb1
    refine ⟨_, rfl, Mvd.of_below hb1 _, (rRaise_bad h1.ref hx).mono ?_⟩
    rintro e W2 ⟨rfl, rfl⟩
    exact ⟨rfl, _, ⟨low, S, T, ms, mb, vl, vd, h1.more (by omega), rfl⟩, Mvd.of_below (Below.refl _ _) _⟩
  · by_cases hl : x ≤ low
    · refine ⟨false, 0, (Raise_no h.win hx hl).mono ?_⟩
      rintro e W1 ⟨rfl, hb1⟩
      have h1 := h.keep hb1
      refine ⟨_, rfl, Mvd.of_below hb1 _, (rRaise_no h1.ref hx hl).mono ?_⟩
      rintro e W2 ⟨rfl, rfl⟩
      exact ⟨rfl, _, ⟨low, S, T, ms, mb, vl, vd, h1.more (by omega), rfl⟩, Mvd.of_below (Below.refl _ _) _⟩
    · refine ⟨true, 0, (Raise_ok h.win hx (by omega)).mono ?_⟩
      rintro e W1 ⟨rfl, w1, v1⟩
      obtain ⟨r1, d1⟩ := h.ref.beside v1.mvd h.apart
      refine ⟨_, rfl, v1.mvd.left, (rRaise_ok r1 (by rw [List.length_map]; omega) (by rw [List.length_map]; omega) hx (by omega)).mono ?_⟩
      rintro e W2 ⟨rfl, vl', vd', r2, m2⟩
      rw [raise_S h.win.okS, raise_T h.views] at r2
      obtain ⟨w2, d2⟩ := w1.beside m2 d1
      refine ⟨rfl, _, ⟨x, _, _, ms, mb, vl', vd', ⟨w2, r2, d2, fun a ha => ?_, fun a ha => h.views a (List.mem_filter.1 ha).1, Nat.le_trans (List.length_filter_le _ _) (by omega), Nat.le_trans (List.length_filter_le _ _) (by omega)⟩, rfl⟩, m2.right⟩
      have h9 := (List.mem_filter.1 ha).2
      have h8 : ¬ a.2.1 ≤ x := by simpa using h9
      omega
theorem leave_left {base B R : Nat} {g : Int} {f c : Nat} {Fp : Nat → Prop} {W : World} (h : TwB base B R g f c Fp W) (hc : c < 1000) (x : Int) : ∃ (N : Int), Calls Try.prog 21 #[.pointer (some ⟨B, 0, none⟩), .int .i64 x] W fun e W1 => ∃ Fp1, e = .returned (.int .i64 N) ∧ Mvd Fp Fp1 W W1 ∧ ∀ W1', Below W1.heap.size W1 W1' → Calls Try.prog 29 #[.pointer (some ⟨R, 0, none⟩), .int .i64 x] W1' fun e W2 => e = .returned (.int .i64 N) ∧ ∃ Fp2, TwB base B R g f (c + 1) Fp2 W2 ∧ Mvd Fp1 Fp2 W1' W2 := by
  obtain ⟨low, S, T, ms, mb, vl, vd, h, rfl⟩ := h
  have hS := h.fewS
  have hT := h.fewT
  refine ⟨(S.length : Int) - ((S.filter (fun a => !(decide (a.1 < x)))).length : Int), (Leave_any h.win x).mono ?_⟩
  rintro e W1 ⟨rfl, w1, v1⟩
  obtain ⟨r1, d1⟩ := h.ref.beside v1.mvd h.apart
  refine ⟨_, rfl, v1.mvd.left, fun W1' hb => ?_⟩
  refine (rLeave_any (r1.next hb) (by rw [List.length_map]; omega) x).mono ?_
  rintro e W2 ⟨rfl, vl', r2, m2⟩
  rw [leave_S h.above] at r2 ⊢
  obtain ⟨w2, d2⟩ := (w1.on hb).beside m2 d1
  exact ⟨by rw [List.length_map, List.length_map], _, ⟨low, _, T, ms, mb, vl', vd, ⟨w2, r2, d2, fun a ha => h.above a (List.mem_filter.1 ha).1, h.views, Nat.le_trans (List.length_filter_le _ _) (by omega), by omega⟩, rfl⟩, m2.right⟩
theorem note_both {base B R : Nat} {g : Int} {f c : Nat} {Fp : Nat → Prop} {W : World} (h : TwB base B R g f c Fp W) (hc : c < 1000) (view n : Int) (s : List UInt8) : ∃ (b : Bool) (E : Int), Calls Try.prog 23 #[.pointer (some ⟨B, 0, none⟩), .int .i64 view, .int .i64 n, .agg #[.string (bs s), .int .i64 1, .slice none 0 0]] W fun e W1 => ∃ Fp1, e = .returned (.tuple #[.bool b, .int .i64 E]) ∧ Mvd Fp Fp1 W W1 ∧ Calls Try.prog 27 #[.pointer (some ⟨R, 0, none⟩), .int .i64 view, .int .i64 n, .string (bs s)] W1 fun e W2 => e = .returned (.tuple #[.bool b, .int .i64 E]) ∧ ∃ Fp2, TwB base B R g f (c + 1) Fp2 W2 ∧ Mvd Fp1 Fp2 W1 W2 := by
  obtain ⟨low, S, T, ms, mb, vl, vd, h, rfl⟩ := h
  have l0 := h.win.low0
  have l1 := h.win.low1
  have hS := h.fewS
  have hT := h.fewT
  have hbt := best_T T n
  by_cases hE : askE low view n = 0
  · by_cases hok : (bestF T n).2.2.2 = true ∧ view ≤ (bestF T n).1
    · refine ⟨false, 0, (Note_no h.win hE hok.1 hok.2 s 1).mono ?_⟩
      rintro e W1 ⟨rfl, hb1⟩
      have h1 := h.keep hb1
      refine ⟨_, rfl, Mvd.of_below hb1 _, (rNote_no h1.ref (by rw [List.length_map]; omega) l0 l1 hE (by rw [hbt]; exact hok.1) (by rw [hbt]; exact hok.2) s).mono ?_⟩
      rintro e W2 ⟨rfl, hb2⟩
      exact ⟨rfl, _, ⟨low, S, T, ms, mb, vl, vd, (h1.keep hb2).more (by omega), rfl⟩, Mvd.of_below hb2 _⟩
    · have hok2 : (bestF T n).2.2.2 = false ∨ ((bestF T n).2.2.2 = true ∧ (bestF T n).1 < view) := by
        cases hx : (bestF T n).2.2.2
        · exact .inl rfl
        · exact .inr ⟨rfl, by
            by_cases h9 : view ≤ (bestF T n).1
            · exact absurd ⟨hx, h9⟩ hok
            · omega⟩
      refine ⟨true, 0, (Note_ok h.win (by omega) hE hok2 s 1).mono ?_⟩
      rintro e W1 ⟨mb', rfl, w1, v1⟩
      obtain ⟨r1, d1⟩ := h.ref.beside v1.mvd h.apart
      refine ⟨_, rfl, v1.mvd.left, (rNote_ok r1 (by rw [List.length_map]; omega) l0 l1 hE (by rw [hbt]; exact hok2) s).mono ?_⟩
      rintro e W2 ⟨rfl, vd', r2, m2⟩
      rw [note_T 1] at r2
      obtain ⟨w2, d2⟩ := w1.beside m2 d1
      have hlf : (T.filter (fun a => !(a.1 == n))).length ≤ T.length := List.length_filter_le _ _
      refine ⟨rfl, _, ⟨low, S, _, ms, mb', vl, vd', ⟨w2, r2, d2, h.above, fun a ha => ?_, by omega, by rw [List.length_append, List.length_cons, List.length_nil]; omega⟩, rfl⟩, m2.right⟩
      rcases List.mem_append.1 ha with h9 | h9
      · exact h.views a (List.mem_filter.1 h9).1
      · rw [List.mem_singleton] at h9
        subst h9
        exact (askE_0 hE).1
  · refine ⟨false, askE low view n, (Note_bad h.win hE s 1).mono ?_⟩
    rintro e W1 ⟨rfl, hb1⟩
    have h1 := h.keep hb1
    refine ⟨_, rfl, Mvd.of_below hb1 _, (rNote_bad h1.ref l0 l1 hE s).mono ?_⟩
    rintro e W2 ⟨rfl, rfl⟩
    exact ⟨rfl, _, ⟨low, S, T, ms, mb, vl, vd, h1.more (by omega), rfl⟩, Mvd.of_below (Below.refl _ _) _⟩
end Go.Proofs.Ytobojfkoffhljaa
