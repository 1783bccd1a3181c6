/- does, where views are left, walked. -/
import Derived.Test.YtobojfkoffhljaaWrH
namespace Go.Proofs.Ytobojfkoffhljaa
open Go.RowKit Go.Maps
attribute [local go_sem ↓] Go.wp_at_zero Go.wp_at_succ

set_option maxRecDepth 20000 in
set_option maxHeartbeats 2000000 in
theorem does_leave {base B R : Nat} {g : Int} {f c : Nat} {Fp : Nat → Prop} {w : World} (h : TwB base B R g f c Fp w) (hc : c < 1000) (view n : Int) (s : List UInt8) : Calls Try.prog 11 #[.pointer (some ⟨B, 0, none⟩), .pointer (some ⟨R, 0, none⟩), .agg #[.int .i64 4, .int .i64 view, .int .i64 n, .string (bs s)]] w fun e W' => e = .returned (.bool true) ∧ ∃ Fp', TwB base B R g f (c + 1) Fp' W' ∧ Mvd Fp Fp' w W' := by
  have hx := h.box 4 view n s
  obtain ⟨W0, hW0⟩ : ∃ W, w.alloc (.cells #[.int .i64 4, .int .i64 view, .int .i64 n, .string (bs s)] 34) = W := ⟨_, rfl⟩
  have z0 := cellB hx.box 0 _ rfl
  have z1 := cellB hx.box 1 _ rfl
  have two := hx.two
  have mv := hx.mv
  have box := hx.box
  have out := hx.out
  obtain ⟨P, hP⟩ : ∃ P, w.heap.size = P := ⟨_, rfl⟩
  have HX : Hid (_ ∧ _ ∧ _ ∧ _) := ⟨two, mv, box, out⟩
  clear h hx two mv box out hW0 hP
  go_enter Try.func11, Try.ntmps11
  go_upto_region 16 with fail
  obtain ⟨two, mv, box, out⟩ := HX.out
  obtain ⟨W1, hW1⟩ : ∃ W, w.alloc (.cells #[.int .i64 4, .int .i64 view, .int .i64 n, .string (bs s)] 34) = W := ⟨_, rfl⟩
  obtain ⟨Q, hQ⟩ : ∃ Q, w.heap.size = Q := ⟨_, rfl⟩
  rw [hW1] at two mv box z0 z1 ⊢
  rw [hQ] at box out z0 z1 ⊢
  have hlt := (Array.getElem?_eq_some_iff.1 box).1
  obtain ⟨N, hA⟩ := leave_left (two.on (below_drew (Below.refl _ W1))) hc view
  have HY : Hid (_ ∧ _ ∧ _ ∧ _) := ⟨mv, box, out, hlt⟩
  clear HX two mv box out hlt hW1 hQ
  go_region_held3 (fun w' => w'.cell? ⟨Q, 1, none⟩ = some (.int .i64 view)) (go_keep)
    (first
      | (go_at_call 21; refine hA.mono ?_; rintro e w2 ⟨Fp1, rfl, m1, hR⟩; have r1 : w2.heap[Q]? = _ := (m1.block Q HY.out.2.2.2 HY.out.2.2.1).trans HY.out.2.1; have y1 := cellB r1 1 _ rfl; have hl2 := (Array.getElem?_eq_some_iff.1 r1).1; have hq1 : ¬ Fp1 Q := (fun e => by rcases m1.own Q e with e | e; exact HY.out.2.2.1 e; exact absurd HY.out.2.2.2 (Nat.not_lt.2 e)); have HM : Hid (_ ∧ _ ∧ _ ∧ _) := ⟨m1, r1, hl2, hq1⟩; clear m1 r1 hl2 hq1)
      | (go_at_call 29; refine (hR _ (Below.refl _ _)).mono ?_; rintro e w3 ⟨rfl, Fp2, t2, m2⟩; have r2 := (m2.block Q HM.out.2.2.1 HM.out.2.2.2).trans HM.out.2.1; have x1 := cellB r2 1 _ rfl; have HT : Hid (_ ∧ _) := ⟨t2, m2⟩; clear t2 m2 r2))
  all_goals
    go_wp2
    go_ret
    have m9 := HM.out.1
    have m8 : Mvd Fp Fp1 W1 w2 := ⟨m9.os, m9.tape, m9.output, m9.size, m9.block, m9.own⟩
    exact ⟨by first | rfl | simp, Fp2, HT.out.1, (HY.out.1.trans m8).trans HT.out.2⟩
end Go.Proofs.Ytobojfkoffhljaa
