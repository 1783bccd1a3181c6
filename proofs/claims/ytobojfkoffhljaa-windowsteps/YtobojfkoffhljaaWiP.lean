/- WindowKeeps, walked. -/
import Derived.Test.YtobojfkoffhljaaWiM
namespace Go.Proofs.Ytobojfkoffhljaa
open Go.RowKit Go.Maps
attribute [local go_sem ↓] Go.wp_at_zero Go.wp_at_succ

theorem MapAt.notSlot {w : World} {K : TypeId} {m : Option Nat} {l : List (Lit × Value)} (h : MapAt w K m l) {b : Nat} {gr : Int} {f p : Nat} {V : Vs} (hs : SlotAt w b gr f p V) : m ≠ some b := by
  rintro rfl
  rcases h with ⟨h9, _⟩ | ⟨b', D, hb', ⟨es, clock, h9, _⟩, _⟩
  · cases h9
  · injection hb' with hb'
    subst hb'
    obtain ⟨cs, h8, _⟩ := hs.blk
    rw [h9] at h8
    cases h8
theorem WinAt.vote {base : Nat} {w w' : World} {B b : Nat} {ms mb : Option Nat} {g gr : Int} {f f' p : Nat} {low : Int} {S : List Sk} {T : List Bt} {V : Vs} (h : WinAt base w B ms mb g f low S T) (hs : SlotAt w b gr f' p V) (hB : b ≠ B) (hm : Mv b w w') : WinAt base w' B ms mb g f low S T :=
  ⟨(hm.block B h.lt (Ne.symm hB)).trans h.blk, h.slots.keep (fun k e => hm.block k (h.slots.lt e) (fun e2 => h.slots.notSlot hs (by rw [e, e2]))), h.bests.keep (fun k e => hm.block k (h.bests.lt e) (fun e2 => h.bests.notSlot hs (by rw [e, e2]))), h.up, h.sb, h.bb, h.ne, h.f3, h.g4, h.low0, h.low1, h.okS, h.okT, h.few⟩
theorem SlotAt.wv {base : Nat} {w w' : World} {B b : Nat} {ms mb ms' mb' : Option Nat} {g gr : Int} {f f' p : Nat} {low : Int} {S : List Sk} {T : List Bt} {V : Vs} (hs : SlotAt w b gr f' p V) (h : WinAt base w B ms mb g f low S T) (hB : b ≠ B) (hv : Wv B ms mb ms' mb' w w') : SlotAt w' b gr f' p V :=
  hs.keep (hv.block b hs.lt hB (h.slots.notSlot hs) (h.bests.notSlot hs))
/-- One vote. -/
def oneV (p : Nat) (t g : List UInt8) : Vs := updV (fun _ _ => ([], [])) 0 p (t, g)
theorem cnt_one (p : Nat) (t g : List UInt8) (hg : isV g = true) (j : Nat) : cntTo (oneV p t g) 0 j = if p < j then 1 else 0 := by
  induction j with
  | zero => rfl
  | succ j ih =>
    rw [cntTo, ih]
    by_cases h : j = p
    · subst h
      simp [oneV, updV, hg]
    · have : isV (oneV p t g 0 j).2 = false := by simp [oneV, updV, h, isV]
      rw [this]
      by_cases h2 : p < j
      · simp [h2]; omega
      · simp [h2]; omega
theorem cnt_none (k j : Nat) : cntTo (fun _ _ => ([], [])) k j = 0 := by
  induction j with
  | zero => rfl
  | succ j ih => rw [cntTo, ih]; simp [isV]
theorem Right_any (g f : Int) (w : World) : Calls Try.prog 9 #[.int .i64 g, .int .i64 f] w fun e W' => e = .returned (.bool (inB g 4 && inB f 3)) ∧ W' = w := by
  rcases range3 g 4 with ⟨g1, gi⟩ | ⟨g1, g2, gi⟩ | ⟨g1, g2, gi⟩ <;> rcases range3 f 3 with ⟨f1, fi⟩ | ⟨f1, f2, fi⟩ | ⟨f1, f2, fi⟩
  all_goals
    rw [gi, fi]
    clear gi fi
    go_enter Try.func9, Try.ntmps9
    go_wp2
    go_ret
    exact ⟨by first | rfl | (simp; omega), rfl⟩
def tagK : List UInt8 := [48, 49, 50, 51, 52, 53, 54, 55, 56, 57, 97, 98, 99, 100, 101, 102]
theorem vote_one {f p : Nat} (hp : p ≤ 3 * f) : voteR (fun _ _ => ([], [])) f 1 (p : Int) [97] tagK = (true, 0, oneV p [97] tagK) := by
  have h1 : okV f 1 (p : Int) = true := by simp [okV, isK, inB]; omega
  unfold voteR ownV
  rw [h1]
  simp [faultE, isV, oneV, tagK]
/-- The window and its slot, on the way. -/
structure Kp (w : World) (B b : Nat) (ms : Option Nat) (f p : Nat) (S : List Sk) (V : Vs) (W : World) : Prop where
  win : WinAt w.heap.size W B ms none 1 f 0 S []
  slot : SlotAt W b 1 f p V
  far : b ≠ B
  bel : Below w.heap.size w W
  upb : w.heap.size ≤ b
theorem Kp.on {w W W' : World} {B b : Nat} {ms : Option Nat} {f p : Nat} {S : List Sk} {V : Vs} (h : Kp w B b ms f p S V W) (hb : Below W.heap.size W W') : Kp w B b ms f p S V W' := ⟨h.win.on hb, h.slot.on hb, h.far, h.bel.trans (hb.mono h.bel.size), h.upb⟩
theorem Kp.mv {w W W' : World} {B b : Nat} {ms : Option Nat} {f p : Nat} {S : List Sk} {V V' : Vs} (h : Kp w B b ms f p S V W) (hs : SlotAt W' b 1 f p V') (hm : Mv b W W') : Kp w B b ms f p S V' W' := ⟨h.win.vote h.slot h.far hm, hs, h.far, h.bel.trans (hm.below h.upb h.bel.size), h.upb⟩
theorem Kp.wv {w W W' : World} {B b : Nat} {ms ms' : Option Nat} {f p : Nat} {S S' : List Sk} {V : Vs} (h : Kp w B b ms f p S V W) (h2 : WinAt w.heap.size W' B ms' none 1 f 0 S' []) (hv : Wv B ms none ms' none W W') : Kp w B b ms' f p S' V W' := ⟨h2, h.slot.wv h.win h.far hv, h.far, h.bel.trans (h.win.bel hv (Nat.le_refl _)), h.upb⟩
theorem keep_bad {f0 view n : Int} (hf : (inB 1 4 && inB f0 3) = false) (w : World) : Calls Try.prog 4 #[.int .i64 f0, .int .i64 view, .int .i64 n] w fun e W' => e = .returned (.bool true) ∧ Below w.heap.size w W' := by
  have hN := fun W => wNew_no hf W
  have hR := fun W => Right_any 1 f0 W
  simp only [hf] at hR
  have hM := fun W => moves_any W
  clear hf
  go_enter Try.func4, Try.ntmps4
  go_wp2_with (first
    | (go_at_call 8; refine (hN _).mono ?_; rintro e w1 ⟨rfl, h9⟩; replace h9 := h9.symm; subst h9)
    | (go_at_call 9; refine (hR _).mono ?_; rintro e w1 ⟨rfl, h9⟩; replace h9 := h9.symm; subst h9)
    | (go_at_call 10; refine (hM _).mono ?_; rintro e w7 ⟨rfl, hb7⟩))
  go_ret
  exact ⟨rfl, hb7⟩
set_option maxRecDepth 20000 in
set_option maxHeartbeats 4000000 in
theorem keep_ask {f : Nat} (hf : f ≤ 3) {view n : Int} (hE : askE 0 view n ≠ 0) (w : World) : Calls Try.prog 4 #[.int .i64 f, .int .i64 view, .int .i64 n] w fun e W' => e = .returned (.bool true) ∧ Below w.heap.size w W' := by
  have hN := wNew_ok (g := 1) (f := f) rfl hf w.heap.size w (Nat.le_refl _)
  have hM := fun W => moves_any W
  have hc : (view < 0) ∨ (0 ≤ view ∧ 1099511627776 < view) ∨ (0 ≤ view ∧ view ≤ 1099511627776 ∧ n < 1) ∨ (0 ≤ view ∧ view ≤ 1099511627776 ∧ 1 ≤ n ∧ 8 < n) := by
    rcases range3 view 1099511627776 with ⟨v1, vi⟩ | ⟨v1, v2, vi⟩ | ⟨v1, v2, vi⟩
    · exact .inl v1
    · exact .inr (.inl ⟨v1, v2⟩)
    · by_cases h1 : n < 1
      · exact .inr (.inr (.inl ⟨v1, v2, h1⟩))
      · by_cases h2 : 8 < n
        · exact .inr (.inr (.inr ⟨v1, v2, by omega, h2⟩))
        · exact absurd (by simp [askE, vi, hasW]; omega) hE
  obtain ⟨E, hEe⟩ : ∃ E, askE 0 view n = E := ⟨_, rfl⟩
  have hA : ∀ {W : World} {B : Nat} {ms mb : Option Nat}, WinAt w.heap.size W B ms mb 1 f 0 [] [] → Calls Try.prog 18 #[.pointer (some ⟨B, 0, none⟩), .int .i64 view, .int .i64 n] W fun e W' => e = .returned (.tuple #[.pointer none, .int .i64 E]) ∧ W' = W := by
    intro W B ms mb h
    have := At_bad h hE
    rw [hEe] at this
    exact this
  rw [hEe] at hE
  have hE1 : (E == 0) = false := by simp [hE]
  have HA : Hid (_) := @hA
  clear hEe hA
  rcases hc with v1 | ⟨v1, v2⟩ | ⟨v1, v2, n1⟩ | ⟨v1, v2, n1, n2⟩
  all_goals
    go_enter Try.func4, Try.ntmps4
    go_wp2_with (first
      | (go_at_call 8; refine hN.mono ?_; rintro e w1 ⟨rfl, h1, hb1⟩; have hA1 := HA.out h1; clear h1)
      | (go_at_call 18; refine hA1.mono ?_; rintro e w2 ⟨rfl, h9⟩; replace h9 := h9.symm; subst h9)
      | (go_at_call 10; refine (hM _).mono ?_; rintro e w7 ⟨rfl, hb7⟩))
    go_ret
    exact ⟨by first | rfl | (simp; omega), hb1.trans (hb7.mono hb1.size)⟩
end Go.Proofs.Ytobojfkoffhljaa
