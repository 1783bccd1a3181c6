/- does, whatever the step; the two at their start; what a step leaves. -/
import Derived.Test.YtobojfkoffhljaaWrI
import Derived.Test.YtobojfkoffhljaaWrU
namespace Go.Proofs.Ytobojfkoffhljaa
open Go.RowKit Go.Maps

theorem does_any {base B R : Nat} {g : Int} {f c : Nat} {Fp : Nat → Prop} {w : World} (h : TwB base B R g f c Fp w) (hc : c < 1000) (what view n : Int) (s : List UInt8) : Calls Try.prog 11 #[.pointer (some ⟨B, 0, none⟩), .pointer (some ⟨R, 0, none⟩), .agg #[.int .i64 what, .int .i64 view, .int .i64 n, .string (bs s)]] w fun e W' => e = .returned (.bool true) ∧ ∃ Fp', TwB base B R g f (c + 1) Fp' W' ∧ Mvd Fp Fp' w W' := by
  by_cases h0 : what = 0
  · exact does_at h hc (.inl h0) view n s
  by_cases h1 : what = 1
  · exact does_at h hc (.inr h1) view n s
  by_cases h2 : what = 2
  · subst h2; exact does_note h hc view n s
  by_cases h3 : what = 3
  · subst h3; exact does_raise h hc view n s
  by_cases h4 : what = 4
  · subst h4; exact does_leave h hc view n s
  exact does_other h (by simp [h0]) (by simp [h1]) (by simp [h2]) (by simp [h3]) (by simp [h4]) view n s
/-- At the start. -/
theorem tw_start {base : Nat} {w1 : World} {B : Nat} {g : Int} {f : Nat} (h : WinAt base w1 B none none g f 0 [] []) : TwB base B w1.heap.size g f 0 (fpB B w1.heap.size none none (.slice none 0 0) (.slice none 0 0)) (w1.alloc (.cells #[.int .i64 0, .slice none 0 0, .slice none 0 0] 32)) := by
  have hb := (Below.refl w1.heap.size w1).alloc (Nat.le_refl _) (.cells #[.int .i64 0, .slice none 0 0, .slice none 0 0] 32)
  have hB := h.lt
  have hu := h.up
  refine ⟨0, [], [], none, none, .slice none 0 0, .slice none 0 0, ⟨h.on hb, ⟨heap_alloc_new _ _, World.ownsRow_nil _ _ _ _, World.ownsRow_nil _ _ _ _, fun e => (by cases e), fun e => (by cases e), fun k e => (by cases e), by omega⟩, fun k e1 e2 => ?_, fun a ha => (by cases ha), fun a ha => (by cases ha), Nat.le_refl _, Nat.le_refl _⟩, rfl⟩
  have e3 : k = B := by
    rcases e1 with e | e | e
    · exact e
    · cases e
    · cases e
  rcases e2 with e | e | e
  · omega
  · cases e
  · cases e
/-- What a step leaves below. -/
theorem TwB.bel {base B R : Nat} {g : Int} {f c : Nat} {Fp Fp' : Nat → Prop} {w w' : World} (h : TwB base B R g f c Fp w) (hb : base ≤ w.heap.size) (m : Mvd Fp Fp' w w') : Below base w w' := m.below hb (fun _ hk => (h.lt hk).1)
end Go.Proofs.Ytobojfkoffhljaa
