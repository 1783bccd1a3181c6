/- The window and the document's own: what of the one is what of the other. -/
import Derived.Test.YtobojfkoffhljaaWrD
import Derived.Test.YtobojfkoffhljaaWrE
namespace Go.Proofs.Ytobojfkoffhljaa
open Go.RowKit Go.Maps

/-- A slot's place, a best one's place. -/
def sP (a : Sk) : Rq := (a.1, a.2.1, [])
def tP (a : Bt) : Rq := (a.2.1, a.1, a.2.2.1)
theorem any_pl {S : List Sk} {view n : Int} : (S.map sP).any (plP view n) = true ↔ ∃ b, (view, n, b) ∈ S := by
  rw [List.any_eq_true]
  constructor
  · rintro ⟨a, ha, hp⟩
    obtain ⟨⟨v, m, b⟩, hs, rfl⟩ := List.mem_map.1 ha
    have hp2 : (decide (v = view) && decide (m = n)) = true := hp
    simp only [Bool.and_eq_true, decide_eq_true_eq] at hp2
    obtain ⟨rfl, rfl⟩ := hp2
    exact ⟨b, hs⟩
  · rintro ⟨b, hs⟩
    exact ⟨_, List.mem_map.2 ⟨_, hs, rfl⟩, by simp [plP, sP]⟩
theorem raise_S {S : List Sk} {x : Int} (h : ∀ a ∈ S, okS a) : (S.map sP).filter (abP x 0) = (S.filter (fun a => !(decide (a.2.1 ≤ x)))).map sP := by
  rw [List.filter_map]
  congr 1
  apply List.filter_congr
  intro a ha
  have h0 := (h a ha).1
  show (decide (x < a.2.1) && decide (0 ≤ a.1)) = !(decide (a.2.1 ≤ x))
  by_cases h1 : a.2.1 ≤ x
  · rw [decide_eq_false (show ¬ x < a.2.1 by omega), decide_eq_true h1]; rfl
  · rw [decide_eq_true (show x < a.2.1 by omega), decide_eq_true h0, decide_eq_false h1]; rfl
theorem raise_T {T : List Bt} {x : Int} (h : ∀ a ∈ T, 0 ≤ a.2.1) : (T.map tP).filter (abP x 0) = (T.filter (fun a => !(decide (a.1 ≤ x)))).map tP := by
  rw [List.filter_map]
  congr 1
  apply List.filter_congr
  intro a ha
  have h0 := h a ha
  show (decide (x < a.1) && decide (0 ≤ a.2.1)) = !(decide (a.1 ≤ x))
  by_cases h1 : a.1 ≤ x
  · rw [decide_eq_false (show ¬ x < a.1 by omega), decide_eq_true h1]; rfl
  · rw [decide_eq_true (show x < a.1 by omega), decide_eq_true h0, decide_eq_false h1]; rfl
theorem leave_S {S : List Sk} {low x : Int} (h : ∀ a ∈ S, low < a.2.1) : (S.map sP).filter (abP low x) = (S.filter (fun a => !(decide (a.1 < x)))).map sP := by
  rw [List.filter_map]
  congr 1
  apply List.filter_congr
  intro a ha
  have h0 := h a ha
  show (decide (low < a.2.1) && decide (x ≤ a.1)) = !(decide (a.1 < x))
  by_cases h1 : a.1 < x
  · rw [decide_eq_true h0, decide_eq_false (show ¬ x ≤ a.1 by omega), decide_eq_true h1]; rfl
  · rw [decide_eq_true h0, decide_eq_true (show x ≤ a.1 by omega), decide_eq_false h1]; rfl
theorem note_T {T : List Bt} {n view : Int} {s : List UInt8} (g : Int) : (T.map tP).filter (otP n) ++ [(view, n, s)] = (T.filter (fun a => !(a.1 == n)) ++ [(n, view, s, g)]).map tP := by
  rw [List.map_append, List.filter_map]
  rfl
theorem best_T (T : List Bt) (n : Int) : rbF (T.map tP) n = ((bestF T n).1, (bestF T n).2.1, (if (bestF T n).2.2.2 = true then n else 0), (bestF T n).2.2.2) := by
  unfold rbF bestF
  rw [List.find?_map]
  have : ((fun a : Rq => a.2.1 == n) ∘ tP) = fun a : Bt => a.1 == n := rfl
  rw [this]
  cases h : T.find? (fun a => a.1 == n) with
  | none => rfl
  | some a =>
    have he : a.1 = n := by have := List.find?_some h; simpa using this
    simp [tP, he]
/-- A window's blocks. -/
def fpW (B : Nat) (ms mb : Option Nat) (k : Nat) : Prop := k = B ∨ ms = some k ∨ mb = some k
theorem Wv.mvd {B : Nat} {ms mb ms' mb' : Option Nat} {w w' : World} (h : Wv B ms mb ms' mb' w w') : Mvd (fpW B ms mb) (fpW B ms' mb') w w' :=
  ⟨h.os, h.tape, h.output, h.size, fun k hk hn => h.block k hk (fun e => hn (.inl e)) (fun e => hn (.inr (.inl e))) (fun e => hn (.inr (.inr e))), fun k hk => by
    rcases hk with e | e | e
    · exact .inl (.inl e)
    · rcases (h.own k).1 e with e | e
      · exact .inl (.inr (.inl e))
      · exact .inr e
    · rcases (h.own k).2 e with e | e
      · exact .inl (.inr (.inr e))
      · exact .inr e⟩
theorem WinAt.keepM {base : Nat} {w w' : World} {B : Nat} {ms mb : Option Nat} {g : Int} {f : Nat} {low : Int} {S : List Sk} {T : List Bt} (h : WinAt base w B ms mb g f low S T) (hk : ∀ k, fpW B ms mb k → w'.heap[k]? = w.heap[k]?) : WinAt base w' B ms mb g f low S T :=
  ⟨(hk B (.inl rfl)).trans h.blk, h.slots.keep (fun b e => hk b (.inr (.inl e))), h.bests.keep (fun b e => hk b (.inr (.inr e))), h.up, h.sb, h.bb, h.ne, h.f3, h.g4, h.low0, h.low1, h.okS, h.okT, h.few⟩
theorem WinAt.fpw {base : Nat} {w : World} {B : Nat} {ms mb : Option Nat} {g : Int} {f : Nat} {low : Int} {S : List Sk} {T : List Bt} (h : WinAt base w B ms mb g f low S T) {k : Nat} (hk : fpW B ms mb k) : base ≤ k ∧ k < w.heap.size := by
  rcases hk with e | e | e
  · rw [e]; exact ⟨h.up, h.lt⟩
  · exact ⟨(h.sb k e).1, h.slots.lt e⟩
  · exact ⟨(h.bb k e).1, h.bests.lt e⟩
/-- The two side by side; Fp: their blocks. -/
structure Tw (base B R : Nat) (g : Int) (f c : Nat) (low : Int) (S : List Sk) (T : List Bt) (ms mb : Option Nat) (vl vd : Value) (W : World) : Prop where
  win : WinAt base W B ms mb g f low S T
  ref : RefAt base W R low vl vd (S.map sP) (T.map tP)
  apart : ∀ k, fpW B ms mb k → ¬ fpR R vl vd k
  above : ∀ a ∈ S, low < a.2.1
  views : ∀ a ∈ T, 0 ≤ a.2.1
  fewS : S.length ≤ c
  fewT : T.length ≤ c
def fpB (B R : Nat) (ms mb : Option Nat) (vl vd : Value) (k : Nat) : Prop := fpW B ms mb k ∨ fpR R vl vd k
theorem Tw.fp {base B R : Nat} {g : Int} {f c : Nat} {low : Int} {S : List Sk} {T : List Bt} {ms mb : Option Nat} {vl vd : Value} {W : World} (h : Tw base B R g f c low S T ms mb vl vd W) {k : Nat} (hk : fpB B R ms mb vl vd k) : base ≤ k ∧ k < W.heap.size := by
  rcases hk with e | e
  · exact h.win.fpw e
  · exact h.ref.fp e
theorem Tw.keep {base B R : Nat} {g : Int} {f c : Nat} {low : Int} {S : List Sk} {T : List Bt} {ms mb : Option Nat} {vl vd : Value} {W W' : World} (h : Tw base B R g f c low S T ms mb vl vd W) (hb : Below W.heap.size W W') : Tw base B R g f c low S T ms mb vl vd W' :=
  ⟨h.win.on hb, h.ref.next hb, h.apart, h.above, h.views, h.fewS, h.fewT⟩
theorem Mvd.left {B R : Nat} {ms mb ms' mb' : Option Nat} {vl vd : Value} {w w' : World} (h : Mvd (fpW B ms mb) (fpW B ms' mb') w w') : Mvd (fpB B R ms mb vl vd) (fpB B R ms' mb' vl vd) w w' :=
  ⟨h.os, h.tape, h.output, h.size, fun k hk hn => h.block k hk (fun e => hn (.inl e)), fun k hk => by
    rcases hk with e | e
    · rcases h.own k e with e | e
      · exact .inl (.inl e)
      · exact .inr e
    · exact .inl (.inr e)⟩
theorem Mvd.right {B R : Nat} {ms mb : Option Nat} {vl vd vl' vd' : Value} {w w' : World} (h : Mvd (fpR R vl vd) (fpR R vl' vd') w w') : Mvd (fpB B R ms mb vl vd) (fpB B R ms mb vl' vd') w w' :=
  ⟨h.os, h.tape, h.output, h.size, fun k hk hn => h.block k hk (fun e => hn (.inr e)), fun k hk => by
    rcases hk with e | e
    · exact .inl (.inl e)
    · rcases h.own k e with e | e
      · exact .inl (.inr e)
      · exact .inr e⟩
/-- The window has moved: the document's one stands. -/
theorem RefAt.beside {base : Nat} {w w' : World} {B R : Nat} {ms mb ms' mb' : Option Nat} {low : Int} {vl vd : Value} {l F : List Rq} (h : RefAt base w R low vl vd l F) (hm : Mvd (fpW B ms mb) (fpW B ms' mb') w w') (hd : ∀ k, fpW B ms mb k → ¬ fpR R vl vd k) : RefAt base w' R low vl vd l F ∧ ∀ k, fpW B ms' mb' k → ¬ fpR R vl vd k :=
  ⟨h.keep (fun k hk => hm.block k (h.fp hk).2 (fun e => hd k e hk)), fun k e1 e2 => by
    rcases hm.own k e1 with e | e
    · exact hd k e e2
    · have := (h.fp e2).2; omega⟩
/-- The document's one has moved: the window stands. -/
theorem WinAt.beside {base : Nat} {w w' : World} {B R : Nat} {ms mb : Option Nat} {g : Int} {f : Nat} {low : Int} {S : List Sk} {T : List Bt} {vl vd vl' vd' : Value} (h : WinAt base w B ms mb g f low S T) (hm : Mvd (fpR R vl vd) (fpR R vl' vd') w w') (hd : ∀ k, fpW B ms mb k → ¬ fpR R vl vd k) : WinAt base w' B ms mb g f low S T ∧ ∀ k, fpW B ms mb k → ¬ fpR R vl' vd' k :=
  ⟨h.keepM (fun k hk => hm.block k (h.fpw hk).2 (hd k hk)), fun k e1 e2 => by
    rcases hm.own k e2 with e | e
    · exact hd k e1 e
    · have := (h.fpw e1).2; omega⟩
end Go.Proofs.Ytobojfkoffhljaa
