/- The window's Best, walked. -/
import Derived.Test.YtobojfkoffhljaaWiH
namespace Go.Proofs.Ytobojfkoffhljaa
open Go.RowKit Go.Maps
attribute [local go_sem ↓] Go.wp_at_zero Go.wp_at_succ

def put3 (W : World) (R : Nat) (a b c : Value) : World := ((W.setCell ⟨R, 0, none⟩ a).setCell ⟨R, 1, none⟩ b).setCell ⟨R, 2, none⟩ c
theorem put3_blk {W : World} {R : Nat} {p q r : Value} {t : TypeId} (h : W.heap[R]? = some (.cells #[p, q, r] t)) (a b c : Value) : (put3 W R a b c).heap[R]? = some (.cells #[a, b, c] t) := setB (setB (setB h 0 a) 1 b) 2 c
theorem put3_far {W : World} {R k : Nat} (h : k ≠ R) (a b c : Value) : (put3 W R a b c).heap[k]? = W.heap[k]? := (set_far h _ _).trans ((set_far h _ _).trans (set_far h _ _))
theorem put3_below {n : Nat} {w W : World} {R : Nat} (h : Below n w W) (hR : n ≤ R) (a b c : Value) : Below n w (put3 W R a b c) :=
  ⟨h.os, h.tape, h.output, by simp only [put3, World.setCell, Array.size_modify]; exact h.size, fun k hk => (put3_far (by omega) a b c).trans (h.block k hk)⟩
theorem Try.zero71 (w : World) : (zeroValue 71).run Try.prog w = .ok (.agg #[.int .i64 0, .string ⟨#[]⟩, .int .i64 0, .slice none 0 0]) w := by kernel_rfl
theorem keyOf_num {n : Int} (h : (Lit.int .i64 n).wf = true) : keyOf Try.prog 3 (.int .i64 n) = some (.int .i64 n) := by simp [keyOf, Try.underlying3, mapKey, h]
/-- What a window's best says of a number: view, text, group, found. -/
def bestF (T : List Bt) (n : Int) : Int × List UInt8 × Int × Bool := match T.find? (fun a => a.1 == n) with | some a => (a.2.1, a.2.2.1, a.2.2.2, true) | none => (0, [], 0, false)
theorem best_look {w : World} {mb : Option Nat} {T : List Bt} (h : MapAt w 3 mb (T.map bent)) {n : Int} (wn : (Lit.int .i64 n).wf = true) : (Instr.lookup 63 (.map mb) (.int .i64 n) true).run Try.prog w = .ok (.tuple #[.agg #[.int .i64 (bestF T n).1, .string (bs (bestF T n).2.1), .int .i64 (bestF T n).2.2.1, .slice none 0 0], .bool (bestF T n).2.2.2]) w := by
  obtain ⟨h1, h2⟩ := h.look law3 Try.underlying63 (Try.zero71 _) (keyOf_num wn)
  unfold bestF
  cases hf : T.find? (fun a => a.1 == n) with
  | some a =>
    have hm := List.mem_of_find?_eq_some hf
    have he : a.1 = n := by have := List.find?_some hf; simpa using this
    exact h1 _ (List.mem_map.2 ⟨a, hm, by rw [← he]; rfl⟩)
  | none =>
    have := h2 (by
      intro p hp
      obtain ⟨a, ha, rfl⟩ := List.mem_map.1 hp
      have := List.find?_eq_none.1 hf a ha
      intro e
      injection e with _ e
      simp [e] at this)
    rw [this]
    rfl
set_option maxRecDepth 20000 in
set_option maxHeartbeats 4000000 in
theorem Best_any {base : Nat} {w : World} {B : Nat} {ms mb : Option Nat} {g : Int} {f : Nat} {low : Int} {S : List Sk} {T : List Bt} (h : WinAt base w B ms mb g f low S T) {n : Int} (wn : (Lit.int .i64 n).wf = true) : Calls Try.prog 12 #[.pointer (some ⟨B, 0, none⟩), .int .i64 n] w fun e W' => e = .returned (.tuple #[.int .i64 (bestF T n).1, .agg #[.string (bs (bestF T n).2.1), .int .i64 (bestF T n).2.2.1, .slice none 0 0], .bool (bestF T n).2.2.2]) ∧ Below w.heap.size w W' := by
  have hba := (Below.refl w.heap.size w).alloc (Nat.le_refl _) (.cells #[.string ⟨#[]⟩, .int .i64 0, .slice none 0 0] 38)
  have h1 := h.on hba
  have c4 := h1.c.2.2.2.2
  have hlk := best_look h1.bests wn
  obtain ⟨⟨v, t, gr, ok⟩, hb⟩ : ∃ b, bestF T n = b := ⟨_, rfl⟩
  rw [hb] at hlk ⊢
  simp only at hlk ⊢
  have r1 := heap_alloc_new w (.cells #[.string ⟨#[]⟩, .int .i64 0, .slice none 0 0] 38)
  have HX : Hid (_ ∧ _) := ⟨hba, r1⟩
  have hsz : (w.alloc (.cells #[.string ⟨#[]⟩, .int .i64 0, .slice none 0 0] 38)).heap.size = w.heap.size + 1 := by simp
  clear h h1 hba hb r1
  go_enter Try.func12, Try.ntmps12
  go_upto_region 4 with fail
  obtain ⟨hba, r1⟩ := HX.out
  have hbb := hba.alloc hba.size (.cells #[.int .i64 v, .string (bs t), .int .i64 gr, .slice none 0 0] 71)
  have r2 : ((w.alloc (.cells #[.string ⟨#[]⟩, .int .i64 0, .slice none 0 0] 38)).alloc (.cells #[.int .i64 v, .string (bs t), .int .i64 gr, .slice none 0 0] 71)).heap[w.heap.size + 1]? = some (.cells #[.int .i64 v, .string (bs t), .int .i64 gr, .slice none 0 0] 71) := by
    have := heap_alloc_new (w.alloc (.cells #[.string ⟨#[]⟩, .int .i64 0, .slice none 0 0] 38)) (.cells #[.int .i64 v, .string (bs t), .int .i64 gr, .slice none 0 0] 71)
    rw [hsz] at this
    exact this
  have r1' : ((w.alloc (.cells #[.string ⟨#[]⟩, .int .i64 0, .slice none 0 0] 38)).alloc (.cells #[.int .i64 v, .string (bs t), .int .i64 gr, .slice none 0 0] 71)).heap[w.heap.size]? = some (.cells #[.string ⟨#[]⟩, .int .i64 0, .slice none 0 0] 38) := (Below.heap_alloc _ _ _ (by omega)).trans r1
  obtain ⟨W2, hW2⟩ : ∃ W, (w.alloc (.cells #[.string ⟨#[]⟩, .int .i64 0, .slice none 0 0] 38)).alloc (.cells #[.int .i64 v, .string (bs t), .int .i64 gr, .slice none 0 0] 71) = W := ⟨_, rfl⟩
  obtain ⟨Q, hQ⟩ : ∃ Q, w.heap.size + 1 = Q := ⟨_, rfl⟩
  have HB : Hid (_) := hbb
  rw [hW2] at HB r1' r2 ⊢
  rw [hQ] at r2 ⊢
  have HQ : Hid (w.heap.size + 1 = Q) := hQ
  have hlt1 := (Array.getElem?_eq_some_iff.1 r1').1
  have hlt2 := (Array.getElem?_eq_some_iff.1 r2).1
  obtain ⟨R, hR⟩ : ∃ R, w.heap.size = R := ⟨_, rfl⟩
  rw [hR] at r1' hlt1 HQ ⊢
  have hQR : ¬ Q = R := by have := HQ.out; omega
  have hRQ : ¬ R = Q := by have := HQ.out; omega
  clear HX hba r1 hbb hW2 hlk hsz c4 hQ
  have hN : Calls Try.prog 30 #[.agg #[.string (bs t), .int .i64 gr, .slice none 0 0]] W2.drew fun e W' => e = .returned (.agg #[.string (bs t), .int .i64 gr, .slice none 0 0]) ∧ Below W2.heap.size W2 W' ∧ W'.cell? ⟨Q, 0, none⟩ = some (.int .i64 v) ∧ W'.cell? ⟨Q, 1, none⟩ = some (.string (bs t)) ∧ W'.cell? ⟨Q, 2, none⟩ = some (.int .i64 gr) ∧ W'.cell? ⟨Q, 3, none⟩ = some (.slice none 0 0) ∧ W'.heap[R]? = some (.cells #[.string ⟨#[]⟩, .int .i64 0, .slice none 0 0] 38) := by
    refine (clone_any t gr W2.drew).mono ?_
    rintro e W' ⟨rfl, hb⟩
    have hb' : Below W2.heap.size W2 W' := ⟨hb.os, hb.tape, hb.output, hb.size, hb.block⟩
    have r3 := (hb'.block _ hlt2).trans r2
    exact ⟨rfl, hb', cellB r3 0 _ rfl, cellB r3 1 _ rfl, cellB r3 2 _ rfl, cellB r3 3 _ rfl, (hb'.block _ hlt1).trans r1'⟩
  have y0 := cellB r2 0 _ rfl
  have y1 := cellB r2 1 _ rfl
  have y2 := cellB r2 2 _ rfl
  have y3 := cellB r2 3 _ rfl
  have z0 := cellB r1' 0 _ rfl
  have z1 := cellB r1' 1 _ rfl
  have z2 := cellB r1' 2 _ rfl
  clear r1' r2
  go_region_held3 (fun w' => w'.cell? ⟨Q, 0, none⟩ = some (.int .i64 v) ∧ w'.cell? ⟨Q, 1, none⟩ = some (.string (bs t)) ∧ w'.cell? ⟨Q, 2, none⟩ = some (.int .i64 gr) ∧ w'.cell? ⟨Q, 3, none⟩ = some (.slice none 0 0)) (go_keep)
    (first
      | (go_at_call 30; refine hN.mono ?_; rintro e w3 ⟨rfl, hb3, k0, k1, k2, k3, rR⟩; have m0 := cellB rR 0 _ rfl; have m1 := cellB rR 1 _ rfl; have m2 := cellB rR 2 _ rfl; have f0 := frozenB rR 0; have f1 := frozenB rR 1; have f2 := frozenB rR 2))
  all_goals
    go_wp2
    have hr := put3_blk rR (.string (bs t)) (.int .i64 gr) (.slice none 0 0)
    have x1 := cellB hr 0 _ rfl
    have x2 := cellB hr 1 _ rfl
    have x3 := cellB hr 2 _ rfl
    unfold put3 at x1 x2 x3
    exact bodyPost_ret (v := .tuple #[.int .i64 v, .agg #[.string (bs t), .int .i64 gr, .slice none 0 0], .bool ok]) (by simp [results, Try.f12, go_sem, x1, x2, x3]) rfl ⟨rfl, put3_below (HB.out.trans (hb3.mono HB.out.size)) (by omega) _ _ _⟩
end Go.Proofs.Ytobojfkoffhljaa
