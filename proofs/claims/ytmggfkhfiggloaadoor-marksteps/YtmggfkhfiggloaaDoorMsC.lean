/- The plain marks' Vote, walked: what is refused. -/
import Derived.Test.YtmggfkhfiggloaaDoorMsB
import Derived.Test.YtmggfkhfiggloaaDoorMtA
namespace Go.Proofs.YtmggfkhfiggloaaDoor
open Go.RowKit
attribute [local go_sem ↓] Go.wp_at_zero Go.wp_at_succ

/-- A world behind W0: all that stood there stands there. -/
structure Cw (W0 : World) where
  w : World
  h : Below W0.heap.size W0 w
theorem wp_region_grow {P : Program} {id : Nat} {Q : Exit → Act → World → Prop} {a : Act} {w W0 : World} {l : List Oper} (hm : P.follows .mixedOrders = true) (hB : Region.lexB .any l.toArray = true) (hw : Below W0.heap.size W0 w)
    (h : wpQuiet P l.toArray (fun w' => ∃ x : Cw W0, w' = x.w) (fun a' => ∀ w', (∃ x : Cw W0, w' = x.w) → Q .normal a' w') l a) : (Code.region id l.toArray true).wp P Q a w :=
  wp_region_quiet (C := fun w' => ∃ x : Cw W0, w' = x.w) hm hB ⟨⟨_, below_drew hw⟩, rfl⟩ (by simpa using h)
/-- What the plain Vote gives, and how it stands there. -/
def RvPost (R : Nat) (g : Int) (f : Nat) (r' : Rs) (lv cv : Value) (w W' : World) : Prop := ∃ lv' cv', RefAt W' R g f r' lv' cv' ∧ Mv R w W' ∧ Fr w.heap.size lv lv' ∧ Fr w.heap.size cv cv'
theorem RvPost.same {w W' : World} {R : Nat} {g : Int} {f : Nat} {r : Rs} {lv cv : Value} (h : RefAt w R g f r lv cv) (hb : Below w.heap.size w W') : RvPost R g f r lv cv w W' := ⟨lv, cv, h.on hb, Mv.of_below hb R, fun _ hk => .inl hk, fun _ hk => .inl hk⟩
set_option maxRecDepth 20000 in
set_option maxHeartbeats 4000000 in
theorem rVote_bad {w : World} {R : Nat} {g : Int} {f : Nat} {r : Rs} {lv cv : Value} (h : RefAt w R g f r lv cv) (no n : Int) (st tg : List UInt8) (hno : inR no 0 (3 * (f : Int)) = false) :
    Calls Tryd.prog 16 #[.pointer (some ⟨R, 0, none⟩), .agg #[.int .i64 no, .int .i64 n, .string (bs st), .string (bs tg)]] w fun e W' => e = .returned (.tuple #[.bool false, .int .i64 1]) ∧ Below w.heap.size w W' := by
  have hba := (Below.refl w.heap.size w).alloc (Nat.le_refl _) (.cells #[.int .i64 no, .int .i64 n, .string (bs st), .string (bs tg)] 57)
  have rQ := heap_alloc_new w (.cells #[.int .i64 no, .int .i64 n, .string (bs st), .string (bs tg)] 57)
  obtain ⟨sg, h1⟩ := (h.on hba).blk
  have f3 : (f : Int) ≤ 3 := by have := h.f3; omega
  have HX : Hid (_ ∧ _ ∧ _) := ⟨hba, rQ, h1⟩
  clear hba rQ h1 h
  rcases inR_f hno with hn | ⟨hn, hn'⟩
  · have e1 : decide (no < 0) = true := by simpa using hn
    clear hno
    go_enter Tryd.func16, Tryd.ntmps16
    go_upto_region 1 with fail
    obtain ⟨hba, rQ, h1⟩ := HX.out
    have q0 := cellB rQ 0 _ rfl
    have c1 := cellB h1 1 _ rfl
    have HB : Hid (_) := hba
    clear HX rQ h1 hba
    go_quiet (fail)
    go_wp2
    exact bodyPost_ret (v := .tuple #[.bool false, .int .i64 1]) (by simp [results, Tryd.f16, go_sem]) rfl ⟨rfl, below_drewN HB.out _⟩
  · have e1 : decide (no < 0) = false := by simp; omega
    have e2 : decide (3 * (f : Int) < no) = true := by simpa using hn'
    clear hno
    go_enter Tryd.func16, Tryd.ntmps16
    go_upto_region 1 with fail
    obtain ⟨hba, rQ, h1⟩ := HX.out
    have q0 := cellB rQ 0 _ rfl
    have c1 := cellB h1 1 _ rfl
    have HB : Hid (_) := hba
    clear HX rQ h1 hba
    go_quiet (fail)
    go_wp2
    exact bodyPost_ret (v := .tuple #[.bool false, .int .i64 1]) (by simp [results, Tryd.f16, go_sem]) rfl ⟨rfl, below_drewN HB.out _⟩
end Go.Proofs.YtmggfkhfiggloaaDoor
