/- What is put is read: the law's own case, walked. -/
import Derived.Test.YtdfonbhboncjmaaDoorPrR
namespace Go.Proofs.YtdfonbhboncjmaaDoor
open Go.RowKit Go.Maps
attribute [local go_sem ↓] Go.wp_at_zero Go.wp_at_succ

theorem SlF.of_block {α : Type} {f : α → List Value} {s : Nat} {w : World} {B : Nat} {cs : Array Value} {t : TypeId} {l : List α} {cap : Nat} (h : w.heap[B]? = some (.cells cs t)) (hf : ∀ a, (f a).length = s) (hc : cs.toList = l.flatMap f) : SlF f s w (.slice (some ⟨B, 0, none⟩) l.length cap) l := by
  refine .inr ⟨B, 0, cap, rfl, (Array.getElem?_eq_some_iff.1 h).1, fun i a ha k u hu => cellB h _ u ?_⟩
  have hk : k < s := by have := (List.getElem?_eq_some_iff.1 hu).1; rw [hf] at this; exact this
  rw [← Array.getElem?_toList, hc, Nat.zero_add, flat_get f s hf l i a ha k hk]
  exact hu
def rc1 : Cl := ⟨0, 1, ⟨2, [107], [97], []⟩, 0, 3, ([], 0)⟩
def rc2 : Cl := ⟨0, 2, ⟨1, [107], [], []⟩, 4, 6, ([97], 0)⟩
def rp1 : List Pt := [⟨2, 0, 1, ([], 0)⟩, ⟨5, 0, 2, ([97], 0)⟩]
def rp2 : List Pt := [⟨5, 0, 1, ([], 0)⟩]
theorem rP1 : fstB (P1 [rc1, rc2]) 2 = -1 := by decide +kernel
theorem rP2 : fstB (P2 [rc1, rc2] rp1) 2 = -1 := by decide +kernel
theorem rP3 : fstB (P3 [rc1, rc2] rp1) 2 = -1 := by decide +kernel
theorem rP2b : fstB (P2 [rc1, rc2] rp2) 1 = 0 := by decide +kernel
theorem rAt1 : callAt [rc1, rc2] ⟨2, 0, 1, ([], 0)⟩ = rc1 := rfl
theorem rAt2 : callAt [rc1, rc2] ⟨5, 0, 2, ([97], 0)⟩ = rc2 := rfl
theorem rP4 : fstB (P4 [rc1, rc2] rp1) 2 = -1 := by
  refine fstB_none fun j hj => ?_
  rcases j with _ | _ | j
  · rw [P4_at (p := ⟨2, 0, 1, ([], 0)⟩) rfl, rAt1]
    show (decide (([], (0 : Int)) ≠ ((doR [] 2 [107] [97] []).1, (doR [] 2 [107] [97] []).2.1)) || _) = false
    decide +kernel
  · rw [P4_at (p := ⟨5, 0, 2, ([97], 0)⟩) rfl, rAt2]
    have h : fin (fun _ => []) ((opsOf [rc1, rc2] rp1).take 1) (plcK rc2.op.k) = [([107], [97])] := by
      show putM (fun _ => []) (plcK [107]) (doR [] 2 [107] [97] []).2.2 (plcK [107]) = _
      rw [putM, if_pos rfl]
      decide +kernel
    rw [tell, h]
    decide +kernel
  · omega
theorem rChk1 : chkG [rc1, rc2] rp1 = (0, 0) := chkG_none fun r hr => by
  rcases r with _ | _ | _ | _ | r
  · exact rP1
  · exact rP2
  · exact rP3
  · exact rP4
  · omega
theorem rChk2 : chkG [rc1, rc2] rp2 = (2, 0) := by
  have h := chkG_at (calls := [rc1, rc2]) (pts := rp2) (k := 1) (by decide) (fun r hr => by
    obtain rfl : r = 0 := by omega
    exact rP1) (by show fstB (P2 [rc1, rc2] rp2) 1 ≠ -1; rw [rP2b]; decide)
  rw [h]
  show ((1 : Int) + 1, fstB (P2 [rc1, rc2] rp2) 1) = _
  rw [rP2b]
  rfl
theorem wfK_small {a b : Int} (h1 : 0 ≤ a) (h2 : a ≤ 1000) (h3 : 0 ≤ b) (h4 : b ≤ 1000) : wfK (a, b) := ⟨wf64 (by omega) (by omega), wf64 (by omega) (by omega)⟩
theorem rwc : ∀ c ∈ [rc1, rc2], wfK (ck c) := by
  intro c hc
  rcases List.mem_cons.1 hc with rfl | hc
  · exact wfK_small (by decide) (by decide) (by decide) (by decide)
  · rcases List.mem_singleton.1 hc with rfl
    exact wfK_small (by decide) (by decide) (by decide) (by decide)
theorem rwp1 : ∀ p ∈ rp1, wfK (pk2 p) := by
  intro p hp
  rcases List.mem_cons.1 hp with rfl | hp
  · exact wfK_small (by decide) (by decide) (by decide) (by decide)
  · rcases List.mem_singleton.1 hp with rfl
    exact wfK_small (by decide) (by decide) (by decide) (by decide)
theorem rwp2 : ∀ p ∈ rp2, wfK (pk2 p) := by
  intro p hp
  rcases List.mem_singleton.1 hp with rfl
  exact wfK_small (by decide) (by decide) (by decide) (by decide)
set_option maxRecDepth 20000 in
set_option maxHeartbeats 1500000 in
theorem reads_any (w : World) (he : EnvK w) : Calls Tryd.prog 7 #[] w fun e W' => e = .returned (.bool true) ∧ Below w.heap.size w W' := by
  obtain ⟨N, hN⟩ : ∃ N, w.heap.size = N := ⟨_, rfl⟩
  have r1 := heap_alloc_new w (.cells #[.int .i64 0, .int .i64 1, .int .i64 2, .string ⟨#[107]⟩, .string ⟨#[97]⟩, .string ⟨#[]⟩, .int .i64 0, .int .i64 3, .int .i64 0, .string ⟨#[]⟩, .int .i64 0, .int .i64 2, .int .i64 1, .string ⟨#[107]⟩, .string ⟨#[]⟩, .string ⟨#[]⟩, .int .i64 4, .int .i64 6, .int .i64 0, .string ⟨#[97]⟩] 53)
  have hb1 := (Below.refl _ w).alloc (Nat.le_refl _) (.cells #[.int .i64 0, .int .i64 1, .int .i64 2, .string ⟨#[107]⟩, .string ⟨#[97]⟩, .string ⟨#[]⟩, .int .i64 0, .int .i64 3, .int .i64 0, .string ⟨#[]⟩, .int .i64 0, .int .i64 2, .int .i64 1, .string ⟨#[107]⟩, .string ⟨#[]⟩, .string ⟨#[]⟩, .int .i64 4, .int .i64 6, .int .i64 0, .string ⟨#[97]⟩] 53)
  obtain ⟨W1, hW1⟩ : ∃ W, w.alloc (.cells #[.int .i64 0, .int .i64 1, .int .i64 2, .string ⟨#[107]⟩, .string ⟨#[97]⟩, .string ⟨#[]⟩, .int .i64 0, .int .i64 3, .int .i64 0, .string ⟨#[]⟩, .int .i64 0, .int .i64 2, .int .i64 1, .string ⟨#[107]⟩, .string ⟨#[]⟩, .string ⟨#[]⟩, .int .i64 4, .int .i64 6, .int .i64 0, .string ⟨#[97]⟩] 53) = W := ⟨_, rfl⟩
  rw [hW1] at r1 hb1
  rw [hN] at r1 hb1
  have hz1 : W1.heap.size = N + 1 := by rw [← hW1, ← hN]; simp
  have hs1 : SlF ccs 10 W1 (.slice (some ⟨N, 0, none⟩) 2 2) [rc1, rc2] := SlF.of_block (l := [rc1, rc2]) r1 (fun _ => rfl) rfl
  have he1 : EnvK W1 := he.next (by rw [hN]; exact hb1)
  have hC : ∀ (W : World) (vp : Value) (pts : List Pt), Below (N + 1) W1 W → SlF pks 5 W vp pts → pts.length ≤ 2000 → (∀ p ∈ pts, wfK (pk2 p)) → Calls Tryd.prog 8 #[.slice (some ⟨N, 0, none⟩) 2 2, vp] W fun e W' => e = .returned (.tuple #[.int .i64 (chkG [rc1, rc2] pts).1, .int .i64 (chkG [rc1, rc2] pts).2, .int .i64 0]) ∧ Below (N + 1) W1 W' := fun W vp pts hW hp hl hw =>
    (Check24_any ⟨hs1.on hW (by omega), hp, by decide, hl, rwc, hw⟩ (he1.next (by rw [hz1]; exact hW))).mono fun e W' hh => ⟨hh.1, hW.trans (hh.2.mono (by have := hW.size; omega))⟩
  have HC1 : Hid (∀ W, Below (N + 1) W1 W → Calls Tryd.prog 8 #[.slice (some ⟨N, 0, none⟩) 2 2, .slice (some ⟨W.heap.size, 0, none⟩) 2 2] (W.alloc (.cells #[.int .i64 2, .int .i64 0, .int .i64 1, .int .i64 0, .string ⟨#[]⟩, .int .i64 5, .int .i64 0, .int .i64 2, .int .i64 0, .string ⟨#[97]⟩] 56)) fun e W' => e = .returned (.tuple #[.int .i64 0, .int .i64 0, .int .i64 0]) ∧ Below (N + 1) W1 W') := fun W hW => by
    have h := hC (W.alloc (.cells #[.int .i64 2, .int .i64 0, .int .i64 1, .int .i64 0, .string ⟨#[]⟩, .int .i64 5, .int .i64 0, .int .i64 2, .int .i64 0, .string ⟨#[97]⟩] 56)) (.slice (some ⟨W.heap.size, 0, none⟩) 2 2) rp1 (hW.alloc (by have := hW.size; omega) _) (SlF.of_block (l := rp1) (heap_alloc_new _ _) (fun _ => rfl) rfl) (by decide) rwp1
    rw [rChk1] at h
    exact h
  have HC2 : Hid (∀ W, Below (N + 1) W1 W → Calls Tryd.prog 8 #[.slice (some ⟨N, 0, none⟩) 2 2, .slice (some ⟨W.heap.size, 0, none⟩) 1 1] (W.alloc (.cells #[.int .i64 5, .int .i64 0, .int .i64 1, .int .i64 0, .string ⟨#[]⟩] 56)) fun e W' => e = .returned (.tuple #[.int .i64 2, .int .i64 0, .int .i64 0]) ∧ Below (N + 1) W1 W') := fun W hW => by
    have h := hC (W.alloc (.cells #[.int .i64 5, .int .i64 0, .int .i64 1, .int .i64 0, .string ⟨#[]⟩] 56)) (.slice (some ⟨W.heap.size, 0, none⟩) 1 1) rp2 (hW.alloc (by have := hW.size; omega) _) (SlF.of_block (l := rp2) (heap_alloc_new _ _) (fun _ => rfl) rfl) (by decide) rwp2
    rw [rChk2] at h
    exact h
  have HW : Hid (w.alloc (.cells #[.int .i64 0, .int .i64 1, .int .i64 2, .string ⟨#[107]⟩, .string ⟨#[97]⟩, .string ⟨#[]⟩, .int .i64 0, .int .i64 3, .int .i64 0, .string ⟨#[]⟩, .int .i64 0, .int .i64 2, .int .i64 1, .string ⟨#[107]⟩, .string ⟨#[]⟩, .string ⟨#[]⟩, .int .i64 4, .int .i64 6, .int .i64 0, .string ⟨#[97]⟩] 53) = W1) := hW1
  have HN : Hid (w.heap.size = N) := hN
  have HB : Hid (Below N w W1) := hb1
  clear r1 hb1 hW1 hN hz1 hs1 he1 hC he
  go_enter Tryd.func7, Tryd.ntmps7
  go_upto_region 2 with fail
  rw [HW.out, HN.out]
  go_upto_region 3 with (go_at_call 8; refine (HC1.out _ (Below.refl _ _)).mono ?_; rintro e w2 ⟨rfl, hb2⟩)
  go_wp2_with (go_at_call 8; refine (HC2.out _ hb2).mono ?_; rintro e w3 ⟨rfl, hb3⟩)
  go_ret
  exact ⟨rfl, by rw [HN.out]; exact HB.out.trans (hb3.mono (by omega))⟩
end Go.Proofs.YtdfonbhboncjmaaDoor
