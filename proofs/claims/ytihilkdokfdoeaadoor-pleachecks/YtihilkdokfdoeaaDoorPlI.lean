/- The law's own case, walked. -/
import Derived.Test.YtihilkdokfdoeaaDoorPlH
import Derived.Test.YtihilkdokfdoeaaDoorPlD
import Derived.Test.YtihilkdokfdoeaaDoorPlE
namespace Go.Proofs.YtihilkdokfdoeaaDoor
open Go.RowKit Go.Maps
attribute [local go_sem ↓] Go.wp_at_zero Go.wp_at_succ

def pcl : Cl := ⟨0, 1, ⟨2, [107], [], []⟩, 2, -1, ([], 0)⟩
theorem pcl_wf : ∀ c ∈ [pcl], wfK (ck c) := fun c hc => by
  rcases List.mem_singleton.1 hc with rfl
  exact ⟨by decide, by decide⟩
theorem pcl_lg : lgC 9 [pcl] = (0, 7) := by decide +kernel
theorem pcl_op : opnF [pcl] [pcl].length = [0] := by decide +kernel
theorem pcl_part : partC [pcl] (plcK [107]) = [pcl] := by
  unfold partC
  rw [List.filter_cons, if_pos (by show (plcK [107] == plcK [107]) = true; simp)]
  rfl
set_option maxRecDepth 20000 in
set_option maxHeartbeats 1500000 in
theorem parts_any (w : World) (he : EnvK w) : Calls Tryd.prog 8 #[] w fun e W' => e = .returned (.bool true) ∧ Below w.heap.size w W' := by
  obtain ⟨N, hN⟩ : ∃ N, w.heap.size = N := ⟨_, rfl⟩
  have r1 := heap_alloc_new w (.cells #[.int .i64 0, .int .i64 1, .int .i64 2, .string ⟨#[107]⟩, .string ⟨#[]⟩, .string ⟨#[]⟩, .int .i64 2, .int .i64 (-1), .int .i64 0, .string ⟨#[]⟩] 51)
  have hb1 := (Below.refl _ w).alloc (Nat.le_refl _) (.cells #[.int .i64 0, .int .i64 1, .int .i64 2, .string ⟨#[107]⟩, .string ⟨#[]⟩, .string ⟨#[]⟩, .int .i64 2, .int .i64 (-1), .int .i64 0, .string ⟨#[]⟩] 51)
  obtain ⟨W1, hW1⟩ : ∃ W, w.alloc (.cells #[.int .i64 0, .int .i64 1, .int .i64 2, .string ⟨#[107]⟩, .string ⟨#[]⟩, .string ⟨#[]⟩, .int .i64 2, .int .i64 (-1), .int .i64 0, .string ⟨#[]⟩] 51) = W := ⟨_, rfl⟩
  rw [hW1] at r1 hb1
  rw [hN] at r1 hb1
  have hz1 : W1.heap.size = N + 1 := by rw [← hW1, ← hN]; simp
  have hs1 : SlF ccs 10 W1 (.slice (some ⟨N, 0, none⟩) 1 1) [pcl] := SlF.of_block (l := [pcl]) r1 (fun _ => rfl) rfl
  have he1 : EnvK W1 := he.next (by rw [hN]; exact hb1)
  obtain ⟨p, hp⟩ : ∃ p, plcK [107] = p := ⟨_, rfl⟩
  have hp4 : p < 4 := by rw [← hp]; exact plcK_lt _
  have HS : Hid (Calls Tryd.prog 9 #[.slice (some ⟨N, 0, none⟩) 1 1, .slice none 0 0] W1 fun e W' => ∃ (B : Nat) (a : Option Addr) (c : Nat), e = .returned (.tuple #[.slice (some ⟨B, 0, none⟩) 4 4, .int .i64 0]) ∧ B < W'.heap.size ∧ W'.cell? ⟨B, p * 2, none⟩ = some (.slice a 1 c) ∧ Below (N + 1) W1 W') := by
    have h := Split_any [pcl] [] _ (.slice none 0 0) W1 hs1 (.inl ⟨rfl, none, 0, rfl⟩) (by decide) (by decide) pcl_wf (fun p hp => by cases hp) (fun c hc => by rcases List.mem_singleton.1 hc with rfl; decide) he1
    rw [hz1] at h
    refine h.mono fun e W' hh => ?_
    obtain ⟨B, U, V, h1, h2, h3⟩ := hh
    have hcs := h2.cs p hp4
    rw [← hp, pcl_part] at hcs
    obtain ⟨a, c, hac⟩ := hcs.slice
    refine ⟨B, a, c, h1, (Array.getElem?_eq_some_iff.1 h2.box).1, cellB h2.box (p * 2) _ ?_, h3⟩
    have e1 : U p = .slice a 1 c := by rw [← hp]; exact hac
    rw [← e1]
    rcases p with _ | _ | _ | _ | p
    · rfl
    · rfl
    · rfl
    · rfl
    · omega
  have HL : Hid (∀ W, Below (N + 1) W1 W → Calls Tryd.prog 17 #[.slice (some ⟨N, 0, none⟩) 1 1, .int .i64 9] W fun e W' => e = .returned (.tuple #[.int .i64 0, .int .i64 7]) ∧ Below W.heap.size W W') := fun W hW => by
    have h := Longest_any [pcl] _ 9 W (hs1.on hW (by omega)) (by decide)
    rw [pcl_lg] at h
    exact h
  have HO : Hid (∀ W, Below (N + 1) W1 W → Calls Tryd.prog 19 #[.slice (some ⟨N, 0, none⟩) 1 1] W fun e W' => ∃ a c, e = .returned (.slice a 1 c) ∧ Below W.heap.size W W') := fun W hW => by
    have h := Open_any [pcl] _ W (hs1.on hW (by omega)) (by decide)
    rw [pcl_op] at h
    refine h.mono fun e W' hh => ?_
    obtain ⟨u, h1, h2, h3⟩ := hh
    obtain ⟨a, c, hac⟩ := h2.slice
    exact ⟨a, c, by rw [h1, hac]; rfl, h3⟩
  have HR : Hid (∀ W, Calls Tryd.prog 21 #[.string ⟨#[107]⟩] W fun e W' => e = .returned (.int .i64 p) ∧ Below W.heap.size W W') := fun W => by
    have h := rPlace_any [107] W (by decide)
    rw [hp] at h
    exact h
  have HW : Hid (w.alloc (.cells #[.int .i64 0, .int .i64 1, .int .i64 2, .string ⟨#[107]⟩, .string ⟨#[]⟩, .string ⟨#[]⟩, .int .i64 2, .int .i64 (-1), .int .i64 0, .string ⟨#[]⟩] 51) = W1) := hW1
  have HN : Hid (w.heap.size = N) := hN
  have HB : Hid (Below N w W1 ∧ W1.heap.size = N + 1) := ⟨hb1, hz1⟩
  have d0 : (0 : Int) ≤ (p : Int) := by omega
  have d1 : (p : Int) < 4 := by omega
  clear r1 hb1 hW1 hN hz1 hs1 he1 he hp hp4
  go_enter Tryd.func8, Tryd.ntmps8
  go_upto_region 2 with fail
  rw [HW.out]
  try rw [HN.out]
  go_upto_region 3 with (go_at_call 9; refine HS.out.mono ?_; clear HS; rintro e w2 ⟨B, a, c, rfl, hBl, hcell, hb2⟩)
  have hL := HL.out w2 hb2
  go_upto_region 4 with (go_at_call 17; refine hL.mono ?_; clear hL; rintro e w3 ⟨rfl, hb3⟩)
  have hb23 : Below (N + 1) W1 w3 := hb2.trans (hb3.mono (by have := hb2.size; have := HB.out.2; omega))
  have hO := HO.out w3 hb23
  go_upto_region 5 with (go_at_call 19; refine hO.mono ?_; clear hO; rintro e w4 ⟨oa, oc, rfl, hb4⟩)
  have hb24 : Below (N + 1) W1 w4 := hb23.trans (hb4.mono (by have := hb23.size; have := HB.out.2; omega))
  have hcell4 : ∀ W, Below w4.heap.size w4 W → W.cell? ⟨B, p * 2, none⟩ = some (.slice a 1 c) := fun W hW => by
    have h1 := hb3.size
    have h2 := hb4.size
    have e1 : W.heap[B]? = w2.heap[B]? := (hW.block B (by omega)).trans ((hb4.block B (by omega)).trans (hb3.block B hBl))
    unfold World.cell? at hcell ⊢
    rw [e1]
    exact hcell
  have HC4 : Hid (Calls Tryd.prog 21 #[.string ⟨#[107]⟩] w4 fun e W' => e = .returned (.int .i64 p) ∧ W'.cell? ⟨B, p * 2, none⟩ = some (.slice a 1 c) ∧ Below (N + 1) W1 W') := (HR.out w4).mono fun e W' hh => ⟨hh.1, hcell4 W' hh.2, hb24.trans (hh.2.mono (by have := hb24.size; have := HB.out.2; omega))⟩
  clear hcell4 hcell hb2 hb3 hb4 hb23 hb24 hBl HL HO HR HW
  go_wp2_with (go_at_call 21; refine HC4.out.mono ?_; clear HC4; rintro e w5 ⟨rfl, hc5, hb5⟩)
  go_ret
  exact ⟨rfl, by rw [HN.out]; exact HB.out.1.trans (hb5.mono (by omega))⟩
end Go.Proofs.YtihilkdokfdoeaaDoor
