/- The law ShardNil, walked. -/
import Derived.Test.YtgmobjdjojffgaaDoorSdI
namespace Go.Proofs.YtgmobjdjojffgaaDoor
open Go.RowKit
attribute [local go_sem ↓] Go.wp_at_zero Go.wp_at_succ

theorem Content_no {w : World} {B : Nat} {s : Sh} {T : Nat} {v : Value} (h : ShAt w B s T v) (h0 : hasC s.st = false) : Calls Tryd.prog 19 #[.pointer (some ⟨B, 0, none⟩)] w fun e W' => e = .returned (.string (bs [])) ∧ W' = w := by
  have hS := Status_any h
  have hH := holds_any s.st w
  rw [h0] at hH
  clear h h0
  go_enter Tryd.func19, Tryd.ntmps19
  go_wp2_with (first
    | (go_at_call 21; refine hS.mono ?_; clear hS; rintro e w1 ⟨rfl, h9⟩; subst h9)
    | (go_at_call 27; refine hH.mono ?_; clear hH; rintro e w1 ⟨rfl, h9⟩; subst h9))
  go_ret
  exact ⟨rfl, rfl⟩
theorem sText_nil {w : World} (he : EnvP w) : Calls Tryd.prog 11 #[.pointer none] w fun e W' => e = .returned (.string (bs (packL [Lib.itoa 0, []]))) ∧ Below w.heap.size w W' :=
  sText_of he _ 0 [] (by omega) (by omega) (by simp) (fun W _ => Status_nil W) (fun W hb => (Content_nil W).mono fun e W' h => ⟨h.1, h.2 ▸ hb⟩)
theorem sText_no {w : World} (he : EnvP w) {B : Nat} {s : Sh} {T : Nat} {v : Value} (h : ShAt w B s T v) (h0 : hasC s.st = false) (h1 : 0 ≤ s.st) (h2 : s.st ≤ 3) : Calls Tryd.prog 11 #[.pointer (some ⟨B, 0, none⟩)] w fun e W' => e = .returned (.string (bs (packL [Lib.itoa s.st, []]))) ∧ Below w.heap.size w W' :=
  sText_of he _ s.st [] h1 h2 (by simp) (fun W hb => Status_any (h.on hb)) (fun W hb => (Content_no (h.on hb) h0).mono fun e W' k => ⟨k.1, k.2 ▸ hb⟩)
theorem sDo_nil (client number kind : Int) (k vl o : List UInt8) (w : World) : Calls Tryd.prog 20 #[.pointer none, .int .i64 client, .int .i64 number, opV kind k vl o] w fun e W' => e = .returned (ansV 0 [] false (if okN client number = true then 7 else 1)) ∧ Below w.heap.size w W' := by
  cases h : okN client number with
  | false => exact sDo_bad _ client number kind k vl o w h
  | true => exact sDo_state _ client number kind 0 k vl o w h (by decide) (Status_nil _)
abbrev stepC (op client number kind : Int) (k vl o t : List UInt8) : Array Value := #[.int .i64 op, .int .i64 client, .int .i64 number, .int .i64 kind, .string (bs k), .string (bs vl), .string (bs o), .string (bs t)]
set_option maxRecDepth 20000 in
set_option maxHeartbeats 4000000 in
theorem snil_any (op client number kind : Int) (k vl o t : List UInt8) (w : World) (he : EnvP w) : Calls Tryd.prog 6 #[.agg (stepC op client number kind k vl o t)] w fun e W' => e = .returned (.bool true) ∧ Below w.heap.size w W' := by
  have hb1 : Below w.heap.size w (w.alloc (.cells (stepC op client number kind k vl o t) 44)) := (Below.refl _ _).alloc (Nat.le_refl _) _
  have hop := heap_alloc_new w (.cells (stepC op client number kind k vl o t) 44)
  obtain ⟨WA, hWA⟩ : ∃ W, w.alloc (.cells (stepC op client number kind k vl o t) 44) = W := ⟨_, rfl⟩
  have HWA : Hid (w.alloc (.cells (stepC op client number kind k vl o t) 44) = WA) := hWA
  have hws : WA.heap.size = w.heap.size + 1 := by rw [← hWA]; simp
  rw [hWA] at hop hb1
  have HQ : Hid (∀ W, Below WA.heap.size WA W → W.heap[w.heap.size]? = some (.cells (stepC op client number kind k vl o t) 44) ∧ w.heap.size < W.heap.size) :=
    fun W hb => ⟨(hb.block _ (by omega)).trans hop, by have := hb.size; omega⟩
  have r := cellB hop
  have a1 := r 1 _ rfl
  have a2 := r 2 _ rfl
  have a3 := r 3 _ rfl
  have a4 := r 4 _ rfl
  have a5 := r 5 _ rfl
  have a6 := r 6 _ rfl
  have hD := sDo_nil client number kind k vl o WA
  have HB : Hid (∀ W, Below WA.heap.size WA W → Below w.heap.size w W) := fun W hb => hb1.trans (hb.mono (by omega))
  have HE : Hid (∀ W, Below WA.heap.size WA W → EnvP W) := fun W hb => he.next (hb1.trans (hb.mono (by omega)))
  have hz := emp_t (v := []) rfl
  have hcase : ((if okN client number = true then (7 : Int) else 1) = 7 ∧ 0 ≤ client ∧ client ≤ 7 ∧ 1 ≤ number ∧ number ≤ 1099511627776) ∨ ((if okN client number = true then (7 : Int) else 1) = 1 ∧ (client < 0 ∨ (0 ≤ client ∧ 7 < client) ∨ (0 ≤ client ∧ client ≤ 7 ∧ number < 1) ∨ (0 ≤ client ∧ client ≤ 7 ∧ 1 ≤ number ∧ ¬ number ≤ 1099511627776))) := by
    cases h : okN client number with
    | true =>
      rw [okN, Bool.and_eq_true] at h
      have x1 := inR_t h.1
      have x2 := inR_t h.2
      exact .inl ⟨rfl, by omega, by omega, by omega, by omega⟩
    | false =>
      refine .inr ⟨rfl, ?_⟩
      rw [okN, Bool.and_eq_false_iff] at h
      rcases h with h | h
      · have := inR_f h
        omega
      · have := inR_f h
        omega
  obtain ⟨E, hE⟩ : ∃ E, (if okN client number = true then (7 : Int) else 1) = E := ⟨_, rfl⟩
  rw [hE] at hD hcase
  clear hE hWA hb1 hop r he
  rcases hcase with ⟨rfl, g1, g2, g3, g4⟩ | ⟨rfl, g1 | ⟨g1, g2⟩ | ⟨g1, g2, g3⟩ | ⟨g1, g2, g3, g4⟩⟩
  all_goals
    go_enter Tryd.func6, Tryd.ntmps6
    go_upto_region 1 with fail
    rw [HWA.out]
    clear HWA
    go_wp2_with (first
      | (go_at_call 20; refine hD.mono ?_; clear hD; rintro e w1 ⟨rfl, hb⟩; obtain ⟨hq, hqs⟩ := HQ.out _ hb; have c1 := cellB hq 1 _ rfl; have c2 := cellB hq 2 _ rfl; have hbB := hb.alloc hb.size (.cells #[.int .i64 0, .string ⟨#[]⟩] 47))
      | (go_at_call 15; refine (Begin_nil _).mono ?_; rintro e w2 ⟨rfl, k2⟩; have hb2 := hbB.trans (k2.mono hbB.size); clear k2)
      | (go_at_call 17; refine (Pull_nil _).mono ?_; rintro e w3 ⟨rfl, k3⟩; have hb3 := hb2.trans (k3.mono hb2.size); clear k3)
      | (go_at_call 16; refine (Freeze_nil _).mono ?_; rintro e w9 ⟨rfl, h9⟩; subst h9)
      | (go_at_call 22; refine (Drop_nil _).mono ?_; rintro e w4 ⟨rfl, k4⟩; have hb4 := hb3.trans (k4.mono hb3.size); clear k4; have c7 := cellB (HQ.out _ hb4).1 7 _ rfl)
      | (go_at_call 18; refine (Install_nil _ _).mono ?_; rintro e w9 ⟨rfl, h9⟩; subst h9)
      | (go_at_call 21; refine (Status_nil _).mono ?_; rintro e w9 ⟨rfl, h9⟩; subst h9)
      | (go_at_call 19; refine (Content_nil _).mono ?_; rintro e w9 ⟨rfl, h9⟩; subst h9; have hx := sText_nil (HE.out _ hb4))
      | (go_at_call 11; refine hx.mono ?_; clear hx; rintro e w5 ⟨rfl, k5⟩; have hb5 := hb4.trans (k5.mono hb4.size); clear k5)
      | (go_at_call 13; refine (sNew_any _).mono ?_; rintro e w6 ⟨rfl, ks, k6, _⟩; have hb6 := hb5.trans (k6.mono hb5.size); clear k6; have hy : Calls Tryd.prog 11 _ w6 _ := sText_no (HE.out _ hb6) ks rfl (by decide) (by decide); have hss := str_same (packL [Lib.itoa 0, []]))
      | (go_at_call 11; refine hy.mono ?_; clear hy; rintro e w7 ⟨rfl, k7⟩; have hb7 := hb6.trans (k7.mono hb6.size); clear k7)
      | (go_at_call 8; refine (serves_any _).mono ?_; rintro e w8 ⟨rfl, k8⟩; have hb8 := hb7.trans (k8.mono hb7.size); clear k8))
    go_ret
    first
      | exact ⟨rfl, HB.out _ hb8⟩
      | (refine ⟨?_, HB.out _ hb8⟩
         show Ending.returned (.bool (!decide (number ≤ 1099511627776))) = _
         rw [decide_eq_false (by omega)]
         rfl)
end Go.Proofs.YtgmobjdjojffgaaDoor
