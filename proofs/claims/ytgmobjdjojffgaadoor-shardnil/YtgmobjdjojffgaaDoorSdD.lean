/- Shards: Do that does nothing, and Begin, Freeze of a shard, walked. -/
import Derived.Test.YtgmobjdjojffgaaDoorSdC
namespace Go.Proofs.YtgmobjdjojffgaaDoor
open Go.RowKit
attribute [local go_sem ↓] Go.wp_at_zero Go.wp_at_succ

/-- What Do answers. -/
abbrev ansV (e : Int) (t : List UInt8) (d : Bool) (err : Int) : Value := .tuple #[.agg #[.int .i64 e, .string (bs t)], .bool d, .int .i64 err]
abbrev W2 (w : World) (kind : Int) (k vl o : List UInt8) : World := (w.alloc (.cells #[.int .i64 kind, .string (bs k), .string (bs vl), .string (bs o)] 42)).alloc (.cells #[.int .i64 0, .string ⟨#[]⟩] 47)
theorem W2_below (w : World) (kind : Int) (k vl o : List UInt8) : Below w.heap.size w (W2 w kind k vl o) := ((Below.refl _ _).alloc (Nat.le_refl _) _).alloc (by simp) _
def okN (client number : Int) : Bool := inR client 0 7 && inR number 1 1099511627776
set_option maxRecDepth 20000 in
set_option maxHeartbeats 1000000 in
theorem sDo_bad (p : Value) (client number kind : Int) (k vl o : List UInt8) (w : World) (h : okN client number = false) : Calls Tryd.prog 20 #[p, .int .i64 client, .int .i64 number, opV kind k vl o] w fun e W' => e = .returned (ansV 0 [] false 1) ∧ Below w.heap.size w W' := by
  have hb1 := W2_below w kind k vl o
  have h1 := within_any client 0 7 (W2 w kind k vl o)
  have h2 := within_any number 1 1099511627776 (W2 w kind k vl o)
  have hne : w.heap.size + 1 < w.heap.size + 2 := by omega
  obtain ⟨a, ha⟩ : ∃ a, inR client 0 7 = a := ⟨_, rfl⟩
  obtain ⟨b, hb⟩ : ∃ b, inR number 1 1099511627776 = b := ⟨_, rfl⟩
  rw [okN, ha, hb] at h
  rw [ha] at h1
  rw [hb] at h2
  clear ha hb
  have HB : Hid (Below w.heap.size w (W2 w kind k vl o)) := hb1
  clear hb1
  cases a with
  | false =>
    clear h
    go_enter Tryd.func20, Tryd.ntmps20
    go_wp2_with (first
      | (go_at_call 26; refine h1.mono ?_; clear h1; rintro e w1 ⟨rfl, h9⟩; subst h9))
    exact bodyPost_ret (v := ansV 0 [] false 1) (by simp [results, Tryd.f20, go_sem, bs]) rfl ⟨rfl, HB.out⟩
  | true =>
    have hb0 : b = false := by simpa using h
    subst hb0
    clear h
    go_enter Tryd.func20, Tryd.ntmps20
    go_wp2_with (first
      | (go_at_call 26; refine h1.mono ?_; clear h1; rintro e w1 ⟨rfl, h9⟩; subst h9)
      | (go_at_call 26; refine h2.mono ?_; clear h2; rintro e w1 ⟨rfl, h9⟩; subst h9))
    exact bodyPost_ret (v := ansV 0 [] false 1) (by simp [results, Tryd.f20, go_sem, bs]) rfl ⟨rfl, HB.out⟩
set_option maxRecDepth 20000 in
set_option maxHeartbeats 1000000 in
theorem sDo_state (p : Value) (client number kind st : Int) (k vl o : List UInt8) (w : World) (h : okN client number = true) (hst : st ≠ 1) (hS : Calls Tryd.prog 21 #[p] (W2 w kind k vl o) fun e W' => e = .returned (.int .i64 st) ∧ W' = W2 w kind k vl o) : Calls Tryd.prog 20 #[p, .int .i64 client, .int .i64 number, opV kind k vl o] w fun e W' => e = .returned (ansV 0 [] false 7) ∧ Below w.heap.size w W' := by
  have HB : Hid (Below w.heap.size w (W2 w kind k vl o)) := W2_below w kind k vl o
  have h1 := within_any client 0 7 (W2 w kind k vl o)
  have h2 := within_any number 1 1099511627776 (W2 w kind k vl o)
  have hne : (st != 1) = true := by simpa using hst
  rw [okN, Bool.and_eq_true] at h
  rw [h.1] at h1
  rw [h.2] at h2
  clear h hst
  go_enter Tryd.func20, Tryd.ntmps20
  go_wp2_with (first
    | (go_at_call 26; refine h1.mono ?_; clear h1; rintro e w1 ⟨rfl, h9⟩; subst h9)
    | (go_at_call 26; refine h2.mono ?_; clear h2; rintro e w1 ⟨rfl, h9⟩; subst h9)
    | (go_at_call 21; refine hS.mono ?_; clear hS; rintro e w1 ⟨rfl, h9⟩; subst h9))
  exact bodyPost_ret (v := ansV 0 [] false 7) (by simp [results, Tryd.f20, go_sem, bs]) rfl ⟨rfl, HB.out⟩
/-- A shard that serves nothing yet. -/
def shB : Sh := ⟨1, [], fun _ => la0⟩
theorem Laid.sh {w W' : World} {B T : Nat} {s' : Sh} {v : Value} (h : Laid w B s'.st (hcs s' T) W') (hlt : B < w.heap.size) (ht : hasC s'.st = true → TabAt w T s'.l v ∧ T ≠ B ∧ ∀ k, v.ownBlock = some k → k ≠ B) (hz : hasC s'.st = false → s'.l = [] ∧ s'.c = fun _ => la0) : ShAt W' B s' T v :=
  ⟨Nat.lt_of_lt_of_le hlt h.mv.size, h.c0, h.ch, h.fz, fun hc => ⟨(ht hc).1.keep (h.mv.block T (ht hc).1.lt (ht hc).2.1) (fun k e hlt => h.mv.block k hlt ((ht hc).2.2 k e)), (ht hc).2⟩, hz⟩
set_option maxRecDepth 20000 in
set_option maxHeartbeats 1000000 in
theorem Begin_ok {w : World} {B : Nat} {s : Sh} {T : Nat} {v : Value} (h : ShAt w B s T v) (h0 : s.st = 0) : Calls Tryd.prog 15 #[.pointer (some ⟨B, 0, none⟩)] w fun e W' => e = .returned (.int .i64 0) ∧ ShAt W' B shB w.heap.size (.slice none 0 0) ∧ Mv B w W' := by
  have hz := Tryd.zero69
  have HT : Hid (∀ W, Below w.heap.size w W → TabAt W w.heap.size [] (.slice none 0 0) → Calls Tryd.prog 36 #[.pointer (some ⟨B, 0, none⟩), .int .i64 0, .int .i64 1, .agg (.pointer (some ⟨w.heap.size, 0, none⟩) :: C24).toArray] W fun e W' => e = .returned (.int .i64 0) ∧ ShAt W' B shB w.heap.size (.slice none 0 0) ∧ Mv B w W') := fun W hb ht => by
    have h1 := h.on hb
    have hlt := h.lt
    have := turn_ok h1 1 (hcs shB w.heap.size) (hcs_len _ _) (hcs_one _ _)
    rw [h0] at this
    refine this.mono ?_
    rintro e W' ⟨rfl, hL⟩
    exact ⟨rfl, Laid.sh (s' := shB) hL h1.lt (fun _ => ⟨ht, by omega, fun k e => by cases e⟩) (fun e => by cases e), (Mv.of_below hb B).trans hL.mv⟩
  have hN := New_any w
  obtain ⟨C, hC⟩ : ∃ C, C24 = C := ⟨_, rfl⟩
  rw [hC] at hz HT
  clear hC h h0
  go_enter Tryd.func15, Tryd.ntmps15
  go_wp2_with (first
    | (go_at_call 37; refine hN.mono ?_; clear hN; rintro e w1 ⟨rfl, ht, hb, _⟩; have hT := HT.out _ hb ht; clear HT)
    | (go_at_call 36; refine hT.mono ?_; clear hT; rintro e w2 ⟨rfl, hq⟩))
  go_ret
  exact ⟨rfl, hq⟩
end Go.Proofs.YtgmobjdjojffgaaDoor
