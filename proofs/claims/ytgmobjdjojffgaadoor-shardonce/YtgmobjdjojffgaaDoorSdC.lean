/- Shards: Begin, Pull, Freeze, Drop, Do, Install, Content of none, walked. -/
import Derived.Test.YtgmobjdjojffgaaDoorSdB
namespace Go.Proofs.YtgmobjdjojffgaaDoor
section
open Go.RowKit
attribute [local go_sem ↓] Go.wp_at_zero Go.wp_at_succ

/-- The cells of no client. -/
def C24 : List Value := ccs fun _ => la0
theorem C24_len : C24.length = 24 := ccs_len _
theorem Tryd.info69 : (Tryd.prog.info? 69).map (fun i => (i.zero, i.size, i.bytes)) = some (some (.agg (.pointer none :: C24).toArray), 25, 264) := by kernel_rfl
theorem Tryd.zero69 (w : World) : (zeroValue 69).run Tryd.prog w = .ok (.agg (.pointer none :: C24).toArray) w := by
  obtain ⟨i, hi, hz, _⟩ := info_parts Tryd.info69
  simp [zeroValue, typeInfo, hi, hz]
set_option maxRecDepth 20000 in
set_option maxHeartbeats 1000000 in
theorem Pull_nil (w : World) : Calls Tryd.prog 17 #[.pointer none] w fun e W' => e = .returned (.int .i64 7) ∧ Below w.heap.size w W' := by
  have hz := Tryd.zero69
  have hT := turn_nil 0 3 (.pointer none :: C24) w
  obtain ⟨C, hC⟩ : ∃ C, C24 = C := ⟨_, rfl⟩
  rw [hC] at hz hT
  clear hC
  go_enter Tryd.func17, Tryd.ntmps17
  go_wp2_with (first | (go_at_call 36; refine hT.mono ?_; clear hT; rintro e w1 ⟨rfl, hb⟩))
  go_ret
  exact ⟨rfl, hb⟩
set_option maxRecDepth 20000 in
set_option maxHeartbeats 1000000 in
theorem Drop_nil (w : World) : Calls Tryd.prog 22 #[.pointer none] w fun e W' => e = .returned (.int .i64 7) ∧ Below w.heap.size w W' := by
  have hz := Tryd.zero69
  have hT := turn_nil 2 0 (.pointer none :: C24) w
  obtain ⟨C, hC⟩ : ∃ C, C24 = C := ⟨_, rfl⟩
  rw [hC] at hz hT
  clear hC
  go_enter Tryd.func22, Tryd.ntmps22
  go_wp2_with (first | (go_at_call 36; refine hT.mono ?_; clear hT; rintro e w1 ⟨rfl, hb⟩))
  go_ret
  exact ⟨rfl, hb⟩
set_option maxRecDepth 20000 in
set_option maxHeartbeats 1000000 in
theorem Begin_nil (w : World) : Calls Tryd.prog 15 #[.pointer none] w fun e W' => e = .returned (.int .i64 7) ∧ Below w.heap.size w W' := by
  have hz := Tryd.zero69
  have HT : Hid (∀ W p, Calls Tryd.prog 36 #[.pointer none, .int .i64 0, .int .i64 1, .agg (.pointer p :: C24).toArray] W fun e W' => e = .returned (.int .i64 7) ∧ Below W.heap.size W W') := fun W p => turn_nil 0 1 (.pointer p :: C24) W
  have hN := New_any w
  have HL := C24_len
  obtain ⟨C, hC⟩ : ∃ C, C24 = C := ⟨_, rfl⟩
  rw [hC] at hz HT HL
  clear hC
  go_enter Tryd.func15, Tryd.ntmps15
  go_wp2_with (first
    | (go_at_call 37; refine hN.mono ?_; clear hN; rintro e w1 ⟨rfl, _, hb, _⟩)
    | (go_at_call 36; refine (HT.out _ _).mono ?_; rintro e w2 ⟨rfl, hb2⟩))
  go_ret
  exact ⟨rfl, hb.trans (hb2.mono hb.size)⟩
set_option maxRecDepth 20000 in
theorem Freeze_nil (w : World) : Calls Tryd.prog 16 #[.pointer none] w fun e W' => e = .returned (.int .i64 7) ∧ W' = w := by
  have hS := Status_nil w
  go_enter Tryd.func16, Tryd.ntmps16
  go_wp2_with (first | (go_at_call 21; refine hS.mono ?_; clear hS; rintro e w1 ⟨rfl, h9⟩; subst h9))
  go_ret
  exact ⟨rfl, rfl⟩
set_option maxRecDepth 20000 in
theorem Install_nil (t : List UInt8) (w : World) : Calls Tryd.prog 18 #[.pointer none, .string (bs t)] w fun e W' => e = .returned (.int .i64 7) ∧ W' = w := by
  have hS := Status_nil w
  go_enter Tryd.func18, Tryd.ntmps18
  go_wp2_with (first | (go_at_call 21; refine hS.mono ?_; clear hS; rintro e w1 ⟨rfl, h9⟩; subst h9))
  go_ret
  exact ⟨rfl, rfl⟩
set_option maxRecDepth 20000 in
theorem Content_nil (w : World) : Calls Tryd.prog 19 #[.pointer none] w fun e W' => e = .returned (.string ⟨#[]⟩) ∧ W' = w := by
  have hS := Status_nil w
  have hH := holds_any 0 w
  rw [show hasC 0 = false from rfl] at hH
  go_enter Tryd.func19, Tryd.ntmps19
  go_wp2_with (first
    | (go_at_call 21; refine hS.mono ?_; clear hS; rintro e w1 ⟨rfl, h9⟩; subst h9)
    | (go_at_call 27; refine hH.mono ?_; clear hH; rintro e w1 ⟨rfl, h9⟩; subst h9))
  go_ret
  exact ⟨rfl, rfl⟩
end
section
open Go.RowKit
attribute [local go_sem ↓] Go.wp_at_zero Go.wp_at_succ

/-- What Do answers. -/
abbrev ansV (e : Int) (t : List UInt8) (d : Bool) (err : Int) : Value := .tuple #[.agg #[.int .i64 e, .string (bs t)], .bool d, .int .i64 err]
abbrev W2 (w : World) (kind : Int) (k vl o : List UInt8) : World := (w.alloc (.cells #[.int .i64 kind, .string (bs k), .string (bs vl), .string (bs o)] 42)).alloc (.cells #[.int .i64 0, .string ⟨#[]⟩] 47)
theorem W2_below (w : World) (kind : Int) (k vl o : List UInt8) : Below w.heap.size w (W2 w kind k vl o) := ((Below.refl _ _).alloc (Nat.le_refl _) _).alloc (by simp) _
def okN (client number : Int) : Bool := inR client 0 7 && inR number 1 1099511627776
set_option maxRecDepth 20000 in
set_option maxHeartbeats 1000000 in
theorem sDo_bad (p : Value) (client number kind : Int) (k vl o : List UInt8) (w : World) (h : okN client number = false) : Calls Tryd.prog 20 #[p, .int .i64 client, .int .i64 number, opV kind k vl o] w fun e W' => e = .returned (ansV 0 [] false 1) ∧ Below w.heap.size w W' := by
  have hb1 := W2_below w kind k vl o
  have h1 := within_any client 0 7 (W2 w kind k vl o)
  have h2 := within_any number 1 1099511627776 (W2 w kind k vl o)
  have hne : w.heap.size + 1 < w.heap.size + 2 := by omega
  obtain ⟨a, ha⟩ : ∃ a, inR client 0 7 = a := ⟨_, rfl⟩
  obtain ⟨b, hb⟩ : ∃ b, inR number 1 1099511627776 = b := ⟨_, rfl⟩
  rw [okN, ha, hb] at h
  rw [ha] at h1
  rw [hb] at h2
  clear ha hb
  have HB : Hid (Below w.heap.size w (W2 w kind k vl o)) := hb1
  clear hb1
  cases a with
  | false =>
    clear h
    go_enter Tryd.func20, Tryd.ntmps20
    go_wp2_with (first
      | (go_at_call 26; refine h1.mono ?_; clear h1; rintro e w1 ⟨rfl, h9⟩; subst h9))
    exact bodyPost_ret (v := ansV 0 [] false 1) (by simp [results, Tryd.f20, go_sem, bs]) rfl ⟨rfl, HB.out⟩
  | true =>
    have hb0 : b = false := by simpa using h
    subst hb0
    clear h
    go_enter Tryd.func20, Tryd.ntmps20
    go_wp2_with (first
      | (go_at_call 26; refine h1.mono ?_; clear h1; rintro e w1 ⟨rfl, h9⟩; subst h9)
      | (go_at_call 26; refine h2.mono ?_; clear h2; rintro e w1 ⟨rfl, h9⟩; subst h9))
    exact bodyPost_ret (v := ansV 0 [] false 1) (by simp [results, Tryd.f20, go_sem, bs]) rfl ⟨rfl, HB.out⟩
set_option maxRecDepth 20000 in
set_option maxHeartbeats 1000000 in
theorem sDo_state (p : Value) (client number kind st : Int) (k vl o : List UInt8) (w : World) (h : okN client number = true) (hst : st ≠ 1) (hS : Calls Tryd.prog 21 #[p] (W2 w kind k vl o) fun e W' => e = .returned (.int .i64 st) ∧ W' = W2 w kind k vl o) : Calls Tryd.prog 20 #[p, .int .i64 client, .int .i64 number, opV kind k vl o] w fun e W' => e = .returned (ansV 0 [] false 7) ∧ Below w.heap.size w W' := by
  have HB : Hid (Below w.heap.size w (W2 w kind k vl o)) := W2_below w kind k vl o
  have h1 := within_any client 0 7 (W2 w kind k vl o)
  have h2 := within_any number 1 1099511627776 (W2 w kind k vl o)
  have hne : (st != 1) = true := by simpa using hst
  rw [okN, Bool.and_eq_true] at h
  rw [h.1] at h1
  rw [h.2] at h2
  clear h hst
  go_enter Tryd.func20, Tryd.ntmps20
  go_wp2_with (first
    | (go_at_call 26; refine h1.mono ?_; clear h1; rintro e w1 ⟨rfl, h9⟩; subst h9)
    | (go_at_call 26; refine h2.mono ?_; clear h2; rintro e w1 ⟨rfl, h9⟩; subst h9)
    | (go_at_call 21; refine hS.mono ?_; clear hS; rintro e w1 ⟨rfl, h9⟩; subst h9))
  exact bodyPost_ret (v := ansV 0 [] false 7) (by simp [results, Tryd.f20, go_sem, bs]) rfl ⟨rfl, HB.out⟩
/-- A shard that serves nothing yet. -/
def shB : Sh := ⟨1, [], fun _ => la0⟩
theorem Laid.sh {w W' : World} {B T : Nat} {s' : Sh} {v : Value} (h : Laid w B s'.st (hcs s' T) W') (hlt : B < w.heap.size) (ht : hasC s'.st = true → TabAt w T s'.l v ∧ T ≠ B ∧ ∀ k, v.ownBlock = some k → k ≠ B) (hz : hasC s'.st = false → s'.l = [] ∧ s'.c = fun _ => la0) : ShAt W' B s' T v :=
  ⟨Nat.lt_of_lt_of_le hlt h.mv.size, h.c0, h.ch, h.fz, fun hc => ⟨(ht hc).1.keep (h.mv.block T (ht hc).1.lt (ht hc).2.1) (fun k e hlt => h.mv.block k hlt ((ht hc).2.2 k e)), (ht hc).2⟩, hz⟩
set_option maxRecDepth 20000 in
set_option maxHeartbeats 1000000 in
theorem Begin_ok {w : World} {B : Nat} {s : Sh} {T : Nat} {v : Value} (h : ShAt w B s T v) (h0 : s.st = 0) : Calls Tryd.prog 15 #[.pointer (some ⟨B, 0, none⟩)] w fun e W' => e = .returned (.int .i64 0) ∧ ShAt W' B shB w.heap.size (.slice none 0 0) ∧ Mv B w W' := by
  have hz := Tryd.zero69
  have HT : Hid (∀ W, Below w.heap.size w W → TabAt W w.heap.size [] (.slice none 0 0) → Calls Tryd.prog 36 #[.pointer (some ⟨B, 0, none⟩), .int .i64 0, .int .i64 1, .agg (.pointer (some ⟨w.heap.size, 0, none⟩) :: C24).toArray] W fun e W' => e = .returned (.int .i64 0) ∧ ShAt W' B shB w.heap.size (.slice none 0 0) ∧ Mv B w W') := fun W hb ht => by
    have h1 := h.on hb
    have hlt := h.lt
    have := turn_ok h1 1 (hcs shB w.heap.size) (hcs_len _ _) (hcs_one _ _)
    rw [h0] at this
    refine this.mono ?_
    rintro e W' ⟨rfl, hL⟩
    exact ⟨rfl, Laid.sh (s' := shB) hL h1.lt (fun _ => ⟨ht, by omega, fun k e => by cases e⟩) (fun e => by cases e), (Mv.of_below hb B).trans hL.mv⟩
  have hN := New_any w
  obtain ⟨C, hC⟩ : ∃ C, C24 = C := ⟨_, rfl⟩
  rw [hC] at hz HT
  clear hC h h0
  go_enter Tryd.func15, Tryd.ntmps15
  go_wp2_with (first
    | (go_at_call 37; refine hN.mono ?_; clear hN; rintro e w1 ⟨rfl, ht, hb, _⟩; have hT := HT.out _ hb ht; clear HT)
    | (go_at_call 36; refine hT.mono ?_; clear hT; rintro e w2 ⟨rfl, hq⟩))
  go_ret
  exact ⟨rfl, hq⟩
end
section
open Go.RowKit
attribute [local go_sem ↓] Go.wp_at_zero Go.wp_at_succ

theorem freeze_sh {w : World} {B : Nat} {s : Sh} {T : Nat} {v : Value} (h : ShAt w B s T v) (h1 : s.st = 1) : ShAt (w.setCell ⟨B, 0, none⟩ (.int .i64 2)) B ⟨2, s.l, s.c⟩ T v ∧ Mv B w (w.setCell ⟨B, 0, none⟩ (.int .i64 2)) := by
  have hc1 : hasC s.st = true := by rw [h1]; rfl
  have hfar : ∀ k, k ≠ B → (w.setCell ⟨B, 0, none⟩ (.int .i64 2)).heap[k]? = w.heap[k]? := fun k hk => set_far hk _ _
  have hch : hcs ⟨2, s.l, s.c⟩ T = hcs s T := by rw [hcs, hcs, hc1]; rfl
  refine ⟨⟨by simpa [World.setCell] using h.lt, ?_, fun j x hx => ?_, fun j => ?_, fun _ => ⟨(h.tab hc1).1.keep (hfar T (h.tab hc1).2.1) fun k e _ => hfar k ((h.tab hc1).2.2 k e), (h.tab hc1).2⟩, fun e => by cases e⟩, rfl, rfl, rfl, by simp [World.setCell], fun k _ hk => hfar k hk⟩
  · exact World.cell?_setCells_in B [.int .i64 2] 0 w (fun j hj => by
      have : j = 0 := by simp at hj; omega
      subst this
      rw [h.c0]
      rfl) 0 (by simp)
  · rw [hch] at hx
    exact (World.cell?_setCells_out B [.int .i64 2] 0 w ⟨B, 1 + j, none⟩ (fun _ _ => .inr (by simp))).trans (h.ch j x hx)
  · exact (World.frozen?_setCells B [.int .i64 2] 0 w ⟨B, j, none⟩).trans (h.fz j)
set_option maxRecDepth 20000 in
set_option maxHeartbeats 1000000 in
theorem Freeze_ok {w : World} {B : Nat} {s : Sh} {T : Nat} {v : Value} (h : ShAt w B s T v) (h1 : s.st = 1) : Calls Tryd.prog 16 #[.pointer (some ⟨B, 0, none⟩)] w fun e W' => e = .returned (.int .i64 0) ∧ ShAt W' B ⟨2, s.l, s.c⟩ T v ∧ Mv B w W' := by
  have hS := Status_any h
  have HF : Hid (_) := freeze_sh h h1
  rw [h1] at hS
  have hc := h.c0
  have hf := h.fz 0
  clear h h1
  go_enter Tryd.func16, Tryd.ntmps16
  go_wp2_with (first | (go_at_call 21; refine hS.mono ?_; clear hS; rintro e w1 ⟨rfl, h9⟩; subst h9))
  go_ret
  exact ⟨rfl, HF.out⟩
set_option maxRecDepth 20000 in
theorem Freeze_no {w : World} {B : Nat} {s : Sh} {T : Nat} {v : Value} (h : ShAt w B s T v) (h1 : s.st ≠ 1) : Calls Tryd.prog 16 #[.pointer (some ⟨B, 0, none⟩)] w fun e W' => e = .returned (.int .i64 7) ∧ W' = w := by
  have hS := Status_any h
  have hne : (s.st != 1) = true := by simpa using h1
  clear h h1
  go_enter Tryd.func16, Tryd.ntmps16
  go_wp2_with (first | (go_at_call 21; refine hS.mono ?_; clear hS; rintro e w1 ⟨rfl, h9⟩; subst h9))
  go_ret
  exact ⟨rfl, rfl⟩
set_option maxRecDepth 20000 in
set_option maxHeartbeats 1000000 in
theorem sDo_old {w : World} {B : Nat} {s : Sh} {T : Nat} {v : Value} (hs : ShAt w B s T v) (h1 : s.st = 1) (n : Nat) (number kind : Int) (k vl o : List UInt8) (h : okN n number = true) (hn : number < (s.c n).1) : Calls Tryd.prog 20 #[.pointer (some ⟨B, 0, none⟩), .int .i64 n, .int .i64 number, opV kind k vl o] w fun e W' => e = .returned (ansV 0 [] false 6) ∧ Below w.heap.size w W' := by
  have hB := W2_below w kind k vl o
  have HB : Hid (Below w.heap.size w (W2 w kind k vl o)) := hB
  have hS := Status_any (hs.on hB)
  have w1 := within_any n 0 7 (W2 w kind k vl o)
  have w2 := within_any number 1 1099511627776 (W2 w kind k vl o)
  rw [okN, Bool.and_eq_true] at h
  rw [h.1] at w1
  rw [h.2] at w2
  rw [h1] at hS
  have hn8 : n < 8 := by have := inR_t h.1; omega
  obtain ⟨c0, c1, c2⟩ := hs.cc hn8
  have hlt := hs.lt
  have hi0 : (0 : Int) ≤ (n : Int) := by omega
  have hi1 : (n : Int) < 8 := by omega
  clear h hs hB h1
  go_enter Tryd.func20, Tryd.ntmps20
  go_wp2_with (first
    | (go_at_call 26; refine w1.mono ?_; clear w1; rintro e w1 ⟨rfl, h9⟩; subst h9)
    | (go_at_call 26; refine w2.mono ?_; clear w2; rintro e w1 ⟨rfl, h9⟩; subst h9)
    | (go_at_call 21; refine hS.mono ?_; clear hS; rintro e w1 ⟨rfl, h9⟩; subst h9))
  exact bodyPost_ret (v := ansV 0 [] false 6) (by simp [results, Tryd.f20, go_sem, bs]) rfl ⟨rfl, HB.out⟩
end
section
open Go.RowKit
attribute [local go_sem ↓] Go.wp_at_zero Go.wp_at_succ

set_option maxRecDepth 20000 in
set_option maxHeartbeats 1000000 in
theorem sDo_same {w : World} {B : Nat} {s : Sh} {T : Nat} {v : Value} (hs : ShAt w B s T v) (h1 : s.st = 1) (n : Nat) (number kind : Int) (k vl o : List UInt8) (h : okN n number = true) (hn : number = (s.c n).1) : Calls Tryd.prog 20 #[.pointer (some ⟨B, 0, none⟩), .int .i64 n, .int .i64 number, opV kind k vl o] w fun e W' => e = .returned (ansV (s.c n).2.1 (s.c n).2.2 false 0) ∧ Below w.heap.size w W' := by
  have hB := W2_below w kind k vl o
  have HB : Hid (Below w.heap.size w ((w.alloc (.cells #[.int .i64 kind, .string (bs k), .string (bs vl), .string (bs o)] 42)).alloc (.cells #[.int .i64 (s.c n).2.1, .string (bs (s.c n).2.2)] 47))) := ((Below.refl _ _).alloc (Nat.le_refl _) _).alloc (by simp) _
  have hS := Status_any (hs.on hB)
  have w1 := within_any n 0 7 (W2 w kind k vl o)
  have w2 := within_any number 1 1099511627776 (W2 w kind k vl o)
  rw [okN, Bool.and_eq_true] at h
  rw [h.1] at w1
  rw [h.2] at w2
  rw [h1] at hS
  have hn8 : n < 8 := by have := inR_t h.1; omega
  obtain ⟨c0, c1, c2⟩ := hs.cc hn8
  have hlt := hs.lt
  have hi0 : (0 : Int) ≤ (n : Int) := by omega
  have hi1 : (n : Int) < 8 := by omega
  rw [← hn] at c0
  obtain ⟨E, hE⟩ : ∃ E, (s.c n).2.1 = E := ⟨_, rfl⟩
  obtain ⟨V, hV⟩ : ∃ V, (s.c n).2.2 = V := ⟨_, rfl⟩
  rw [hE] at c1 HB ⊢
  rw [hV] at c2 HB ⊢
  clear h hs hB h1 hn hE hV
  have hq : (number == number) = true := by simp
  have hl : ¬ number < number := by omega
  go_enter Tryd.func20, Tryd.ntmps20
  go_wp2_with (first
    | (go_at_call 26; refine w1.mono ?_; clear w1; rintro e w1 ⟨rfl, h9⟩; subst h9)
    | (go_at_call 26; refine w2.mono ?_; clear w2; rintro e w1 ⟨rfl, h9⟩; subst h9)
    | (go_at_call 21; refine hS.mono ?_; clear hS; rintro e w1 ⟨rfl, h9⟩; subst h9))
  exact bodyPost_ret (v := ansV E V false 0) (by simp [results, Tryd.f20, go_sem, bs]) rfl ⟨rfl, HB.out⟩
end
end Go.Proofs.YtgmobjdjojffgaaDoor
