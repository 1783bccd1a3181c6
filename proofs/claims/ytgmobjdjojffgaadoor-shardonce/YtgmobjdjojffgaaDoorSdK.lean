/- Contents: what was done of a client last, read; walked. -/
import Derived.Test.YtgmobjdjojffgaaDoorSdJ
namespace Go.Proofs.YtgmobjdjojffgaaDoor
section
open Go.RowKit
attribute [local go_sem ↓] Go.wp_at_zero Go.wp_at_succ

theorem three_read {W : World} {Q : Nat} {ob : Array Value} {t : TypeId} (hq : W.heap[Q]? = some (.cells ob t)) (ho : ob.size = 3) (a b c : Value) : (W.setCells Q 0 [a, b, c]).cell? ⟨Q, 0, none⟩ = some a ∧ (W.setCells Q 0 [a, b, c]).cell? ⟨Q, 1, none⟩ = some b ∧ (W.setCells Q 0 [a, b, c]).cell? ⟨Q, 2, none⟩ = some c := by
  have hr := World.rangeAt_setCells_same W Q 0 [a, b, c] (fun j hj => by
    have hj' : j < ob.size := by rw [ho]; simpa using hj
    rw [Nat.zero_add]
    refine ⟨?_, frozenB hq j⟩
    rw [cellB hq j _ (Array.getElem?_eq_getElem hj')]
    rfl)
  exact ⟨hr 0 a rfl, hr 1 b rfl, hr 2 c rfl⟩
theorem below_sets {n : Nat} {w W : World} (h : Below n w W) {Q : Nat} (hQ : n ≤ Q) (o : Nat) (vs : List Value) : Below n w (W.setCells Q o vs) := by
  obtain ⟨a, b, c, d⟩ := setCells_more Q vs o W
  exact ⟨b.trans h.os, c.trans h.tape, d.trans h.output, by rw [a]; exact h.size, fun k hk => (setCells_heap Q vs o W k (by omega)).trans (h.block k hk)⟩
def fitA (a : List UInt8) : Bool := decide (tnE a = 0) && inR (tnV a) 0 7
def fitB (b : List UInt8) : Bool := decide (tnE b = 0) && inR (tnV b) 1 1099511627776
def fitC (c d : List UInt8) : Bool := decide (tnE c = 0) && inR (tnV c) 0 999 && decide (d.length ≤ 64)
def lastV (a b c d : List UInt8) : Value := if fitA a && fitB b && fitC c d then .tuple #[.int .i64 (tnV a), .agg #[.int .i64 (tnV b), .int .i64 (tnV c), .string (bs d)], .int .i64 0] else .tuple #[.int .i64 0, .agg #[.int .i64 0, .int .i64 0, .string ⟨#[]⟩], .int .i64 4]
abbrev WL (w : World) : World := w.alloc (.cells #[.int .i64 0, .int .i64 0, .string ⟨#[]⟩] 66)
set_option maxRecDepth 20000 in
set_option maxHeartbeats 2000000 in
theorem loadLast_a {w : World} (he : Env w) {g q m cap : Nat} (hg : g < w.heap.size) (a : List UInt8) (c0 : w.cell? ⟨g, q, none⟩ = some (.string (bs a))) (la : a.length ≤ 281474976710656) (hA : fitA a = false) :
    Calls Tryd.prog 44 #[.slice (some ⟨g, q, none⟩) (m + 4) cap] w fun e W' => e = .returned (.tuple #[.int .i64 0, .agg #[.int .i64 0, .int .i64 0, .string ⟨#[]⟩], .int .i64 4]) ∧ Below w.heap.size w W' := by
  have hb1 : Below w.heap.size w (WL w) := (Below.refl _ _).alloc (Nat.le_refl _) _
  have hT := ToNum_any (bs a) (WL w) (by rw [bs_size]; exact la) (he.next hb1)
  rw [bs_list] at hT
  have HQ : Hid (∀ W, Below (WL w).heap.size (WL w) W → W.heap[w.heap.size]? = some (.cells #[.int .i64 0, .int .i64 0, .string ⟨#[]⟩] 66) ∧ Below w.heap.size w (W.setCells w.heap.size 0 [.int .i64 0, .int .i64 0, .string ⟨#[]⟩])) := fun W hb => ⟨(hb.block _ (by simp)).trans (heap_alloc_new w _), below_sets (hb1.trans (hb.mono hb1.size)) (Nat.le_refl _) _ _⟩
  have HW : Hid (∀ W, Calls Tryd.prog 26 #[.int .i64 (tnV a), .int .i64 0, .int .i64 7] W fun e W' => e = .returned (.bool (inR (tnV a) 0 7)) ∧ W' = W) := fun W => within_any _ _ _ W
  have hi : (0 : Int) < (m + 4 : Nat) := by omega
  have hi2 : 0 < m + 4 := by omega
  rw [fitA] at hA
  obtain ⟨E, hE⟩ : ∃ E, tnE a = E := ⟨_, rfl⟩
  obtain ⟨V, hV⟩ : ∃ V, tnV a = V := ⟨_, rfl⟩
  rw [hE, hV] at hT hA
  rw [hV] at HW
  clear hE hV he hb1 la
  by_cases h0 : E = 0
  · subst h0
    have hR : inR V 0 7 = false := by simpa using hA
    rw [hR] at HW
    clear hA hR
    go_enter Tryd.func44, Tryd.ntmps44
    go_wp2_with (first
      | (go_at_call 25; refine hT.mono ?_; clear hT; rintro e w1 ⟨rfl, hb⟩; obtain ⟨hq, hB⟩ := HQ.out _ hb; have q0 := cellB hq 0 _ rfl; have q1 := cellB hq 1 _ rfl; have q2 := cellB hq 2 _ rfl; have z0 := frozenB hq 0; have z1 := frozenB hq 1; have z2 := frozenB hq 2; have HR : Hid (_) := three_read hq rfl (.int .i64 0) (.int .i64 0) (.string ⟨#[]⟩); have HB : Hid (_) := hB; clear hb hB hq)
      | (go_at_call 26; refine (HW.out _).mono ?_; rintro e w2 ⟨rfl, h9⟩; subst h9))
    obtain ⟨r0, r1, r2⟩ := HR.out
    simp only [World.setCells] at r0 r1 r2
    exact bodyPost_ret (v := .tuple #[.int .i64 0, .agg #[.int .i64 0, .int .i64 0, .string ⟨#[]⟩], .int .i64 4]) (by simp [results, Tryd.f44, go_sem, r0, r1, r2]) rfl ⟨rfl, HB.out⟩
  · have hne : (E != 0) = true := by simpa using h0
    clear hA h0
    go_enter Tryd.func44, Tryd.ntmps44
    go_wp2_with (first
      | (go_at_call 25; refine hT.mono ?_; clear hT; rintro e w1 ⟨rfl, hb⟩; obtain ⟨hq, hB⟩ := HQ.out _ hb; have q0 := cellB hq 0 _ rfl; have q1 := cellB hq 1 _ rfl; have q2 := cellB hq 2 _ rfl; have z0 := frozenB hq 0; have z1 := frozenB hq 1; have z2 := frozenB hq 2; have HR : Hid (_) := three_read hq rfl (.int .i64 0) (.int .i64 0) (.string ⟨#[]⟩); have HB : Hid (_) := hB; clear hb hB hq)
      | (go_at_call 26; refine (HW.out _).mono ?_; rintro e w2 ⟨rfl, h9⟩; subst h9))
    obtain ⟨r0, r1, r2⟩ := HR.out
    simp only [World.setCells] at r0 r1 r2
    exact bodyPost_ret (v := .tuple #[.int .i64 0, .agg #[.int .i64 0, .int .i64 0, .string ⟨#[]⟩], .int .i64 4]) (by simp [results, Tryd.f44, go_sem, r0, r1, r2]) rfl ⟨rfl, HB.out⟩
end
section
open Go.RowKit
attribute [local go_sem ↓] Go.wp_at_zero Go.wp_at_succ

/-- Four texts of a row of texts, as they lie. -/
structure Four (w : World) (g q : Nat) (a b c d : List UInt8) : Prop where
  lt : g < w.heap.size
  c0 : w.cell? ⟨g, q, none⟩ = some (.string (bs a))
  c1 : w.cell? ⟨g, q + 1, none⟩ = some (.string (bs b))
  c2 : w.cell? ⟨g, q + 2, none⟩ = some (.string (bs c))
  c3 : w.cell? ⟨g, q + 3, none⟩ = some (.string (bs d))
theorem Four.on {w W : World} {g q : Nat} {a b c d : List UInt8} (h : Four w g q a b c d) (hb : Below w.heap.size w W) : Four W g q a b c d :=
  ⟨Nat.lt_of_lt_of_le h.lt hb.size, (hb.cell (p := ⟨g, q, none⟩) h.lt).trans h.c0, (hb.cell (p := ⟨g, q + 1, none⟩) h.lt).trans h.c1, (hb.cell (p := ⟨g, q + 2, none⟩) h.lt).trans h.c2, (hb.cell (p := ⟨g, q + 3, none⟩) h.lt).trans h.c3⟩
set_option maxRecDepth 20000 in
set_option maxHeartbeats 1000000 in
theorem loadLast_b {w : World} (he : Env w) {g q m cap : Nat} {a b c d : List UInt8} (hF : Four w g q a b c d) (la : a.length ≤ 281474976710656) (lb : b.length ≤ 281474976710656) (hA : fitA a = true) (hB : fitB b = false) :
    Calls Tryd.prog 44 #[.slice (some ⟨g, q, none⟩) (m + 4) cap] w fun e W' => e = .returned (.tuple #[.int .i64 0, .agg #[.int .i64 0, .int .i64 0, .string ⟨#[]⟩], .int .i64 4]) ∧ Below w.heap.size w W' := by
  have hb1 : Below w.heap.size w (WL w) := (Below.refl _ _).alloc (Nat.le_refl _) _
  have hT := ToNum_any (bs a) (WL w) (by rw [bs_size]; exact la) (he.next hb1)
  rw [bs_list] at hT
  have HT : Hid (∀ W, Below (WL w).heap.size (WL w) W → Calls Tryd.prog 25 #[.string (bs b)] W fun e W' => e = .returned (.tuple #[.int .i64 (tnV b), .int .i64 (tnE b)]) ∧ Below W.heap.size W W') := fun W hb => by
    have := ToNum_any (bs b) W (by rw [bs_size]; exact lb) ((he.next hb1).next hb)
    rw [bs_list] at this
    exact this
  have HQ : Hid (∀ W, Below (WL w).heap.size (WL w) W → W.heap[w.heap.size]? = some (.cells #[.int .i64 0, .int .i64 0, .string ⟨#[]⟩] 66) ∧ Below w.heap.size w (W.setCells w.heap.size 0 [.int .i64 0, .int .i64 0, .string ⟨#[]⟩]) ∧ Four W g q a b c d) := fun W hb => ⟨(hb.block _ (by simp)).trans (heap_alloc_new w _), below_sets (hb1.trans (hb.mono hb1.size)) (Nat.le_refl _) _ _, (hF.on hb1).on hb⟩
  have HWA : Hid (∀ W, Calls Tryd.prog 26 #[.int .i64 (tnV a), .int .i64 0, .int .i64 7] W fun e W' => e = .returned (.bool (inR (tnV a) 0 7)) ∧ W' = W) := fun W => within_any _ _ _ W
  have HWB : Hid (∀ W, Calls Tryd.prog 26 #[.int .i64 (tnV b), .int .i64 1, .int .i64 1099511627776] W fun e W' => e = .returned (.bool (inR (tnV b) 1 1099511627776)) ∧ W' = W) := fun W => within_any _ _ _ W
  have hi : (0 : Int) < (m + 4 : Nat) := by omega
  have hi1 : (1 : Int) < (m + 4 : Nat) := by omega
  have hi2 : 0 < m + 4 := by omega
  have hi3 : 1 < m + 4 := by omega
  have hg := hF.lt
  have c0 := hF.c0
  rw [fitA, Bool.and_eq_true, decide_eq_true_iff] at hA
  rw [fitB] at hB
  rw [hA.1] at hT
  rw [hA.2] at HWA
  obtain ⟨E, hE⟩ : ∃ E, tnE b = E := ⟨_, rfl⟩
  obtain ⟨V, hV⟩ : ∃ V, tnV b = V := ⟨_, rfl⟩
  obtain ⟨U, hU⟩ : ∃ V, tnV a = V := ⟨_, rfl⟩
  rw [hE, hV] at HT hB
  rw [hV] at HWB
  rw [hU] at HWA hT
  clear hE hV hU he hb1 la lb hA hF
  have hcase : (E = 0 ∧ inR V 1 1099511627776 = false) ∨ (E != 0) = true := by
    by_cases h0 : E = 0
    · exact .inl ⟨h0, by simpa [h0] using hB⟩
    · exact .inr (by simpa using h0)
  clear hB
  rcases hcase with ⟨rfl, hR⟩ | hne
  · rw [hR] at HWB
    clear hR
    go_enter Tryd.func44, Tryd.ntmps44
    go_wp2_with (first
      | (go_at_call 25; refine hT.mono ?_; clear hT; rintro e w1 ⟨rfl, hb⟩; have hf := (HQ.out _ hb).2.2; have hg1 := hf.lt; have c1 := hf.c1; have ht := HT.out _ hb; clear hf HT)
      | (go_at_call 25; refine ht.mono ?_; clear ht; rintro e w3 ⟨rfl, hb2⟩; obtain ⟨hq, hB, _⟩ := HQ.out _ (hb.trans (hb2.mono hb.size)); have q0 := cellB hq 0 _ rfl; have q1 := cellB hq 1 _ rfl; have q2 := cellB hq 2 _ rfl; have z0 := frozenB hq 0; have z1 := frozenB hq 1; have z2 := frozenB hq 2; have HR : Hid (_) := three_read hq rfl (.int .i64 0) (.int .i64 0) (.string ⟨#[]⟩); have HB : Hid (_) := hB; clear hB hq)
      | (go_at_call 26; refine (HWA.out _).mono ?_; clear HWA; rintro e w2 ⟨rfl, h9⟩; subst h9)
      | (go_at_call 26; refine (HWB.out _).mono ?_; rintro e w2 ⟨rfl, h9⟩; subst h9))
    obtain ⟨r0, r1, r2⟩ := HR.out
    simp only [World.setCells] at r0 r1 r2
    exact bodyPost_ret (v := .tuple #[.int .i64 0, .agg #[.int .i64 0, .int .i64 0, .string ⟨#[]⟩], .int .i64 4]) (by simp [results, Tryd.f44, go_sem, r0, r1, r2]) rfl ⟨rfl, HB.out⟩
  · go_enter Tryd.func44, Tryd.ntmps44
    go_wp2_with (first
      | (go_at_call 25; refine hT.mono ?_; clear hT; rintro e w1 ⟨rfl, hb⟩; have hf := (HQ.out _ hb).2.2; have hg1 := hf.lt; have c1 := hf.c1; have ht := HT.out _ hb; clear hf HT)
      | (go_at_call 25; refine ht.mono ?_; clear ht; rintro e w3 ⟨rfl, hb2⟩; obtain ⟨hq, hB, _⟩ := HQ.out _ (hb.trans (hb2.mono hb.size)); have q0 := cellB hq 0 _ rfl; have q1 := cellB hq 1 _ rfl; have q2 := cellB hq 2 _ rfl; have z0 := frozenB hq 0; have z1 := frozenB hq 1; have z2 := frozenB hq 2; have HR : Hid (_) := three_read hq rfl (.int .i64 0) (.int .i64 0) (.string ⟨#[]⟩); have HB : Hid (_) := hB; clear hB hq)
      | (go_at_call 26; refine (HWA.out _).mono ?_; clear HWA; rintro e w2 ⟨rfl, h9⟩; subst h9)
      | (go_at_call 26; refine (HWB.out _).mono ?_; rintro e w2 ⟨rfl, h9⟩; subst h9))
    obtain ⟨r0, r1, r2⟩ := HR.out
    simp only [World.setCells] at r0 r1 r2
    exact bodyPost_ret (v := .tuple #[.int .i64 0, .agg #[.int .i64 0, .int .i64 0, .string ⟨#[]⟩], .int .i64 4]) (by simp [results, Tryd.f44, go_sem, r0, r1, r2]) rfl ⟨rfl, HB.out⟩
end
section
open Go.RowKit
attribute [local go_sem ↓] Go.wp_at_zero Go.wp_at_succ

set_option maxRecDepth 20000 in
set_option maxHeartbeats 1000000 in
theorem loadLast_c {w : World} (he : Env w) {g q m cap : Nat} {a b c d : List UInt8} (hF : Four w g q a b c d) (la : a.length ≤ 281474976710656) (lb : b.length ≤ 281474976710656) (lc : c.length ≤ 281474976710656) (hA : fitA a = true) (hB : fitB b = true) (hC : fitC c d = false) :
    Calls Tryd.prog 44 #[.slice (some ⟨g, q, none⟩) (m + 4) cap] w fun e W' => e = .returned (.tuple #[.int .i64 0, .agg #[.int .i64 0, .int .i64 0, .string ⟨#[]⟩], .int .i64 4]) ∧ Below w.heap.size w W' := by
  have hb1 : Below w.heap.size w (WL w) := (Below.refl _ _).alloc (Nat.le_refl _) _
  have hT := ToNum_any (bs a) (WL w) (by rw [bs_size]; exact la) (he.next hb1)
  rw [bs_list] at hT
  have HT : Hid (∀ W, Below (WL w).heap.size (WL w) W → Calls Tryd.prog 25 #[.string (bs b)] W fun e W' => e = .returned (.tuple #[.int .i64 (tnV b), .int .i64 (tnE b)]) ∧ Below W.heap.size W W') := fun W hb => by
    have := ToNum_any (bs b) W (by rw [bs_size]; exact lb) ((he.next hb1).next hb)
    rw [bs_list] at this
    exact this
  have HT3 : Hid (∀ W, Below (WL w).heap.size (WL w) W → Calls Tryd.prog 25 #[.string (bs c)] W fun e W' => e = .returned (.tuple #[.int .i64 (tnV c), .int .i64 (tnE c)]) ∧ Below W.heap.size W W') := fun W hb => by
    have := ToNum_any (bs c) W (by rw [bs_size]; exact lc) ((he.next hb1).next hb)
    rw [bs_list] at this
    exact this
  have HQ : Hid (∀ W, Below (WL w).heap.size (WL w) W → W.heap[w.heap.size]? = some (.cells #[.int .i64 0, .int .i64 0, .string ⟨#[]⟩] 66) ∧ Below w.heap.size w (W.setCells w.heap.size 0 [.int .i64 0, .int .i64 0, .string ⟨#[]⟩]) ∧ Four W g q a b c d) := fun W hb => ⟨(hb.block _ (by simp)).trans (heap_alloc_new w _), below_sets (hb1.trans (hb.mono hb1.size)) (Nat.le_refl _) _ _, (hF.on hb1).on hb⟩
  have HWA : Hid (∀ W, Calls Tryd.prog 26 #[.int .i64 (tnV a), .int .i64 0, .int .i64 7] W fun e W' => e = .returned (.bool (inR (tnV a) 0 7)) ∧ W' = W) := fun W => within_any _ _ _ W
  have HWB : Hid (∀ W, Calls Tryd.prog 26 #[.int .i64 (tnV b), .int .i64 1, .int .i64 1099511627776] W fun e W' => e = .returned (.bool (inR (tnV b) 1 1099511627776)) ∧ W' = W) := fun W => within_any _ _ _ W
  have HWC : Hid (∀ W, Calls Tryd.prog 26 #[.int .i64 (tnV c), .int .i64 0, .int .i64 999] W fun e W' => e = .returned (.bool (inR (tnV c) 0 999)) ∧ W' = W) := fun W => within_any _ _ _ W
  have hi : (0 : Int) < (m + 4 : Nat) := by omega
  have hi1 : (1 : Int) < (m + 4 : Nat) := by omega
  have hi2 : 0 < m + 4 := by omega
  have hi3 : 1 < m + 4 := by omega
  have hi4 : (2 : Int) < (m + 4 : Nat) := by omega
  have hi5 : 2 < m + 4 := by omega
  have hi6 : (3 : Int) < (m + 4 : Nat) := by omega
  have hi7 : 3 < m + 4 := by omega
  have hds : (bs d).size = d.length := bs_size d
  have hg := hF.lt
  have c0 := hF.c0
  rw [fitA, Bool.and_eq_true, decide_eq_true_iff] at hA
  rw [fitB, Bool.and_eq_true, decide_eq_true_iff] at hB
  rw [fitC] at hC
  rw [hA.1] at hT
  rw [hA.2] at HWA
  rw [hB.1] at HT
  rw [hB.2] at HWB
  obtain ⟨E, hE⟩ : ∃ E, tnE c = E := ⟨_, rfl⟩
  obtain ⟨V, hV⟩ : ∃ V, tnV c = V := ⟨_, rfl⟩
  obtain ⟨U, hU⟩ : ∃ V, tnV a = V := ⟨_, rfl⟩
  obtain ⟨X, hX⟩ : ∃ V, tnV b = V := ⟨_, rfl⟩
  rw [hE, hV] at HT3 hC
  rw [hV] at HWC
  rw [hX] at HWB HT
  rw [hU] at HWA hT
  clear hE hV hU hX he hb1 la lb lc hA hB hF
  have hcase : (E = 0 ∧ inR V 0 999 = true ∧ ¬ ((d.length : Int) ≤ 64)) ∨ (E = 0 ∧ inR V 0 999 = false) ∨ (E != 0) = true := by
    by_cases h0 : E = 0
    · cases hR : inR V 0 999
      · exact .inr (.inl ⟨h0, rfl⟩)
      · refine .inl ⟨h0, rfl, ?_⟩
        rw [h0, hR] at hC
        simp at hC
        omega
    · exact .inr (.inr (by simpa using h0))
  clear hC
  rcases hcase with ⟨rfl, hR, hl⟩ | ⟨rfl, hR⟩ | hne
  · rw [hR] at HWC
    have hl2 : (64 : Int) < (d.length : Int) := by omega
    clear hR hl
    go_enter Tryd.func44, Tryd.ntmps44
    go_wp2_with (first
      | (go_at_call 25; refine hT.mono ?_; clear hT; rintro e w1 ⟨rfl, hb⟩; have hf := (HQ.out _ hb).2.2; have hg1 := hf.lt; have c1 := hf.c1; have ht := HT.out _ hb; clear hf HT)
      | (go_at_call 25; refine ht.mono ?_; clear ht; rintro e w3 ⟨rfl, hb2⟩; have hb3 := hb.trans (hb2.mono hb.size); have hf := (HQ.out _ hb3).2.2; have hg2 := hf.lt; have c2 := hf.c2; have ht3 := HT3.out _ hb3; clear hf HT3)
      | (go_at_call 25; refine ht3.mono ?_; clear ht3; rintro e w4 ⟨rfl, hb4⟩; obtain ⟨hq, hB, hf⟩ := HQ.out _ (hb3.trans (hb4.mono hb3.size)); have hg3 := hf.lt; have c3 := hf.c3; have q0 := cellB hq 0 _ rfl; have q1 := cellB hq 1 _ rfl; have q2 := cellB hq 2 _ rfl; have z0 := frozenB hq 0; have z1 := frozenB hq 1; have z2 := frozenB hq 2; have HR : Hid (_) := three_read hq rfl (.int .i64 0) (.int .i64 0) (.string ⟨#[]⟩); have HB : Hid (_) := hB; clear hB hq hf)
      | (go_at_call 26; refine (HWA.out _).mono ?_; clear HWA; rintro e w2 ⟨rfl, h9⟩; subst h9)
      | (go_at_call 26; refine (HWB.out _).mono ?_; clear HWB; rintro e w2 ⟨rfl, h9⟩; subst h9)
      | (go_at_call 26; refine (HWC.out _).mono ?_; clear HWC; rintro e w2 ⟨rfl, h9⟩; subst h9))
    obtain ⟨r0, r1, r2⟩ := HR.out
    simp only [World.setCells] at r0 r1 r2
    exact bodyPost_ret (v := .tuple #[.int .i64 0, .agg #[.int .i64 0, .int .i64 0, .string ⟨#[]⟩], .int .i64 4]) (by simp [results, Tryd.f44, go_sem, r0, r1, r2]) rfl ⟨rfl, HB.out⟩
  · rw [hR] at HWC
    clear hR
    go_enter Tryd.func44, Tryd.ntmps44
    go_wp2_with (first
      | (go_at_call 25; refine hT.mono ?_; clear hT; rintro e w1 ⟨rfl, hb⟩; have hf := (HQ.out _ hb).2.2; have hg1 := hf.lt; have c1 := hf.c1; have ht := HT.out _ hb; clear hf HT)
      | (go_at_call 25; refine ht.mono ?_; clear ht; rintro e w3 ⟨rfl, hb2⟩; have hb3 := hb.trans (hb2.mono hb.size); have hf := (HQ.out _ hb3).2.2; have hg2 := hf.lt; have c2 := hf.c2; have ht3 := HT3.out _ hb3; clear hf HT3)
      | (go_at_call 25; refine ht3.mono ?_; clear ht3; rintro e w4 ⟨rfl, hb4⟩; obtain ⟨hq, hB, hf⟩ := HQ.out _ (hb3.trans (hb4.mono hb3.size)); have hg3 := hf.lt; have c3 := hf.c3; have q0 := cellB hq 0 _ rfl; have q1 := cellB hq 1 _ rfl; have q2 := cellB hq 2 _ rfl; have z0 := frozenB hq 0; have z1 := frozenB hq 1; have z2 := frozenB hq 2; have HR : Hid (_) := three_read hq rfl (.int .i64 0) (.int .i64 0) (.string ⟨#[]⟩); have HB : Hid (_) := hB; clear hB hq hf)
      | (go_at_call 26; refine (HWA.out _).mono ?_; clear HWA; rintro e w2 ⟨rfl, h9⟩; subst h9)
      | (go_at_call 26; refine (HWB.out _).mono ?_; clear HWB; rintro e w2 ⟨rfl, h9⟩; subst h9)
      | (go_at_call 26; refine (HWC.out _).mono ?_; clear HWC; rintro e w2 ⟨rfl, h9⟩; subst h9))
    obtain ⟨r0, r1, r2⟩ := HR.out
    simp only [World.setCells] at r0 r1 r2
    exact bodyPost_ret (v := .tuple #[.int .i64 0, .agg #[.int .i64 0, .int .i64 0, .string ⟨#[]⟩], .int .i64 4]) (by simp [results, Tryd.f44, go_sem, r0, r1, r2]) rfl ⟨rfl, HB.out⟩
  · skip
    go_enter Tryd.func44, Tryd.ntmps44
    go_wp2_with (first
      | (go_at_call 25; refine hT.mono ?_; clear hT; rintro e w1 ⟨rfl, hb⟩; have hf := (HQ.out _ hb).2.2; have hg1 := hf.lt; have c1 := hf.c1; have ht := HT.out _ hb; clear hf HT)
      | (go_at_call 25; refine ht.mono ?_; clear ht; rintro e w3 ⟨rfl, hb2⟩; have hb3 := hb.trans (hb2.mono hb.size); have hf := (HQ.out _ hb3).2.2; have hg2 := hf.lt; have c2 := hf.c2; have ht3 := HT3.out _ hb3; clear hf HT3)
      | (go_at_call 25; refine ht3.mono ?_; clear ht3; rintro e w4 ⟨rfl, hb4⟩; obtain ⟨hq, hB, hf⟩ := HQ.out _ (hb3.trans (hb4.mono hb3.size)); have hg3 := hf.lt; have c3 := hf.c3; have q0 := cellB hq 0 _ rfl; have q1 := cellB hq 1 _ rfl; have q2 := cellB hq 2 _ rfl; have z0 := frozenB hq 0; have z1 := frozenB hq 1; have z2 := frozenB hq 2; have HR : Hid (_) := three_read hq rfl (.int .i64 0) (.int .i64 0) (.string ⟨#[]⟩); have HB : Hid (_) := hB; clear hB hq hf)
      | (go_at_call 26; refine (HWA.out _).mono ?_; clear HWA; rintro e w2 ⟨rfl, h9⟩; subst h9)
      | (go_at_call 26; refine (HWB.out _).mono ?_; clear HWB; rintro e w2 ⟨rfl, h9⟩; subst h9)
      | (go_at_call 26; refine (HWC.out _).mono ?_; clear HWC; rintro e w2 ⟨rfl, h9⟩; subst h9))
    obtain ⟨r0, r1, r2⟩ := HR.out
    simp only [World.setCells] at r0 r1 r2
    exact bodyPost_ret (v := .tuple #[.int .i64 0, .agg #[.int .i64 0, .int .i64 0, .string ⟨#[]⟩], .int .i64 4]) (by simp [results, Tryd.f44, go_sem, r0, r1, r2]) rfl ⟨rfl, HB.out⟩
end
section
open Go.RowKit
attribute [local go_sem ↓] Go.wp_at_zero Go.wp_at_succ

set_option maxRecDepth 20000 in
set_option maxHeartbeats 1000000 in
theorem loadLast_ok {w : World} (he : Env w) {g q m cap : Nat} {a b c d : List UInt8} (hF : Four w g q a b c d) (la : a.length ≤ 281474976710656) (lb : b.length ≤ 281474976710656) (lc : c.length ≤ 281474976710656) (hA : fitA a = true) (hB : fitB b = true) (hC : fitC c d = true) :
    Calls Tryd.prog 44 #[.slice (some ⟨g, q, none⟩) (m + 4) cap] w fun e W' => e = .returned (.tuple #[.int .i64 (tnV a), .agg #[.int .i64 (tnV b), .int .i64 (tnV c), .string (bs d)], .int .i64 0]) ∧ Below w.heap.size w W' := by
  have hb1 : Below w.heap.size w (WL w) := (Below.refl _ _).alloc (Nat.le_refl _) _
  have hT := ToNum_any (bs a) (WL w) (by rw [bs_size]; exact la) (he.next hb1)
  rw [bs_list] at hT
  have HT : Hid (∀ W, Below (WL w).heap.size (WL w) W → Calls Tryd.prog 25 #[.string (bs b)] W fun e W' => e = .returned (.tuple #[.int .i64 (tnV b), .int .i64 (tnE b)]) ∧ Below W.heap.size W W') := fun W hb => by
    have := ToNum_any (bs b) W (by rw [bs_size]; exact lb) ((he.next hb1).next hb)
    rw [bs_list] at this
    exact this
  have HT3 : Hid (∀ W, Below (WL w).heap.size (WL w) W → Calls Tryd.prog 25 #[.string (bs c)] W fun e W' => e = .returned (.tuple #[.int .i64 (tnV c), .int .i64 (tnE c)]) ∧ Below W.heap.size W W') := fun W hb => by
    have := ToNum_any (bs c) W (by rw [bs_size]; exact lc) ((he.next hb1).next hb)
    rw [bs_list] at this
    exact this
  have HQ : Hid (∀ W, Below (WL w).heap.size (WL w) W → W.heap[w.heap.size]? = some (.cells #[.int .i64 0, .int .i64 0, .string ⟨#[]⟩] 66) ∧ Below w.heap.size w (W.setCells w.heap.size 0 [.int .i64 (tnV b), .int .i64 (tnV c), .string (bs d)]) ∧ Four W g q a b c d) := fun W hb => ⟨(hb.block _ (by simp)).trans (heap_alloc_new w _), below_sets (hb1.trans (hb.mono hb1.size)) (Nat.le_refl _) _ _, (hF.on hb1).on hb⟩
  have HWA : Hid (∀ W, Calls Tryd.prog 26 #[.int .i64 (tnV a), .int .i64 0, .int .i64 7] W fun e W' => e = .returned (.bool (inR (tnV a) 0 7)) ∧ W' = W) := fun W => within_any _ _ _ W
  have HWB : Hid (∀ W, Calls Tryd.prog 26 #[.int .i64 (tnV b), .int .i64 1, .int .i64 1099511627776] W fun e W' => e = .returned (.bool (inR (tnV b) 1 1099511627776)) ∧ W' = W) := fun W => within_any _ _ _ W
  have HWC : Hid (∀ W, Calls Tryd.prog 26 #[.int .i64 (tnV c), .int .i64 0, .int .i64 999] W fun e W' => e = .returned (.bool (inR (tnV c) 0 999)) ∧ W' = W) := fun W => within_any _ _ _ W
  have hi : (0 : Int) < (m + 4 : Nat) := by omega
  have hi1 : (1 : Int) < (m + 4 : Nat) := by omega
  have hi2 : 0 < m + 4 := by omega
  have hi3 : 1 < m + 4 := by omega
  have hi4 : (2 : Int) < (m + 4 : Nat) := by omega
  have hi5 : 2 < m + 4 := by omega
  have hi6 : (3 : Int) < (m + 4 : Nat) := by omega
  have hi7 : 3 < m + 4 := by omega
  have hds : (bs d).size = d.length := bs_size d
  have hg := hF.lt
  have c0 := hF.c0
  rw [fitA, Bool.and_eq_true, decide_eq_true_iff] at hA
  rw [fitB, Bool.and_eq_true, decide_eq_true_iff] at hB
  rw [fitC] at hC
  rw [hA.1] at hT
  rw [hA.2] at HWA
  rw [hB.1] at HT
  rw [hB.2] at HWB
  obtain ⟨E, hE⟩ : ∃ E, tnE c = E := ⟨_, rfl⟩
  obtain ⟨V, hV⟩ : ∃ V, tnV c = V := ⟨_, rfl⟩
  obtain ⟨U, hU⟩ : ∃ V, tnV a = V := ⟨_, rfl⟩
  obtain ⟨X, hX⟩ : ∃ V, tnV b = V := ⟨_, rfl⟩
  rw [hE, hV] at HT3 hC
  rw [hV, hX] at HQ
  rw [hV, hX, hU]
  rw [hV] at HWC
  rw [hX] at HWB HT
  rw [hU] at HWA hT
  clear hE hV hU hX he hb1 la lb lc hA hB hF
  simp only [Bool.and_eq_true, decide_eq_true_iff] at hC
  obtain ⟨⟨rfl, hR⟩, hl⟩ := hC
  rw [hR] at HWC
  have hl2 : (d.length : Int) ≤ 64 := by omega
  clear hR
  go_enter Tryd.func44, Tryd.ntmps44
  go_upto_region 10 with (first
      | (go_at_call 25; refine hT.mono ?_; clear hT; rintro e w1 ⟨rfl, hb⟩; have hf := (HQ.out _ hb).2.2; have hg1 := hf.lt; have c1 := hf.c1; have ht := HT.out _ hb; clear hf HT)
      | (go_at_call 25; refine ht.mono ?_; clear ht; rintro e w3 ⟨rfl, hb2⟩; have hb3 := hb.trans (hb2.mono hb.size); have hf := (HQ.out _ hb3).2.2; have hg2 := hf.lt; have c2 := hf.c2; have ht3 := HT3.out _ hb3; clear hf HT3)
      | (go_at_call 25; refine ht3.mono ?_; clear ht3; rintro e w4 ⟨rfl, hb4⟩; obtain ⟨hq, hB, hf⟩ := HQ.out _ (hb3.trans (hb4.mono hb3.size)); have hg3 := hf.lt; have c3 := hf.c3; have q0 := cellB hq 0 _ rfl; have q1 := cellB hq 1 _ rfl; have q2 := cellB hq 2 _ rfl; have z0 := frozenB hq 0; have z1 := frozenB hq 1; have z2 := frozenB hq 2; have HR : Hid (_) := three_read hq rfl (.int .i64 X) (.int .i64 V) (.string (bs d)); have HB : Hid (_) := hB; clear hB hq hf)
      | (go_at_call 26; refine (HWA.out _).mono ?_; clear HWA; rintro e w2 ⟨rfl, h9⟩; subst h9)
      | (go_at_call 26; refine (HWB.out _).mono ?_; clear HWB; rintro e w2 ⟨rfl, h9⟩; subst h9)
      | (go_at_call 26; refine (HWC.out _).mono ?_; clear HWC; rintro e w2 ⟨rfl, h9⟩; subst h9))
  go_region
  all_goals
    go_wp2
    obtain ⟨r0, r1, r2⟩ := HR.out
    simp only [World.setCells] at r0 r1 r2
    exact bodyPost_ret (v := .tuple #[.int .i64 U, .agg #[.int .i64 X, .int .i64 V, .string (bs d)], .int .i64 0]) (by simp [results, Tryd.f44, go_sem, r0, r1, r2]) rfl ⟨rfl, below_drew HB.out⟩
theorem loadLast_any {w : World} (he : Env w) {g q m cap : Nat} {a b c d : List UInt8} (hF : Four w g q a b c d) (la : a.length ≤ 281474976710656) (lb : b.length ≤ 281474976710656) (lc : c.length ≤ 281474976710656) :
    Calls Tryd.prog 44 #[.slice (some ⟨g, q, none⟩) (m + 4) cap] w fun e W' => e = .returned (lastV a b c d) ∧ Below w.heap.size w W' := by
  unfold lastV
  cases hA : fitA a
  · exact loadLast_a he hF.lt a hF.c0 la hA
  · cases hB : fitB b
    · exact loadLast_b he hF la lb hA hB
    · cases hC : fitC c d
      · exact loadLast_c he hF la lb lc hA hB hC
      · exact loadLast_ok he hF la lb lc hA hB hC
end
end Go.Proofs.YtgmobjdjojffgaaDoor
