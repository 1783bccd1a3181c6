/- The document's contents: Fill, walked. -/
import Derived.Test.YtgmobjdjojffgaaDoorSdS
import Derived.Test.YtgmobjdjojffgaaDoorTcD
namespace Go.Proofs.YtgmobjdjojffgaaDoor
open Go.RowKit
attribute [local go_sem ↓] Go.wp_at_zero Go.wp_at_succ

/-- What the document knows of a client. -/
abbrev Le := Nat × La
def lcs (E : List Le) : List Value := E.flatMap fun x => [.int .i64 x.1, .int .i64 x.2.1, .int .i64 x.2.2.1, .string (bs x.2.2.2)]
theorem lcs_append (a b : List Le) : lcs (a ++ b) = lcs a ++ lcs b := by simp [lcs]
def ofE (E : List Le) (i : Nat) : La := ((E.find? fun x => x.1 == i).map (·.2)).getD la0
theorem ofE_nil (i : Nat) : ofE [] i = la0 := rfl
theorem ofE_snoc {E : List Le} {z : Nat} {x : La} (h : ∀ y ∈ E, y.1 ≠ z) (i : Nat) : ofE (E ++ [(z, x)]) i = updC (ofE E) z x i := by
  unfold ofE updC
  rw [List.find?_append]
  by_cases e : i = z
  · subst e
    rw [if_pos rfl, List.find?_eq_none.2 (fun y hy => by simpa using h y hy)]
    simp
  · rw [if_neg e]
    have : ([(z, x)] : List Le).find? (fun y => y.1 == i) = none := by simp; omega
    rw [this]
    simp
/-- What Fill gives. -/
def rFillPost (w : World) (x : Option (List Rw × (Nat → La))) (e : Ending) (W' : World) : Prop :=
  match x with
  | none => e = .returned (.tuple #[.agg #[.int .i64 0, .slice none 0 0, .slice none 0 0], .bool false]) ∧ Below w.heap.size w W'
  | some (l, c) => ∃ (a : Option Addr) (ca : Nat) (a' : Option Addr) (ca' : Nat) (E : List Le), e = .returned (.tuple #[.agg #[.int .i64 0, .slice a l.length ca, .slice a' E.length ca'], .bool true]) ∧ W'.ownsRow w.heap.size 120 2 (.slice a l.length ca) l.length (rcs l) ∧ W'.ownsRow w.heap.size 89 4 (.slice a' E.length ca') E.length (lcs E) ∧ (∀ i, ofE E i = c i) ∧ E.length ≤ 8 ∧ Below w.heap.size w W'
theorem rfill_none {w W' : World} {Y : Option (Nat → La)} {l : List Rw} (h : Y = none) (hb : Below w.heap.size w W') : rFillPost w (Y.map fun c => (l, c)) (.returned (.tuple #[.agg #[.int .i64 0, .slice none 0 0, .slice none 0 0], .bool false])) W' := by
  subst h
  exact ⟨rfl, hb⟩
abbrev WF (w : World) : World := w.alloc (.cells #[.int .i64 0, .slice none 0 0, .slice none 0 0] 32)
theorem Tryd.info89L : (Tryd.prog.info? 89).map (fun i => (i.zero, i.size, i.bytes)) = some (some (.agg #[.int .i64 0, .int .i64 0, .int .i64 0, .string ⟨#[]⟩]), 4, 40) := by kernel_rfl
/-- The result's block. -/
theorem fill_res {w W : World} (hb : Below (WF w).heap.size (WF w) W) : W.heap[w.heap.size]? = some (.cells #[.int .i64 0, .slice none 0 0, .slice none 0 0] 32) ∧ Below w.heap.size w W ∧ w.heap.size < W.heap.size := by
  have hb1 : Below w.heap.size w (WF w) := (Below.refl _ _).alloc (Nat.le_refl _) _
  exact ⟨(hb.block _ (by simp)).trans (heap_alloc_new w _), hb1.trans (hb.mono hb1.size), by have := hb.size; simp at this; omega⟩
set_option maxRecDepth 20000 in
set_option maxHeartbeats 1000000 in
theorem rFill_bad1 (s : List UInt8) (w : World) (hs : s.length ≤ 1000000) (hbad : ¬ (good s ∧ (texts s).length % 4 = 1)) :
    Calls Tryd.prog 23 #[.string (bs s)] w fun e W' => e = .returned (.tuple #[.agg #[.int .i64 0, .slice none 0 0, .slice none 0 0], .bool false]) ∧ Below w.heap.size w W' := by
  have hU := rUnpack_any s (WF w) (by omega)
  have hcase : errOf s = 4 ∨ (errOf s = 0 ∧ (((texts s).length : Int) % 4 != 1) = true) := by
    by_cases hg : good s
    · refine .inr ⟨if_pos hg, ?_⟩
      have : ¬ (texts s).length % 4 = 1 := fun h => hbad ⟨hg, h⟩
      simp
      omega
    · exact .inl (if_neg hg)
  have HR : Hid (∀ W, Below (WF w).heap.size (WF w) W → W.heap[w.heap.size]? = some (.cells #[.int .i64 0, .slice none 0 0, .slice none 0 0] 32) ∧ Below w.heap.size w (W.setCells w.heap.size 0 [.int .i64 0, .slice none 0 0, .slice none 0 0])) := fun W hb => ⟨(fill_res hb).1, below_sets (fill_res hb).2.1 (Nat.le_refl _) _ _⟩
  obtain ⟨L, hL⟩ : ∃ L, texts s = L := ⟨_, rfl⟩
  rw [hL] at hU hcase
  obtain ⟨E, hE⟩ : ∃ E, errOf s = E := ⟨_, rfl⟩
  rw [hE] at hU hcase
  clear hE hL hbad hs
  rcases hcase with rfl | ⟨rfl, hm⟩
  all_goals
    go_enter Tryd.func23, Tryd.ntmps23
    go_wp2_with (first
      | (go_at_call 29; refine hU.mono ?_; clear hU; rintro e w1 ⟨v, rfl, hown, hb1⟩; obtain ⟨va, vc, rfl⟩ := owns_slice hown; obtain ⟨hq, hB⟩ := HR.out _ hb1; have q0 := cellB hq 0 _ rfl; have q1 := cellB hq 1 _ rfl; have q2 := cellB hq 2 _ rfl; have z0 := frozenB hq 0; have z1 := frozenB hq 1; have z2 := frozenB hq 2; have HT : Hid (_) := three_read hq rfl (.int .i64 0) (.slice none 0 0) (.slice none 0 0); have HB : Hid (_) := hB; clear hB hq))
    obtain ⟨r0, r1, r2⟩ := HT.out
    simp only [World.setCells] at r0 r1 r2
    exact bodyPost_ret (v := .tuple #[.agg #[.int .i64 0, .slice none 0 0, .slice none 0 0], .bool false]) (by simp [results, Tryd.f23, go_sem, r0, r1, r2]) rfl ⟨rfl, HB.out⟩
set_option maxRecDepth 20000 in
set_option maxHeartbeats 1000000 in
theorem rFill_bad2 (s : List UInt8) (w : World) (hs : s.length ≤ 1000000) (hg : good s) (hm4 : (texts s).length % 4 = 1) (hn : loadR ((texts s).headD []) = none) :
    Calls Tryd.prog 23 #[.string (bs s)] w fun e W' => e = .returned (.tuple #[.agg #[.int .i64 0, .slice none 0 0, .slice none 0 0], .bool false]) ∧ Below w.heap.size w W' := by
  have hU := rUnpack_any s (WF w) (by omega)
  rw [show errOf s = 0 from if_pos hg] at hU
  have HR : Hid (∀ W, Below (WF w).heap.size (WF w) W → W.heap[w.heap.size]? = some (.cells #[.int .i64 0, .slice none 0 0, .slice none 0 0] 32) ∧ w.heap.size < W.heap.size ∧ Below w.heap.size w (W.setCells w.heap.size 0 [.int .i64 0, .slice none 0 0, .slice none 0 0])) := fun W hb => ⟨(fill_res hb).1, (fill_res hb).2.2, below_sets (fill_res hb).2.1 (Nat.le_refl _) _ _⟩
  obtain ⟨a, r, hL⟩ : ∃ a r, texts s = a :: r := by
    cases e : texts s with
    | nil => rw [e] at hm4; simp at hm4
    | cons a r => exact ⟨a, r, rfl⟩
  have ha : a.length ≤ 1000000 := Nat.le_trans (text_small (by rw [hL]; exact List.mem_cons_self ..)) hs
  have HT : Hid (∀ W, Calls Tryd.prog 40 #[.string (bs a)] W fun e W' => e = .returned (.tuple #[.agg #[.slice none 0 0], .int .i64 4]) ∧ Below W.heap.size W W') := fun W => by
    have := rLoad_any a W ha
    rw [hL] at hn
    rw [show loadR a = none from hn] at this
    exact this
  have hm : (((texts s).length : Int) % 4 != 1) = false := by simp; omega
  have h0 : (texts s)[0]? = some a := by rw [hL]; rfl
  have hp : (0 : Int) < ((texts s).length : Int) := by rw [hL]; simp
  have hp2 : 0 < (texts s).length := by rw [hL]; simp
  clear hL hn hm4
  obtain ⟨L, hL⟩ : ∃ L, texts s = L := ⟨_, rfl⟩
  rw [hL] at hU hm h0 hp hp2
  clear hs hL hg
  go_enter Tryd.func23, Tryd.ntmps23
  go_wp2_with (first
    | (go_at_call 29; refine hU.mono ?_; clear hU; rintro e w1 ⟨v, rfl, hown, hb1⟩; obtain ⟨va, vc, rfl⟩ := owns_slice hown; obtain ⟨b, o, rfl, hb0, hcc⟩ := (Sl.of_owns hown).at2 h0; have c0 := hcc 0 _ h0; rw [Nat.add_zero] at c0; have ht := HT.out w1; clear hown hcc HT)
    | (go_at_call 40; refine ht.mono ?_; clear ht; rintro e w2 ⟨rfl, hb2⟩; obtain ⟨hq, hlt, hB⟩ := HR.out _ (hb1.trans (hb2.mono hb1.size)); have q0 := cellB hq 0 _ rfl; have q1 := cellB hq 1 _ rfl; have q2 := cellB hq 2 _ rfl; have z0 := frozenB hq 0; have z1 := frozenB hq 1; have z2 := frozenB hq 2; have HT3 : Hid (_) := three_read hq rfl (.int .i64 0) (.slice none 0 0) (.slice none 0 0); have HB : Hid (_) := hB; clear hB hq))
  obtain ⟨r0, r1, r2⟩ := HT3.out
  simp only [World.setCells] at r0 r1 r2
  exact bodyPost_ret (v := .tuple #[.agg #[.int .i64 0, .slice none 0 0, .slice none 0 0], .bool false]) (by simp [results, Tryd.f23, go_sem, r0, r1, r2, hlt]) rfl ⟨rfl, HB.out.alloc HB.out.size _⟩
end Go.Proofs.YtgmobjdjojffgaaDoor
