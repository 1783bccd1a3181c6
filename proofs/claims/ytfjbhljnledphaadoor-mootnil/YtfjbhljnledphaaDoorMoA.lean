/- A moot in memory: its chain, the commands that it took, its clients; what stays; New, isAsker, walked. -/
import Derived.Test.YtfjbhljnledphaaDoorCeD
namespace Go.Proofs.YtfjbhljnledphaaDoor
open Go.RowKit
attribute [local go_sem ↓] Go.wp_at_zero Go.wp_at_succ

/-- What is known of a client: its number, its answer. -/
abbrev Kn := Nat × Int
def kcs (cl : List Kn) : List Value := cl.flatMap fun x => [.int .i64 (x.1 : Int), .int .i64 x.2]
def mcs (B : Nat) (u : Value) (cl : List Kn) : List Value := .pointer (some ⟨B, 0, none⟩) :: u :: kcs cl
def zK : List Kn := [(0, 0), (0, 0), (0, 0), (0, 0), (0, 0), (0, 0), (0, 0), (0, 0)]
theorem kcs_len : ∀ cl : List Kn, (kcs cl).length = cl.length * 2
  | [] => rfl
  | x :: l => by
    show ([Value.int .i64 (x.1 : Int), .int .i64 x.2] ++ kcs l).length = (l.length + 1) * 2
    rw [List.length_append, kcs_len l]; simp; omega
theorem kcs_at : ∀ (cl : List Kn) (i : Nat) (x : Kn), cl[i]? = some x → (kcs cl)[i * 2]? = some (.int .i64 (x.1 : Int)) ∧ (kcs cl)[i * 2 + 1]? = some (.int .i64 x.2)
  | [], _, _, h => by cases h
  | y :: l, 0, x, h => by
    have : y = x := by simpa using h
    subst this
    exact ⟨rfl, rfl⟩
  | y :: l, i + 1, x, h => by
    have h' := kcs_at l i x (by simpa using h)
    show (Value.int .i64 (y.1 : Int) :: Value.int .i64 y.2 :: kcs l)[(i + 1) * 2]? = _ ∧ (Value.int .i64 (y.1 : Int) :: Value.int .i64 y.2 :: kcs l)[(i + 1) * 2 + 1]? = _
    rw [show (i + 1) * 2 = i * 2 + 1 + 1 by omega, show i * 2 + 1 + 1 + 1 = (i * 2 + 1) + 1 + 1 by omega]
    exact h'
theorem kcs_set : ∀ (cl : List Kn) (i : Nat) (x : Kn) (j : Nat), i < cl.length → (kcs (cl.set i x))[j]? = if j = i * 2 then some (.int .i64 (x.1 : Int)) else if j = i * 2 + 1 then some (.int .i64 x.2) else (kcs cl)[j]?
  | [], _, _, _, h => by cases h
  | y :: l, 0, x, j, _ => by
    show (Value.int .i64 (x.1 : Int) :: Value.int .i64 x.2 :: kcs l)[j]? = if j = 0 * 2 then _ else if j = 0 * 2 + 1 then _ else (Value.int .i64 (y.1 : Int) :: Value.int .i64 y.2 :: kcs l)[j]?
    match j with
    | 0 => rfl
    | 1 => rfl
    | j + 2 => simp
  | y :: l, i + 1, x, j, h => by
    show (Value.int .i64 (y.1 : Int) :: Value.int .i64 y.2 :: kcs (l.set i x))[j]? = if j = (i + 1) * 2 then _ else if j = (i + 1) * 2 + 1 then _ else (Value.int .i64 (y.1 : Int) :: Value.int .i64 y.2 :: kcs l)[j]?
    match j with
    | 0 => rw [if_neg (by omega), if_neg (by omega)]; rfl
    | 1 => rw [if_neg (by omega), if_neg (by omega)]; rfl
    | j + 2 =>
      have := kcs_set l i x j (by simpa using h)
      rw [List.getElem?_cons_succ, List.getElem?_cons_succ, this, List.getElem?_cons_succ, List.getElem?_cons_succ]
      by_cases h1 : j = i * 2
      · rw [if_pos h1, if_pos (show j + 2 = (i + 1) * 2 by omega)]
      · rw [if_neg h1, if_neg (show ¬ (j + 2 = (i + 1) * 2) by omega)]
        by_cases h2 : j = i * 2 + 1
        · rw [if_pos h2, if_pos (show j + 2 = (i + 1) * 2 + 1 by omega)]
        · rw [if_neg h2, if_neg (show ¬ (j + 2 = (i + 1) * 2 + 1) by omega)]
theorem mcs_len (B : Nat) (u : Value) (cl : List Kn) (h : cl.length = 8) : (mcs B u cl).length = 18 := by
  show (kcs cl).length + 1 + 1 = 18
  rw [kcs_len, h]
theorem mcs_at (B : Nat) (u : Value) (cl : List Kn) (i : Nat) (x : Kn) (h : cl[i]? = some x) : (mcs B u cl).toArray[2 + i * 2]? = some (.int .i64 (x.1 : Int)) ∧ (mcs B u cl).toArray[2 + i * 2 + 1]? = some (.int .i64 x.2) := by
  have := kcs_at cl i x h
  rw [List.getElem?_toArray, List.getElem?_toArray]
  rw [show 2 + i * 2 = i * 2 + 1 + 1 by omega, show i * 2 + 1 + 1 + 1 = (i * 2 + 1) + 1 + 1 by omega]
  exact this
/-- A moot in memory. -/
structure MtAt (base : Nat) (w : World) (M B : Nat) (v u : Value) (L : List Rc) (T : List C3) (cl : List Kn) : Prop where
  blk : w.heap[M]? = some (.cells (mcs B u cl).toArray 50)
  len : cl.length = 8
  ch : ChAt base w B v L
  row : w.ownsRow base 23 3 u T.length (ccs T)
  low : base ≤ M
  nB : M ≠ B
  nv : v.ownBlock ≠ some M
  nu : u.ownBlock ≠ some M
  nr : ∀ (i : Nat) r, L[i]? = some r → r.1.ownBlock ≠ some M
  ap : ∀ k, u.ownBlock = some k → k ≠ B ∧ v.ownBlock ≠ some k ∧ ∀ (i : Nat) r, L[i]? = some r → r.1.ownBlock ≠ some k
  run : cls L = runC [] T
  tl : T.length = L.length
theorem MtAt.lt {base : Nat} {w : World} {M B : Nat} {v u : Value} {L : List Rc} {T : List C3} {cl : List Kn} (h : MtAt base w M B v u L T cl) : M < w.heap.size := (Array.getElem?_eq_some_iff.1 h.blk).1
theorem MtAt.forty {base : Nat} {w : World} {M B : Nat} {v u : Value} {L : List Rc} {T : List C3} {cl : List Kn} (h : MtAt base w M B v u L T cl) : L.length ≤ 40 := by
  have := runC_len T [] (by simp)
  rw [← h.run, cls_len] at this
  exact this
/-- A moot's own blocks. -/
def MOwn (M B : Nat) (v u : Value) (L : List Rc) (k : Nat) : Prop := k = M ∨ k = B ∨ v.ownBlock = some k ∨ u.ownBlock = some k ∨ ∃ (i : Nat) (r : Rc), L[i]? = some r ∧ r.1.ownBlock = some k
theorem MtAt.own_lt {base : Nat} {w : World} {M B : Nat} {v u : Value} {L : List Rc} {T : List C3} {cl : List Kn} (h : MtAt base w M B v u L T cl) {k : Nat} (hk : MOwn M B v u L k) : base ≤ k ∧ k < w.heap.size := by
  rcases hk with rfl | rfl | hk | hk | ⟨i, r, hr, hk⟩
  · exact ⟨h.low, h.lt⟩
  · exact ⟨h.ch.low, h.ch.lt⟩
  · exact h.ch.own.lt k hk
  · exact h.row.lt k hk
  · obtain ⟨a, b, _⟩ := (h.ch.ok i r hr).2.2.2 k hk; exact ⟨a, b⟩
/-- Where the moot's own blocks stay as they are. -/
theorem MtAt.kept {base : Nat} {w w' : World} {M B : Nat} {v u : Value} {L : List Rc} {T : List C3} {cl : List Kn} (h : MtAt base w M B v u L T cl) (hs : w.heap.size ≤ w'.heap.size) (hk : ∀ k, MOwn M B v u L k → w'.heap[k]? = w.heap[k]?) : MtAt base w' M B v u L T cl :=
  ⟨(hk M (.inl rfl)).trans h.blk, h.len, h.ch.kept hs (hk B (.inr (.inl rfl))) (fun k e => hk k (.inr (.inr (.inl e)))) (fun i r hr k e => hk k (.inr (.inr (.inr (.inr ⟨i, r, hr, e⟩))))), owns_kept h.row (fun k e => hk k (.inr (.inr (.inr (.inl e))))), h.low, h.nB, h.nv, h.nu, h.nr, h.ap, h.run, h.tl⟩
theorem MtAt.next {base : Nat} {w w' : World} {M B : Nat} {v u : Value} {L : List Rc} {T : List C3} {cl : List Kn} (h : MtAt base w M B v u L T cl) (hb : Below w.heap.size w w') : MtAt base w' M B v u L T cl :=
  h.kept hb.size (fun k hk => hb.block k (h.own_lt hk).2)
/-- A client's number and answer are laid. -/
theorem MtAt.put {base : Nat} {w : World} {M B : Nat} {v u : Value} {L : List Rc} {T : List C3} {cl : List Kn} (h : MtAt base w M B v u L T cl) (c : Nat) (hc : c < 8) (n : Nat) (E : Int) :
    MtAt base (w.setCells M (2 + c * 2) [.int .i64 (n : Int), .int .i64 E]) M B v u L T (cl.set c (n, E)) := by
  have hf : ∀ k, k ≠ M → (w.setCells M (2 + c * 2) [.int .i64 (n : Int), .int .i64 E]).heap[k]? = w.heap[k]? := fun k hk => blk_far hk _ _ _
  refine ⟨?_, by rw [List.length_set]; exact h.len, h.ch.kept (by rw [blk_size]; exact Nat.le_refl _) (hf B (Ne.symm h.nB)) (fun k hk => hf k (fun e => h.nv (e ▸ hk))) (fun i r hr k hk => hf k (fun e => h.nr i r hr (e ▸ hk))), owns_kept h.row (fun k hk => hf k (fun e => h.nu (e ▸ hk))), h.low, h.nB, h.nv, h.nu, h.nr, h.ap, h.run, h.tl⟩
  obtain ⟨ds, h1, h2, h3⟩ := blk_cells [.int .i64 (n : Int), .int .i64 E] (2 + c * 2) w _ h.blk
  rw [h1]
  congr 2
  apply Array.ext_getElem?
  intro j
  have hsz : (mcs B u cl).toArray.size = 18 := by rw [List.size_toArray]; exact mcs_len B u cl h.len
  rw [h3, hsz, List.getElem?_toArray, List.getElem?_toArray]
  match j with
  | 0 => rw [if_neg (by omega)]; rfl
  | 1 => rw [if_neg (by omega)]; rfl
  | j + 2 =>
    show _ = (kcs (cl.set c (n, E)))[j]?
    rw [kcs_set cl c (n, E) j (by rw [h.len]; exact hc)]
    by_cases e1 : j = c * 2
    · rw [if_pos e1, if_pos (by simp; omega), show j + 2 - (2 + c * 2) = 0 by omega]; rfl
    · rw [if_neg e1]
      by_cases e2 : j = c * 2 + 1
      · rw [if_pos e2, if_pos (by simp; omega), show j + 2 - (2 + c * 2) = 1 by omega]; rfl
      · rw [if_neg e2, if_neg (by simp; omega)]; rfl
/-- What a moot's call leaves as it is, and what is new. -/
structure MK (M B : Nat) (v u : Value) (L : List Rc) (v' u' : Value) (L' : List Rc) (w W' : World) : Prop where
  os : W'.os = w.os
  tape : W'.tape = w.tape
  output : W'.output = w.output
  size : w.heap.size ≤ W'.heap.size
  block : ∀ k, k < w.heap.size → ¬ MOwn M B v u L k → W'.heap[k]? = w.heap[k]?
  new : ∀ k, MOwn M B v' u' L' k → MOwn M B v u L k ∨ w.heap.size ≤ k
theorem MK.of_below {M B : Nat} {v u : Value} {L : List Rc} {w W' : World} (h : Below w.heap.size w W') : MK M B v u L v u L w W' := ⟨h.os, h.tape, h.output, h.size, fun k hk _ => h.block k hk, fun _ hk => .inl hk⟩
theorem MK.below {M B : Nat} {v u v' u' : Value} {L L' : List Rc} {T : List C3} {cl : List Kn} {base : Nat} {w0 w W' : World} (h : MK M B v u L v' u' L' w W') (hm : MtAt base w M B v u L T cl) (hb : Below base w0 w) : Below base w0 W' :=
  ⟨h.os.trans hb.os, h.tape.trans hb.tape, h.output.trans hb.output, Nat.le_trans hb.size h.size, fun k hk => by
    by_cases hlt : k < w.heap.size
    · exact (h.block k hlt (fun ho => by have := (hm.own_lt ho).1; omega)).trans (hb.block k hk)
    · have := hm.low; have := hm.lt; omega⟩
theorem mwithin_any (n a b : Int) (w : World) : Calls Tryd.prog 16 #[.int .i64 n, .int .i64 a, .int .i64 b] w fun e W' => e = .returned (.bool (wi n a b)) ∧ W' = w := by
  by_cases h1 : a ≤ n
  · by_cases h2 : n ≤ b
    · rw [show wi n a b = true by simp [wi, h1, h2]]
      go_enter Tryd.func16, Tryd.ntmps16
      go_wp2
      go_ret
      exact ⟨rfl, rfl⟩
    · rw [show wi n a b = false by simp [wi, h2]]
      go_enter Tryd.func16, Tryd.ntmps16
      go_wp2
      go_ret
      exact ⟨rfl, rfl⟩
  · rw [show wi n a b = false by simp [wi, h1]]
    go_enter Tryd.func16, Tryd.ntmps16
    go_wp2
    go_ret
    exact ⟨rfl, rfl⟩
/-- Are they a client, and a number of its? -/
def isA (c n : Int) : Bool := wi c 0 7 && wi n 1 1099511627776
theorem isAsker_any (c n : Int) (w : World) : Calls Tryd.prog 9 #[.int .i64 c, .int .i64 n] w fun e W' => e = .returned (.bool (isA c n)) ∧ W' = w := by
  have h1 := fun a b c => mwithin_any a b c w
  cases hc : wi c 0 7 with
  | false =>
    rw [show isA c n = false by simp [isA, hc]]
    go_enter Tryd.func9, Tryd.ntmps9
    go_wp2_with (go_at_call 16; refine (h1 _ _ _).mono ?_; rintro e w1 ⟨rfl, h9⟩; subst w1)
    go_ret
    exact ⟨rfl, rfl⟩
  | true =>
    rw [show isA c n = wi n 1 1099511627776 by simp [isA, hc]]
    go_enter Tryd.func9, Tryd.ntmps9
    go_wp2_with (go_at_call 16; refine (h1 _ _ _).mono ?_; rintro e w1 ⟨rfl, h9⟩; subst w1)
    go_ret
    exact ⟨rfl, rfl⟩
theorem MNew_any (w : World) : Calls Tryd.prog 15 #[] w fun e W' => ∃ M B, e = .returned (.pointer (some ⟨M, 0, none⟩)) ∧ MtAt w.heap.size W' M B (.slice none 0 0) (.slice none 0 0) [] [] zK ∧ Below w.heap.size w W' := by
  have hN := New_any w
  go_enter Tryd.func15, Tryd.ntmps15
  go_wp2_with (go_at_call 24; refine hN.mono ?_; rintro e w1 ⟨rfl, hc, hb⟩; have HC : Hid (_ ∧ _) := ⟨hc, hb⟩; clear hc hb)
  go_ret
  obtain ⟨hc, hb⟩ := HC.out
  have hb1 := (Below.refl w1.heap.size w1).alloc (Nat.le_refl _) (.cells (mcs w.heap.size (.slice none 0 0) zK).toArray 50)
  have hlt := hc.lt
  exact ⟨w1.heap.size, w.heap.size, rfl, ⟨heap_alloc_new _ _, rfl, hc.next hb1, World.ownsRow_nil _ _ _ _, hb.size, by omega, (by intro h; cases h), (by intro h; cases h), (fun i r h => by cases h), (fun k h => by cases h), rfl, rfl⟩, hb.alloc hb.size _⟩
end Go.Proofs.YtfjbhljnledphaaDoor
