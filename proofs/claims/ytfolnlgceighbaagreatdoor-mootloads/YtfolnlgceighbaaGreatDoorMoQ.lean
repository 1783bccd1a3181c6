/- A moot in memory: its chain, the commands that it took, its clients; what stays; New, isAsker, walked. -/
import Derived.Test.YtfolnlgceighbaaGreatDoorCeD
namespace Go.Proofs.YtfolnlgceighbaaGreatDoor
section
open Go.RowKit
attribute [local go_sem ↓] Go.wp_at_zero Go.wp_at_succ

/-- What is known of a client: its number, its answer. -/
abbrev Kn := Nat × Int
def kcs (cl : List Kn) : List Value := cl.flatMap fun x => [.int .i64 (x.1 : Int), .int .i64 x.2]
def mcs (B : Nat) (u : Value) (cl : List Kn) : List Value := .pointer (some ⟨B, 0, none⟩) :: u :: kcs cl
def zK : List Kn := [(0, 0), (0, 0), (0, 0), (0, 0), (0, 0), (0, 0), (0, 0), (0, 0)]
theorem kcs_len : ∀ cl : List Kn, (kcs cl).length = cl.length * 2
  | [] => rfl
  | x :: l => by
    show ([Value.int .i64 (x.1 : Int), .int .i64 x.2] ++ kcs l).length = (l.length + 1) * 2
    rw [List.length_append, kcs_len l]; simp; omega
theorem kcs_at : ∀ (cl : List Kn) (i : Nat) (x : Kn), cl[i]? = some x → (kcs cl)[i * 2]? = some (.int .i64 (x.1 : Int)) ∧ (kcs cl)[i * 2 + 1]? = some (.int .i64 x.2)
  | [], _, _, h => by cases h
  | y :: l, 0, x, h => by
    have : y = x := by simpa using h
    subst this
    exact ⟨rfl, rfl⟩
  | y :: l, i + 1, x, h => by
    have h' := kcs_at l i x (by simpa using h)
    show (Value.int .i64 (y.1 : Int) :: Value.int .i64 y.2 :: kcs l)[(i + 1) * 2]? = _ ∧ (Value.int .i64 (y.1 : Int) :: Value.int .i64 y.2 :: kcs l)[(i + 1) * 2 + 1]? = _
    rw [show (i + 1) * 2 = i * 2 + 1 + 1 by omega, show i * 2 + 1 + 1 + 1 = (i * 2 + 1) + 1 + 1 by omega]
    exact h'
theorem kcs_set : ∀ (cl : List Kn) (i : Nat) (x : Kn) (j : Nat), i < cl.length → (kcs (cl.set i x))[j]? = if j = i * 2 then some (.int .i64 (x.1 : Int)) else if j = i * 2 + 1 then some (.int .i64 x.2) else (kcs cl)[j]?
  | [], _, _, _, h => by cases h
  | y :: l, 0, x, j, _ => by
    show (Value.int .i64 (x.1 : Int) :: Value.int .i64 x.2 :: kcs l)[j]? = if j = 0 * 2 then _ else if j = 0 * 2 + 1 then _ else (Value.int .i64 (y.1 : Int) :: Value.int .i64 y.2 :: kcs l)[j]?
    match j with
    | 0 => rfl
    | 1 => rfl
    | j + 2 => simp
  | y :: l, i + 1, x, j, h => by
    show (Value.int .i64 (y.1 : Int) :: Value.int .i64 y.2 :: kcs (l.set i x))[j]? = if j = (i + 1) * 2 then _ else if j = (i + 1) * 2 + 1 then _ else (Value.int .i64 (y.1 : Int) :: Value.int .i64 y.2 :: kcs l)[j]?
    match j with
    | 0 => rw [if_neg (by omega), if_neg (by omega)]; rfl
    | 1 => rw [if_neg (by omega), if_neg (by omega)]; rfl
    | j + 2 =>
      have := kcs_set l i x j (by simpa using h)
      rw [List.getElem?_cons_succ, List.getElem?_cons_succ, this, List.getElem?_cons_succ, List.getElem?_cons_succ]
      by_cases h1 : j = i * 2
      · rw [if_pos h1, if_pos (show j + 2 = (i + 1) * 2 by omega)]
      · rw [if_neg h1, if_neg (show ¬ (j + 2 = (i + 1) * 2) by omega)]
        by_cases h2 : j = i * 2 + 1
        · rw [if_pos h2, if_pos (show j + 2 = (i + 1) * 2 + 1 by omega)]
        · rw [if_neg h2, if_neg (show ¬ (j + 2 = (i + 1) * 2 + 1) by omega)]
theorem mcs_len (B : Nat) (u : Value) (cl : List Kn) (h : cl.length = 8) : (mcs B u cl).length = 18 := by
  show (kcs cl).length + 1 + 1 = 18
  rw [kcs_len, h]
theorem mcs_at (B : Nat) (u : Value) (cl : List Kn) (i : Nat) (x : Kn) (h : cl[i]? = some x) : (mcs B u cl).toArray[2 + i * 2]? = some (.int .i64 (x.1 : Int)) ∧ (mcs B u cl).toArray[2 + i * 2 + 1]? = some (.int .i64 x.2) := by
  have := kcs_at cl i x h
  rw [List.getElem?_toArray, List.getElem?_toArray]
  rw [show 2 + i * 2 = i * 2 + 1 + 1 by omega, show i * 2 + 1 + 1 + 1 = (i * 2 + 1) + 1 + 1 by omega]
  exact this
/-- A moot in memory. -/
structure MtAt (base : Nat) (w : World) (M B : Nat) (v u : Value) (L : List Rc) (T : List C3) (cl : List Kn) : Prop where
  blk : w.heap[M]? = some (.cells (mcs B u cl).toArray 97)
  len : cl.length = 8
  ch : ChAt base w B v L
  row : w.ownsRow base 59 3 u T.length (ccs T)
  low : base ≤ M
  nB : M ≠ B
  nv : v.ownBlock ≠ some M
  nu : u.ownBlock ≠ some M
  nr : ∀ (i : Nat) r, L[i]? = some r → r.1.ownBlock ≠ some M
  ap : ∀ k, u.ownBlock = some k → k ≠ B ∧ v.ownBlock ≠ some k ∧ ∀ (i : Nat) r, L[i]? = some r → r.1.ownBlock ≠ some k
  run : cls L = runC [] T
  tl : T.length = L.length
theorem MtAt.lt {base : Nat} {w : World} {M B : Nat} {v u : Value} {L : List Rc} {T : List C3} {cl : List Kn} (h : MtAt base w M B v u L T cl) : M < w.heap.size := (Array.getElem?_eq_some_iff.1 h.blk).1
theorem MtAt.forty {base : Nat} {w : World} {M B : Nat} {v u : Value} {L : List Rc} {T : List C3} {cl : List Kn} (h : MtAt base w M B v u L T cl) : L.length ≤ 40 := by
  have := runC_len T [] (by simp)
  rw [← h.run, cls_len] at this
  exact this
/-- A moot's own blocks. -/
def MOwn (M B : Nat) (v u : Value) (L : List Rc) (k : Nat) : Prop := k = M ∨ k = B ∨ v.ownBlock = some k ∨ u.ownBlock = some k ∨ ∃ (i : Nat) (r : Rc), L[i]? = some r ∧ r.1.ownBlock = some k
theorem MtAt.own_lt {base : Nat} {w : World} {M B : Nat} {v u : Value} {L : List Rc} {T : List C3} {cl : List Kn} (h : MtAt base w M B v u L T cl) {k : Nat} (hk : MOwn M B v u L k) : base ≤ k ∧ k < w.heap.size := by
  rcases hk with rfl | rfl | hk | hk | ⟨i, r, hr, hk⟩
  · exact ⟨h.low, h.lt⟩
  · exact ⟨h.ch.low, h.ch.lt⟩
  · exact h.ch.own.lt k hk
  · exact h.row.lt k hk
  · obtain ⟨a, b, _⟩ := (h.ch.ok i r hr).2.2.2 k hk; exact ⟨a, b⟩
/-- Where the moot's own blocks stay as they are. -/
theorem MtAt.kept {base : Nat} {w w' : World} {M B : Nat} {v u : Value} {L : List Rc} {T : List C3} {cl : List Kn} (h : MtAt base w M B v u L T cl) (hs : w.heap.size ≤ w'.heap.size) (hk : ∀ k, MOwn M B v u L k → w'.heap[k]? = w.heap[k]?) : MtAt base w' M B v u L T cl :=
  ⟨(hk M (.inl rfl)).trans h.blk, h.len, h.ch.kept hs (hk B (.inr (.inl rfl))) (fun k e => hk k (.inr (.inr (.inl e)))) (fun i r hr k e => hk k (.inr (.inr (.inr (.inr ⟨i, r, hr, e⟩))))), owns_kept h.row (fun k e => hk k (.inr (.inr (.inr (.inl e))))), h.low, h.nB, h.nv, h.nu, h.nr, h.ap, h.run, h.tl⟩
theorem MtAt.next {base : Nat} {w w' : World} {M B : Nat} {v u : Value} {L : List Rc} {T : List C3} {cl : List Kn} (h : MtAt base w M B v u L T cl) (hb : Below w.heap.size w w') : MtAt base w' M B v u L T cl :=
  h.kept hb.size (fun k hk => hb.block k (h.own_lt hk).2)
/-- A client's number and answer are laid. -/
theorem MtAt.put {base : Nat} {w : World} {M B : Nat} {v u : Value} {L : List Rc} {T : List C3} {cl : List Kn} (h : MtAt base w M B v u L T cl) (c : Nat) (hc : c < 8) (n : Nat) (E : Int) :
    MtAt base (w.setCells M (2 + c * 2) [.int .i64 (n : Int), .int .i64 E]) M B v u L T (cl.set c (n, E)) := by
  have hf : ∀ k, k ≠ M → (w.setCells M (2 + c * 2) [.int .i64 (n : Int), .int .i64 E]).heap[k]? = w.heap[k]? := fun k hk => blk_far hk _ _ _
  refine ⟨?_, by rw [List.length_set]; exact h.len, h.ch.kept (by rw [blk_size]; exact Nat.le_refl _) (hf B (Ne.symm h.nB)) (fun k hk => hf k (fun e => h.nv (e ▸ hk))) (fun i r hr k hk => hf k (fun e => h.nr i r hr (e ▸ hk))), owns_kept h.row (fun k hk => hf k (fun e => h.nu (e ▸ hk))), h.low, h.nB, h.nv, h.nu, h.nr, h.ap, h.run, h.tl⟩
  obtain ⟨ds, h1, h2, h3⟩ := blk_cells [.int .i64 (n : Int), .int .i64 E] (2 + c * 2) w _ h.blk
  rw [h1]
  congr 2
  apply Array.ext_getElem?
  intro j
  have hsz : (mcs B u cl).toArray.size = 18 := by rw [List.size_toArray]; exact mcs_len B u cl h.len
  rw [h3, hsz, List.getElem?_toArray, List.getElem?_toArray]
  match j with
  | 0 => rw [if_neg (by omega)]; rfl
  | 1 => rw [if_neg (by omega)]; rfl
  | j + 2 =>
    show _ = (kcs (cl.set c (n, E)))[j]?
    rw [kcs_set cl c (n, E) j (by rw [h.len]; exact hc)]
    by_cases e1 : j = c * 2
    · rw [if_pos e1, if_pos (by simp; omega), show j + 2 - (2 + c * 2) = 0 by omega]; rfl
    · rw [if_neg e1]
      by_cases e2 : j = c * 2 + 1
      · rw [if_pos e2, if_pos (by simp; omega), show j + 2 - (2 + c * 2) = 1 by omega]; rfl
      · rw [if_neg e2, if_neg (by simp; omega)]; rfl
/-- What a moot's call leaves as it is, and what is new. -/
structure MK (M B : Nat) (v u : Value) (L : List Rc) (v' u' : Value) (L' : List Rc) (w W' : World) : Prop where
  os : W'.os = w.os
  tape : W'.tape = w.tape
  output : W'.output = w.output
  size : w.heap.size ≤ W'.heap.size
  block : ∀ k, k < w.heap.size → ¬ MOwn M B v u L k → W'.heap[k]? = w.heap[k]?
  new : ∀ k, MOwn M B v' u' L' k → MOwn M B v u L k ∨ w.heap.size ≤ k
theorem MK.of_below {M B : Nat} {v u : Value} {L : List Rc} {w W' : World} (h : Below w.heap.size w W') : MK M B v u L v u L w W' := ⟨h.os, h.tape, h.output, h.size, fun k hk _ => h.block k hk, fun _ hk => .inl hk⟩
theorem MK.below {M B : Nat} {v u v' u' : Value} {L L' : List Rc} {T : List C3} {cl : List Kn} {base : Nat} {w0 w W' : World} (h : MK M B v u L v' u' L' w W') (hm : MtAt base w M B v u L T cl) (hb : Below base w0 w) : Below base w0 W' :=
  ⟨h.os.trans hb.os, h.tape.trans hb.tape, h.output.trans hb.output, Nat.le_trans hb.size h.size, fun k hk => by
    by_cases hlt : k < w.heap.size
    · exact (h.block k hlt (fun ho => by have := (hm.own_lt ho).1; omega)).trans (hb.block k hk)
    · have := hm.low; have := hm.lt; omega⟩
theorem mwithin_any (n a b : Int) (w : World) : Calls Tryz.prog 65 #[.int .i64 n, .int .i64 a, .int .i64 b] w fun e W' => e = .returned (.bool (wi n a b)) ∧ W' = w := by
  by_cases h1 : a ≤ n
  · by_cases h2 : n ≤ b
    · rw [show wi n a b = true by simp [wi, h1, h2]]
      go_enter Tryz.func65, Tryz.ntmps65
      go_wp2
      go_ret
      exact ⟨rfl, rfl⟩
    · rw [show wi n a b = false by simp [wi, h2]]
      go_enter Tryz.func65, Tryz.ntmps65
      go_wp2
      go_ret
      exact ⟨rfl, rfl⟩
  · rw [show wi n a b = false by simp [wi, h1]]
    go_enter Tryz.func65, Tryz.ntmps65
    go_wp2
    go_ret
    exact ⟨rfl, rfl⟩
/-- Are they a client, and a number of its? -/
def isA (c n : Int) : Bool := wi c 0 7 && wi n 1 1099511627776
theorem isAsker_any (c n : Int) (w : World) : Calls Tryz.prog 52 #[.int .i64 c, .int .i64 n] w fun e W' => e = .returned (.bool (isA c n)) ∧ W' = w := by
  have h1 := fun a b c => mwithin_any a b c w
  cases hc : wi c 0 7 with
  | false =>
    rw [show isA c n = false by simp [isA, hc]]
    go_enter Tryz.func52, Tryz.ntmps52
    go_wp2_with (go_at_call 65; refine (h1 _ _ _).mono ?_; rintro e w1 ⟨rfl, h9⟩; subst w1)
    go_ret
    exact ⟨rfl, rfl⟩
  | true =>
    rw [show isA c n = wi n 1 1099511627776 by simp [isA, hc]]
    go_enter Tryz.func52, Tryz.ntmps52
    go_wp2_with (go_at_call 65; refine (h1 _ _ _).mono ?_; rintro e w1 ⟨rfl, h9⟩; subst w1)
    go_ret
    exact ⟨rfl, rfl⟩
theorem MNew_any (w : World) : Calls Tryz.prog 23 #[] w fun e W' => ∃ M B, e = .returned (.pointer (some ⟨M, 0, none⟩)) ∧ MtAt w.heap.size W' M B (.slice none 0 0) (.slice none 0 0) [] [] zK ∧ Below w.heap.size w W' := by
  have hN := New_any w
  go_enter Tryz.func23, Tryz.ntmps23
  go_wp2_with (go_at_call 26; refine hN.mono ?_; rintro e w1 ⟨rfl, hc, hb⟩; have HC : Hid (_ ∧ _) := ⟨hc, hb⟩; clear hc hb)
  go_ret
  obtain ⟨hc, hb⟩ := HC.out
  have hb1 := (Below.refl w1.heap.size w1).alloc (Nat.le_refl _) (.cells (mcs w.heap.size (.slice none 0 0) zK).toArray 97)
  have hlt := hc.lt
  exact ⟨w1.heap.size, w.heap.size, rfl, ⟨heap_alloc_new _ _, rfl, hc.next hb1, World.ownsRow_nil _ _ _ _, hb.size, by omega, (by intro h; cases h), (by intro h; cases h), (fun i r h => by cases h), (fun k h => by cases h), rfl, rfl⟩, hb.alloc hb.size _⟩
end
section
open Go.RowKit
attribute [local go_sem ↓] Go.wp_at_zero Go.wp_at_succ

/-- The commands behind take. -/
def tkT (cs : List (List Nat × List Nat)) (T : List C3) (k g s : Int) : List C3 := if doE cs k g s = 0 then T ++ [(k, g, s)] else T
def TkPost (base M B : Nat) (v u : Value) (L : List Rc) (T : List C3) (cl : List Kn) (k g s : Int) (w W' : World) : Prop :=
  ∃ v' u' L' T', T' = tkT (cls L) T k g s ∧ cls L' = doC (cls L) k g s ∧ MtAt base W' M B v' u' L' T' cl ∧ MK M B v u L v' u' L' w W'
/-- What the chain's Do leaves of a moot. -/
def TkMid (base M B : Nat) (v u : Value) (L : List Rc) (T : List C3) (cl : List Kn) (k g s : Int) (w wc : World) : Prop :=
  ∃ v' L', cls L' = doC (cls L) k g s ∧ ChAt base wc B v' L' ∧ wc.heap[M]? = some (.cells (mcs B u cl).toArray 97) ∧ wc.ownsRow base 59 3 u T.length (ccs T) ∧ wc.heap[w.heap.size]? = some (.cells #[.int .i64 k, .int .i64 g, .int .i64 s] 59) ∧
    v'.ownBlock ≠ some M ∧ (∀ (i : Nat) r, L'[i]? = some r → r.1.ownBlock ≠ some M) ∧ (∀ k, u.ownBlock = some k → k ≠ B ∧ v'.ownBlock ≠ some k ∧ ∀ (i : Nat) r, L'[i]? = some r → r.1.ownBlock ≠ some k) ∧ MK M B v u L v' u L' w wc
theorem tk_mid {base M B : Nat} {v u : Value} {L : List Rc} {T : List C3} {cl : List Kn} {k g s : Int} {w W0 wc : World} (h : MtAt base w M B v u L T cl) (hW : w.alloc (.cells #[.int .i64 k, .int .i64 g, .int .i64 s] 59) = W0) (hd : DoPost2 base B v L k g s W0.drew wc) : TkMid base M B v u L T cl k g s w wc := by
  subst hW
  obtain ⟨v', L', h1, h2, h3, h4, h5⟩ := hd
  have hs : (w.alloc (.cells #[.int .i64 k, .int .i64 g, .int .i64 s] 59)).drew.heap.size = w.heap.size + 1 := by simp
  have hb0 : Below w.heap.size w (w.alloc (.cells #[.int .i64 k, .int .i64 g, .int .i64 s] 59)).drew := below_drew ((Below.refl _ w).alloc (Nat.le_refl _) _)
  have hsz := h3.size
  have hkeep : ∀ j, j < w.heap.size → j ≠ B → v.ownBlock ≠ some j → wc.heap[j]? = w.heap[j]? := fun j a b c => (h3.block j (by omega) b c).trans (hb0.block j a)
  refine ⟨v', L', h1, h2, (hkeep M h.lt h.nB h.nv).trans h.blk, owns_kept h.row (fun j hj => hkeep j (h.row.lt j hj).2 (h.ap j hj).1 (h.ap j hj).2.1), (h3.block _ (by omega) (by have := h.ch.lt; omega) (fun e => by have := (h.ch.own.lt _ e).2; omega)).trans (heap_alloc_new _ _), ?_, ?_, ?_, ⟨h3.os.trans hb0.os, h3.tape.trans hb0.tape, h3.output.trans hb0.output, by omega, ?_, ?_⟩⟩
  · intro e
    rcases h4 _ e with e | e
    · exact h.nv e
    · have := h.lt; omega
  · intro i r hr e
    rcases h5 i r hr with hr | hr
    · exact h.nr i r hr e
    · have := hr _ e; have := h.lt; omega
  · intro j hj
    obtain ⟨a1, a2, a3⟩ := h.ap j hj
    have hlt := (h.row.lt j hj).2
    refine ⟨a1, fun e => ?_, fun i r hr e => ?_⟩
    · rcases h4 j e with e | e
      · exact a2 e
      · omega
    · rcases h5 i r hr with hr | hr
      · exact a3 i r hr e
      · have := hr j e; omega
  · intro j hj hn
    exact hkeep j hj (fun e => hn (.inr (.inl e))) (fun e => hn (.inr (.inr (.inl e))))
  · intro j hj
    rcases hj with hj | hj | hj | hj | ⟨i, r, hr, hj⟩
    · exact .inl (.inl hj)
    · exact .inl (.inr (.inl hj))
    · rcases h4 j hj with e | e
      · exact .inl (.inr (.inr (.inl e)))
      · exact .inr (by omega)
    · exact .inl (.inr (.inr (.inr (.inl hj))))
    · rcases h5 i r hr with hr | hr
      · exact .inl (.inr (.inr (.inr (.inr ⟨i, r, hr, hj⟩))))
      · have := hr j hj; exact .inr (by omega)
set_option maxRecDepth 20000 in
set_option maxHeartbeats 1000000 in
theorem take_any (k g s : Int) (base M B : Nat) (v u : Value) (L : List Rc) (T : List C3) (cl : List Kn) (w : World) (h : MtAt base w M B v u L T cl) :
    Calls Tryz.prog 53 #[.pointer (some ⟨M, 0, none⟩), .agg #[.int .i64 k, .int .i64 g, .int .i64 s]] w fun e W' => e = .returned (.int .i64 (doE (cls L) k g s)) ∧ TkPost base M B v u L T cl k g s w W' := by
  have hb0 : Below w.heap.size w (w.alloc (.cells #[.int .i64 k, .int .i64 g, .int .i64 s] 59)) := (Below.refl _ w).alloc (Nat.le_refl _) _
  have r0 := heap_alloc_new w (.cells #[.int .i64 k, .int .i64 g, .int .i64 s] 59)
  have h0 := h.next hb0
  have hT : T.length ≤ 40 := by rw [h.tl]; exact h.forty
  have hDo := fun W (hw : Below (w.alloc (.cells #[.int .i64 k, .int .i64 g, .int .i64 s] 59)).heap.size (w.alloc (.cells #[.int .i64 k, .int .i64 g, .int .i64 s] 59)) W) => Do2_any k g s B base v L W (h0.ch.next hw) (by have := h.forty; omega)
  obtain ⟨W0, hW0⟩ : ∃ W, w.alloc (.cells #[.int .i64 k, .int .i64 g, .int .i64 s] 59) = W := ⟨_, rfl⟩
  rw [hW0] at hb0 r0 h0 hDo
  have HV : Hid (w.alloc (.cells #[.int .i64 k, .int .i64 g, .int .i64 s] 59) = W0) := hW0
  have HM : Hid (MtAt base w M B v u L T cl) := h
  have hS0 : W0.drew.heap[M]? = some (.cells (mcs B u cl).toArray 97) ∧ W0.drew.heap[w.heap.size]? = some (.cells #[.int .i64 k, .int .i64 g, .int .i64 s] 59) := ⟨h0.blk, r0⟩
  obtain ⟨ua, uc, rfl⟩ := owns_slice h.row
  obtain ⟨E, hE⟩ : ∃ E, doE (cls L) k g s = E := ⟨_, rfl⟩
  have HE : Hid (doE (cls L) k g s = E) := hE
  have HT : Hid (T.length ≤ 40) := hT
  rw [hE]
  simp only [hE] at hDo
  have HD := hDo W0.drew (below_drew (Below.refl _ _))
  clear hW0 h h0 r0 hb0 hE hT hDo
  go_enter Tryz.func53, Tryz.ntmps53
  go_upto_region 1 with fail
  rw [HV.out]
  go_cut [5] (fun p5 wx => p5 = .int .i64 E ∧ Hid (TkMid base M B v (.slice ua T.length uc) L T cl k g s w wx))
  case first =>
    refine region_Z 99 (fun w' => w'.heap[M]? = some (.cells (mcs B (.slice ua T.length uc) cl).toArray 97) ∧ w'.heap[w.heap.size]? = some (.cells #[.int .i64 k, .int .i64 g, .int .i64 s] 59)) (by kernel_rfl) ?_
    refine Y_take (i := 0) (v := ?_) rfl (by kernel_rfl) (by kernel_rfl) (by kernel_rfl) (by kernel_rfl) (fun _ _ _ h => h) (by rfl) hS0 ?_ ?_
    rotate_left
    · (intro w' hSw; obtain ⟨e0, e1⟩ := hSw; have f0 := cellB e0 0 _ rfl; have f1 := cellB e1 0 _ rfl; have f2 := cellB e1 1 _ rfl; have f3 := cellB e1 2 _ rfl; go_simp; (try with_reducible rfl))
    simp only [Act.put, List.setIfInBounds_toArray]
    refine Y_take (i := 1) (v := ?_) rfl (by kernel_rfl) (by kernel_rfl) (by kernel_rfl) (by kernel_rfl) (fun _ _ _ h => h) (by rfl) hS0 ?_ ?_
    rotate_left
    · (intro w' hSw; obtain ⟨e0, e1⟩ := hSw; have f0 := cellB e0 0 _ rfl; have f1 := cellB e1 0 _ rfl; have f2 := cellB e1 1 _ rfl; have f3 := cellB e1 2 _ rfl; go_simp; (try with_reducible rfl))
    simp only [Act.put]
    refine Y_take (i := 2) (v := ?_) rfl (by kernel_rfl) (by kernel_rfl) (by kernel_rfl) (by kernel_rfl) (fun _ _ _ h => h) (by rfl) hS0 ?_ ?_
    rotate_left
    · (intro w' hSw; obtain ⟨e0, e1⟩ := hSw; have f0 := cellB e0 0 _ rfl; have f1 := cellB e1 0 _ rfl; have f2 := cellB e1 1 _ rfl; have f3 := cellB e1 2 _ rfl; go_simp; (try with_reducible rfl))
    simp only [Act.put]
    refine Y_take (i := 3) (v := ?_) rfl (by kernel_rfl) (by kernel_rfl) (by kernel_rfl) (by kernel_rfl) (fun _ _ _ h => h) (by rfl) hS0 ?_ ?_
    rotate_left
    · (intro w' hSw; obtain ⟨e0, e1⟩ := hSw; have f0 := cellB e0 0 _ rfl; have f1 := cellB e1 0 _ rfl; have f2 := cellB e1 1 _ rfl; have f3 := cellB e1 2 _ rfl; go_simp; (try with_reducible rfl))
    simp only [Act.put]
    refine Y_take (i := 4) (v := ?_) rfl (by kernel_rfl) (by kernel_rfl) (by kernel_rfl) (by kernel_rfl) (fun _ _ _ h => h) (by rfl) hS0 ?_ ?_
    rotate_left
    · (intro w' hSw; obtain ⟨e0, e1⟩ := hSw; have f0 := cellB e0 0 _ rfl; have f1 := cellB e1 0 _ rfl; have f2 := cellB e1 1 _ rfl; have f3 := cellB e1 2 _ rfl; go_simp; (try with_reducible rfl))
    simp only [Act.put]
    refine Z_step (i := 5) (by kernel_rfl) rfl (fun K hK => ?_)
    go_simp
    refine HD.mono ?_
    rintro e wc ⟨rfl, hd⟩
    have hm := tk_mid HM.out HV.out hd
    have hS1 : wc.heap[M]? = some (.cells (mcs B (.slice ua T.length uc) cl).toArray 97) ∧ wc.heap[w.heap.size]? = some (.cells #[.int .i64 k, .int .i64 g, .int .i64 s] 59) := by
      obtain ⟨v', L', _, _, a, _, b, _⟩ := hm
      exact ⟨a, b⟩
    have HMID : Hid (TkMid base M B v (.slice ua T.length uc) L T cl k g s w wc) := hm
    clear hm hd
    refine hK _ _ (fun _ => hS1) ?_
    clear hK K
    refine Z_step (i := 6) (by kernel_rfl) rfl (fun K hK => ?_)
    go_simp
    refine hK _ _ (fun _ => hS1) (Z_done (by kernel_rfl) ?_ _)
    clear hK K hS1 hS0 HD
    go_wp2_with fail
    go_meet
    exact ⟨rfl, HMID⟩
  case rest =>
    obtain ⟨rfl, HMID⟩ := hcut
    clear HD hS0
    by_cases hE0 : E = 0
    · subst hE0
      go_upto_region 3 with fail
      obtain ⟨v', L', m1, m2, m3, m4, m5, m6, m7, m8, m9⟩ := HMID.out
      obtain ⟨i0, hi, hz0, hz1, hz2⟩ := info_parts (show (Tryz.prog.info? 59).map (fun i => (i.zero, i.size, i.bytes)) = some (some (.agg #[.int .i64 0, .int .i64 0, .int .i64 0]), 3, 24) by kernel_rfl)
      have hMw : M < wc.heap.size := (Array.getElem?_eq_some_iff.1 m3).1
      have hXw : w.heap.size < wc.heap.size := (Array.getElem?_eq_some_iff.1 m5).1
      have hbase : base ≤ wc.heap.size := Nat.le_trans HM.out.low (Nat.le_of_lt hMw)
      have hml : T.length + 1 ≤ maxLen := by have := HT.out; unfold maxLen; omega
      have hkb : (T.length + 1) * 24 ≤ 140737488355328 := by have := HT.out; omega
      have hMu : (Value.slice ua T.length uc).ownBlock ≠ some M := HM.out.nu
      have hXu : some w.heap.size ≠ (Value.slice ua T.length uc).ownBlock := fun e => by have := (HM.out.row.lt _ e.symm).2; omega
      have HX : Hid (_ ∧ _) := ⟨hml, hkb⟩
      clear hml hkb
      refine region_Z 10 (fun w' => w'.cell? ⟨M, 1, none⟩ = some (.slice ua T.length uc) ∧ w'.heap[w.heap.size]? = some (.cells #[.int .i64 k, .int .i64 g, .int .i64 s] 59)) (by kernel_rfl) ?_
      have hS0 : wc.drew.cell? ⟨M, 1, none⟩ = some (.slice ua T.length uc) ∧ wc.drew.heap[w.heap.size]? = some (.cells #[.int .i64 k, .int .i64 g, .int .i64 s] 59) := ⟨cellB (w := wc) m3 1 _ rfl, m5⟩
      refine Z_take (i := 0) (v := ?_) rfl (by kernel_rfl) (by kernel_rfl) (by kernel_rfl) (by kernel_rfl) (fun _ _ _ h => h) (by rfl) hS0 ?_ ?_
      rotate_left
      · (intro w' hSw; obtain ⟨e0, e1⟩ := hSw; have f1 := cellB e1 0 _ rfl; have f2 := cellB e1 1 _ rfl; have f3 := cellB e1 2 _ rfl; go_simp; (try with_reducible rfl))
      simp only [Act.put, List.setIfInBounds_toArray]
      refine Z_take (i := 1) (v := ?_) rfl (by kernel_rfl) (by kernel_rfl) (by kernel_rfl) (by kernel_rfl) (fun _ _ _ h => h) (by rfl) hS0 ?_ ?_
      rotate_left
      · (intro w' hSw; obtain ⟨e0, e1⟩ := hSw; have f1 := cellB e1 0 _ rfl; have f2 := cellB e1 1 _ rfl; have f3 := cellB e1 2 _ rfl; go_simp; (try with_reducible rfl))
      simp only [Act.put]
      refine Z_take (i := 2) (v := ?_) rfl (by kernel_rfl) (by kernel_rfl) (by kernel_rfl) (by kernel_rfl) (fun _ _ _ h => h) (by rfl) hS0 ?_ ?_
      rotate_left
      · (intro w' hSw; obtain ⟨e0, e1⟩ := hSw; have f1 := cellB e1 0 _ rfl; have f2 := cellB e1 1 _ rfl; have f3 := cellB e1 2 _ rfl; go_simp; (try with_reducible rfl))
      simp only [Act.put]
      refine Z_take (i := 3) (v := ?_) rfl (by kernel_rfl) (by kernel_rfl) (by kernel_rfl) (by kernel_rfl) (fun _ _ _ h => h) (by rfl) hS0 ?_ ?_
      rotate_left
      · (intro w' hSw; obtain ⟨e0, e1⟩ := hSw; have f1 := cellB e1 0 _ rfl; have f2 := cellB e1 1 _ rfl; have f3 := cellB e1 2 _ rfl; go_simp; (try with_reducible rfl))
      simp only [Act.put]
      refine Z_take (i := 4) (v := ?_) rfl (by kernel_rfl) (by kernel_rfl) (by kernel_rfl) (by kernel_rfl) (fun _ _ _ h => h) (by rfl) hS0 ?_ ?_
      rotate_left
      · (intro w' hSw; obtain ⟨e0, e1⟩ := hSw; have f1 := cellB e1 0 _ rfl; have f2 := cellB e1 1 _ rfl; have f3 := cellB e1 2 _ rfl; go_simp; (try with_reducible rfl))
      simp only [Act.put]
      refine Z_take (i := 5) (v := ?_) rfl (by kernel_rfl) (by kernel_rfl) (by kernel_rfl) (by kernel_rfl) (fun _ _ _ h => h) (by rfl) hS0 ?_ ?_
      rotate_left
      · (intro w' hSw; obtain ⟨e0, e1⟩ := hSw; have f1 := cellB e1 0 _ rfl; have f2 := cellB e1 1 _ rfl; have f3 := cellB e1 2 _ rfl; go_simp; (try with_reducible rfl))
      simp only [Act.put]
      refine Z_step (i := 6) (by kernel_rfl) rfl (fun K hK => ?_)
      go_simp
      have hbA : Below wc.heap.size wc (wc.alloc (.cells #[.int .i64 k, .int .i64 g, .int .i64 s] 59)).drew := below_drew ((Below.refl _ _).alloc (Nat.le_refl _) _)
      have rMA := (hbA.block M hMw).trans m3
      have rXA := (hbA.block w.heap.size hXw).trans m5
      refine hK _ _ (fun _ => ⟨cellB rMA 1 _ rfl, rXA⟩) ?_
      clear hK K
      have hownA := owns_next m4 hbA
      refine Z_step (i := 7) (by kernel_rfl) rfl (fun K hK => ?_)
      refine step_append_lies _ (by rfl) _ _ 90 (by rfl) base 59 i0 (.agg #[.int .i64 0, .int .i64 0, .int .i64 0]) 3 24 (by kernel_rfl) hi hz0 hz1 hz2 rfl (by decide) _ T.length (ccs T) (by rfl) hownA ⟨wc.heap.size, 0, none⟩ 1 1 [.int .i64 k, .int .i64 g, .int .i64 s] (by rfl) rfl (World.news_of_block (B := wc.heap.size) (heap_alloc_new wc (.cells #[.int .i64 k, .int .i64 g, .int .i64 s] 59))) (by simp [Value.oneCell']) (by decide) HX.out.1 HX.out.2 (Nat.le_trans hbase hbA.size) _ rfl ?_
      intro ga ca w7 hown7 hgrow hat hlt7
      have hsA : (wc.alloc (.cells #[.int .i64 k, .int .i64 g, .int .i64 s] 59)).drew.heap.size = wc.heap.size + 1 := by simp
      have rM7 := (hgrow.block M (Nat.lt_of_lt_of_le hMw hbA.size) (fun e => hMu e.symm)).trans rMA
      have rX7 := (hgrow.block w.heap.size (Nat.lt_of_lt_of_le hXw hbA.size) hXu).trans rXA
      have hS7 : w7.cell? ⟨M, 1, none⟩ = some (.slice ua T.length uc) ∧ w7.heap[w.heap.size]? = some (.cells #[.int .i64 k, .int .i64 g, .int .i64 s] 59) := ⟨cellB rM7 1 _ rfl, rX7⟩
      refine hK _ _ (fun _ => hS7) ?_
      clear hK K
      simp only [Act.put]
      refine Z_step (i := 8) (by kernel_rfl) rfl (fun K hK => ?_)
      go_simp
      refine hK _ _ (fun _ => hS7) ?_
      clear hK K
      refine Z_step (i := 9) (by kernel_rfl) rfl (fun K hK => ?_)
      go_simp
      refine hK _ _ (fun _ => hS7) ?_
      clear hK K
      have t5 := hS7.1
      have ft := frozenB rM7 1
      refine Z_step (i := 10) (by kernel_rfl) rfl (fun K hK => ?_)
      go_simp
      refine hK _ _ (fun h => absurd rfl h) (Z_done (by kernel_rfl) ?_ _)
      clear hK K t5 ft hS7
      have HP : Hid (TkPost base M B v (.slice ua T.length uc) L T cl k g s w (w7.setCell ⟨M, 1, none⟩ (.slice (some ⟨ga, 0, none⟩) (T.length + 1) ca))) := by
        have hM := HM.out
        have hs7 : wc.heap.size ≤ w7.heap.size := Nat.le_trans hbA.size hgrow.size
        have hga : ∀ j, j < wc.heap.size → (Value.slice ua T.length uc).ownBlock ≠ some j → ga ≠ j := fun j hj hv => by
          rintro rfl
          rcases hat with hat | hat
          · exact hv hat
          · have : wc.heap.size + 1 = ga := hsA.symm.trans hat.symm; omega
        have hkeep : ∀ j, j < wc.heap.size → j ≠ M → (Value.slice ua T.length uc).ownBlock ≠ some j → (w7.setCell ⟨M, 1, none⟩ (.slice (some ⟨ga, 0, none⟩) (T.length + 1) ca)).heap[j]? = wc.heap[j]? := fun j h1 h2 h3 => (set_far h2 _ _).trans ((hgrow.block j (Nat.lt_of_lt_of_le h1 hbA.size) h3.symm).trans (hbA.block j h1))
        have hs8 : (w7.setCell ⟨M, 1, none⟩ (.slice (some ⟨ga, 0, none⟩) (T.length + 1) ca)).heap.size = w7.heap.size := by simp [World.setCell]
        have hown : ∀ j, (Value.slice (some ⟨ga, 0, none⟩) (T.length + 1) ca).ownBlock = some j → ga = j := fun j hj => by simpa [Value.ownBlock] using hj
        have hgM : ga ≠ M := hga M hMw hMu
        have hrun : cls L' = runC [] (T ++ [(k, g, s)]) := by rw [runC_snoc, ← hM.run]; exact m1
        have hlen : L'.length = L.length + 1 := by
          rw [← cls_len L', m1]
          unfold doC
          rw [HE.out, if_pos rfl, List.length_append, cls_len]; rfl
        refine ⟨v', .slice (some ⟨ga, 0, none⟩) (T.length + 1) ca, L', T ++ [(k, g, s)], by unfold tkT; rw [HE.out, if_pos rfl], m1, ⟨?_, hM.len, m2.kept (by omega) (hkeep B m2.lt (Ne.symm hM.nB) (fun e => (m8 B e).1 rfl)) (fun j hj => hkeep j (m2.own.lt j hj).2 (fun e => m6 (e ▸ hj)) (fun e => (m8 j e).2.1 hj)) (fun i r hr j hj => hkeep j ((m2.ok i r hr).2.2.2 j hj).2.1 (fun e => m7 i r hr (e ▸ hj)) (fun e => (m8 j e).2.2 i r hr hj)), ?_, hM.low, hM.nB, m6, (fun e => hgM (hown M e)), m7, ?_, hrun, ?_⟩, ⟨hgrow.os.trans (hbA.os.trans m9.os), hgrow.tape.trans (hbA.tape.trans m9.tape), hgrow.output.trans (hbA.output.trans m9.output), by have := m9.size; omega, ?_, ?_⟩⟩
        · have := setB rM7 1 (Value.slice (some ⟨ga, 0, none⟩) (T.length + 1) ca)
          exact this
        · rw [List.length_append, ccs_snoc]
          exact owns_kept hown7 (fun j hj => set_far (by have := hown j hj; omega) _ _)
        · intro j hj
          have := hown j hj
          subst this
          refine ⟨fun e => ?_, fun e => ?_, fun i r hr e => ?_⟩
          · rcases hat with hat | hat
            · exact (m8 _ hat).1 e
            · have : wc.heap.size + 1 = ga := hsA.symm.trans hat.symm; have := m2.lt; omega
          · rcases hat with hat | hat
            · exact (m8 _ hat).2.1 e
            · have : wc.heap.size + 1 = ga := hsA.symm.trans hat.symm; have := (m2.own.lt _ e).2; omega
          · rcases hat with hat | hat
            · exact (m8 _ hat).2.2 i r hr e
            · have : wc.heap.size + 1 = ga := hsA.symm.trans hat.symm; have := ((m2.ok i r hr).2.2.2 _ e).2.1; omega
        · rw [List.length_append, hlen, hM.tl]; rfl
        · intro j hj hn
          have := m9.size
          exact (hkeep j (by omega) (fun e => hn (.inl e)) (fun e => hn (.inr (.inr (.inr (.inl e)))))).trans (m9.block j hj hn)
        · intro j hj
          rcases hj with hj | hj | hj | hj | hj
          · exact .inl (.inl hj)
          · exact .inl (.inr (.inl hj))
          · exact m9.new j (.inr (.inr (.inl hj)))
          · have := hown j hj
            subst this
            rcases hat with hat | hat
            · exact .inl (.inr (.inr (.inr (.inl hat))))
            · have := m9.size; have : wc.heap.size + 1 = ga := hsA.symm.trans hat.symm; exact .inr (by omega)
          · exact m9.new j (.inr (.inr (.inr (.inr hj))))
      obtain ⟨W8, hW8⟩ : ∃ W, w7.setCell ⟨M, 1, none⟩ (.slice (some ⟨ga, 0, none⟩) (T.length + 1) ca) = W := ⟨_, rfl⟩
      rw [hW8] at HP ⊢
      clear hW8 rM7 rX7 hgrow hown7 hat hlt7 rMA rXA hownA hbA hsA hi hz0 hz1 hz2 m1 m2 m3 m4 m5 m6 m7 m8 m9
      go_wp2
      go_ret
      exact ⟨rfl, HP.out⟩
    · have HP : Hid (TkPost base M B v (.slice ua T.length uc) L T cl k g s w wc) := by
        obtain ⟨v', L', m1, m2, m3, m4, m5, m6, m7, m8, m9⟩ := HMID.out
        have hM := HM.out
        have hd : doC (cls L) k g s = cls L := by unfold doC; rw [HE.out, if_neg hE0]
        exact ⟨v', _, L', T, by unfold tkT; rw [HE.out, if_neg hE0], m1, ⟨m3, hM.len, m2, m4, hM.low, hM.nB, m6, hM.nu, m7, m8, by rw [m1, hd, hM.run], by rw [hM.tl, ← cls_len L', m1, hd, cls_len]⟩, m9⟩
      have hne : (E == 0) = false := by rw [beq_eq_false_iff_ne]; exact hE0
      clear HMID hE0
      go_wp2
      go_ret
      exact ⟨rfl, HP.out⟩
end
section
open Go.RowKit
attribute [local go_sem ↓] Go.wp_at_zero Go.wp_at_succ

theorem MDo_bad (c n k g s : Int) (p : Option Addr) (w : World) (hA : isA c n = false) :
    Calls Tryz.prog 24 #[.pointer p, .int .i64 c, .int .i64 n, .agg #[.int .i64 k, .int .i64 g, .int .i64 s]] w fun e W' => e = .returned (.tuple #[.int .i64 0, .bool false, .int .i64 1]) ∧ Below w.heap.size w W' := by
  have hb0 : Below w.heap.size w (w.alloc (.cells #[.int .i64 k, .int .i64 g, .int .i64 s] 59)) := (Below.refl _ w).alloc (Nat.le_refl _) _
  have hI := fun W => isAsker_any c n W
  rw [hA] at hI
  go_enter Tryz.func24, Tryz.ntmps24
  go_wp2_with (go_at_call 52; refine (hI _).mono ?_; rintro e w1 ⟨rfl, h9⟩; subst w1)
  exact bodyPost_ret (v := .tuple #[.int .i64 0, .bool false, .int .i64 1]) (by simp [results, Tryz.f24, go_sem]) rfl ⟨rfl, hb0⟩
set_option maxRecDepth 20000 in
theorem MDo_less (c n m : Nat) (a k g s : Int) (base M B : Nat) (v u : Value) (L : List Rc) (T : List C3) (cl : List Kn) (w : World) (h : MtAt base w M B v u L T cl) (hc : cl[c]? = some (m, a)) (hA : isA c n = true) (hn : n < m) :
    Calls Tryz.prog 24 #[.pointer (some ⟨M, 0, none⟩), .int .i64 c, .int .i64 n, .agg #[.int .i64 k, .int .i64 g, .int .i64 s]] w fun e W' => e = .returned (.tuple #[.int .i64 0, .bool false, .int .i64 6]) ∧ Below w.heap.size w W' := by
  have hb0 : Below w.heap.size w (w.alloc (.cells #[.int .i64 k, .int .i64 g, .int .i64 s] 59)) := (Below.refl _ w).alloc (Nat.le_refl _) _
  have h0 := h.next hb0
  have hc8 : c < 8 := by rw [← h.len]; exact (List.getElem?_eq_some_iff.1 hc).1
  have x1 := cellB h0.blk (2 + c * 2) _ (mcs_at B u cl c _ hc).1
  have hI := fun W => isAsker_any c n W
  rw [hA] at hI
  have c0 : (0 : Int) ≤ (c : Int) := by omega
  have c1 : (c : Int) < 8 := by omega
  clear h h0 hc
  go_enter Tryz.func24, Tryz.ntmps24
  go_wp2_with (go_at_call 52; refine (hI _).mono ?_; rintro e w1 ⟨rfl, h9⟩; subst w1)
  exact bodyPost_ret (v := .tuple #[.int .i64 0, .bool false, .int .i64 6]) (by simp [results, Tryz.f24, go_sem]) rfl ⟨rfl, hb0⟩
set_option maxRecDepth 20000 in
theorem MDo_same (c n : Nat) (a k g s : Int) (base M B : Nat) (v u : Value) (L : List Rc) (T : List C3) (cl : List Kn) (w : World) (h : MtAt base w M B v u L T cl) (hc : cl[c]? = some (n, a)) (hA : isA c n = true) :
    Calls Tryz.prog 24 #[.pointer (some ⟨M, 0, none⟩), .int .i64 c, .int .i64 n, .agg #[.int .i64 k, .int .i64 g, .int .i64 s]] w fun e W' => e = .returned (.tuple #[.int .i64 a, .bool false, .int .i64 0]) ∧ Below w.heap.size w W' := by
  have hb0 : Below w.heap.size w (w.alloc (.cells #[.int .i64 k, .int .i64 g, .int .i64 s] 59)) := (Below.refl _ w).alloc (Nat.le_refl _) _
  have h0 := h.next hb0
  have hc8 : c < 8 := by rw [← h.len]; exact (List.getElem?_eq_some_iff.1 hc).1
  have x1 := cellB h0.blk (2 + c * 2) _ (mcs_at B u cl c _ hc).1
  have x2 := cellB h0.blk (2 + c * 2 + 1) _ (mcs_at B u cl c _ hc).2
  have hI := fun W => isAsker_any c n W
  rw [hA] at hI
  have c0 : (0 : Int) ≤ (c : Int) := by omega
  have c1 : (c : Int) < 8 := by omega
  clear h h0 hc
  go_enter Tryz.func24, Tryz.ntmps24
  go_wp2_with (go_at_call 52; refine (hI _).mono ?_; rintro e w1 ⟨rfl, h9⟩; subst w1)
  exact bodyPost_ret (v := .tuple #[.int .i64 a, .bool false, .int .i64 0]) (by simp [results, Tryz.f24, go_sem]) rfl ⟨rfl, hb0⟩
def MdPost (base M B : Nat) (v u : Value) (L : List Rc) (T : List C3) (cl : List Kn) (c n : Nat) (k g s : Int) (w W' : World) : Prop :=
  ∃ v' u' L' T', T' = tkT (cls L) T k g s ∧ cls L' = doC (cls L) k g s ∧ MtAt base W' M B v' u' L' T' (cl.set c (n, doE (cls L) k g s)) ∧ MK M B v u L v' u' L' w W'
theorem MK.pre {M B : Nat} {v u v' u' : Value} {L L' : List Rc} {w w0 W' : World} (hb : Below w.heap.size w w0) (h : MK M B v u L v' u' L' w0 W') : MK M B v u L v' u' L' w W' :=
  ⟨h.os.trans hb.os, h.tape.trans hb.tape, h.output.trans hb.output, Nat.le_trans hb.size h.size, fun k hk hn => (h.block k (Nat.lt_of_lt_of_le hk hb.size) hn).trans (hb.block k hk), fun k hk => (h.new k hk).imp id (fun e => Nat.le_trans hb.size e)⟩
theorem MK.set {M B : Nat} {v u v' u' : Value} {L L' : List Rc} {w W' : World} (h : MK M B v u L v' u' L' w W') (o : Nat) (l : List Value) : MK M B v u L v' u' L' w (W'.setCells M o l) :=
  ⟨by rw [← h.os]; exact (blk_below (w0 := W') (Nat.zero_le M) l o W' (Below.refl 0 W')).os, by rw [← h.tape]; exact (blk_below (w0 := W') (Nat.zero_le M) l o W' (Below.refl 0 W')).tape, by rw [← h.output]; exact (blk_below (w0 := W') (Nat.zero_le M) l o W' (Below.refl 0 W')).output, by rw [blk_size]; exact h.size, fun k hk hn => (blk_far (fun e => hn (.inl e)) _ _ _).trans (h.block k hk hn), h.new⟩
theorem Tryz.size94 : (Tryz.prog.info? 94).map (·.size) = some 2 := by kernel_rfl
set_option maxRecDepth 20000 in
set_option maxHeartbeats 1000000 in
theorem MDo_new (c n m : Nat) (a k g s : Int) (base M B : Nat) (v u : Value) (L : List Rc) (T : List C3) (cl : List Kn) (w : World) (h : MtAt base w M B v u L T cl) (hc : cl[c]? = some (m, a)) (hA : isA c n = true) (hn : m < n) :
    Calls Tryz.prog 24 #[.pointer (some ⟨M, 0, none⟩), .int .i64 c, .int .i64 n, .agg #[.int .i64 k, .int .i64 g, .int .i64 s]] w fun e W' => e = .returned (.tuple #[.int .i64 (doE (cls L) k g s), .bool true, .int .i64 0]) ∧ MdPost base M B v u L T cl c n k g s w W' := by
  have hb0 : Below w.heap.size w (w.alloc (.cells #[.int .i64 k, .int .i64 g, .int .i64 s] 59)) := (Below.refl _ w).alloc (Nat.le_refl _) _
  have r0 := heap_alloc_new w (.cells #[.int .i64 k, .int .i64 g, .int .i64 s] 59)
  have h0 := h.next hb0
  have hc8 : c < 8 := by rw [← h.len]; exact (List.getElem?_eq_some_iff.1 hc).1
  have x1 := cellB h0.blk (2 + c * 2) _ (mcs_at B u cl c _ hc).1
  have hI := fun W => isAsker_any c n W
  rw [hA] at hI
  have hTk := take_any k g s base M B v u L T cl (w.alloc (.cells #[.int .i64 k, .int .i64 g, .int .i64 s] 59)).drew (h.next (below_drew hb0))
  have hsz : (w.alloc (.cells #[.int .i64 k, .int .i64 g, .int .i64 s] 59)).heap.size = w.heap.size + 1 := by simp
  obtain ⟨W0, hW0⟩ : ∃ W, w.alloc (.cells #[.int .i64 k, .int .i64 g, .int .i64 s] 59) = W := ⟨_, rfl⟩
  rw [hW0] at hb0 r0 h0 x1 hTk hsz
  have HV : Hid (w.alloc (.cells #[.int .i64 k, .int .i64 g, .int .i64 s] 59) = W0) := hW0
  have HM : Hid (MtAt base w M B v u L T cl) := h
  have HB : Hid (Below w.heap.size w W0 ∧ W0.heap.size = w.heap.size + 1) := ⟨hb0, hsz⟩
  have hS0 : W0.drew.heap[w.heap.size]? = some (.cells #[.int .i64 k, .int .i64 g, .int .i64 s] 59) := r0
  obtain ⟨E, hE⟩ : ∃ E, doE (cls L) k g s = E := ⟨_, rfl⟩
  have HE : Hid (doE (cls L) k g s = E) := hE
  rw [hE] at hTk ⊢
  have c0 : (0 : Int) ≤ (c : Int) := by omega
  have c1 : (c : Int) < 8 := by omega
  clear hW0 h h0 r0 hb0 hE hc hsz
  go_enter Tryz.func24, Tryz.ntmps24
  go_upto_region 1 with fail
  rw [HV.out]
  clear HV
  go_upto_region 10 with (go_at_call 52; refine (hI _).mono ?_; rintro e w1 ⟨rfl, h9⟩; subst w1)
  clear x1 hI
  refine region_Z 99 (fun w' => w'.heap[w.heap.size]? = some (.cells #[.int .i64 k, .int .i64 g, .int .i64 s] 59)) (by kernel_rfl) ?_
  refine Y_take (i := 0) (v := ?_) rfl (by kernel_rfl) (by kernel_rfl) (by kernel_rfl) (by kernel_rfl) (fun _ _ _ h => h) (by rfl) hS0 ?_ ?_
  rotate_left
  · (intro w' hSw; go_simp; (try with_reducible rfl))
  simp only [Act.put, List.setIfInBounds_toArray]
  refine Y_take (i := 1) (v := ?_) rfl (by kernel_rfl) (by kernel_rfl) (by kernel_rfl) (by kernel_rfl) (fun _ _ _ h => h) (by rfl) hS0 ?_ ?_
  rotate_left
  · (intro w' hSw; go_simp; (try with_reducible rfl))
  simp only [Act.put]
  refine Y_take (i := 2) (v := ?_) rfl (by kernel_rfl) (by kernel_rfl) (by kernel_rfl) (by kernel_rfl) (fun _ _ _ h => h) (by rfl) hS0 ?_ ?_
  rotate_left
  · (intro w' hSw; go_simp; (try with_reducible rfl))
  simp only [Act.put]
  refine Y_take (i := 3) (v := ?_) rfl (by kernel_rfl) (by kernel_rfl) (by kernel_rfl) (by kernel_rfl) (fun _ _ _ h => h) (by rfl) hS0 ?_ ?_
  rotate_left
  · (intro w' hSw; go_simp; (try with_reducible rfl))
  simp only [Act.put]
  refine Y_take (i := 4) (v := ?_) rfl (by kernel_rfl) (by kernel_rfl) (by kernel_rfl) (by kernel_rfl) (fun _ _ _ h => h) (by rfl) hS0 ?_ ?_
  rotate_left
  · (intro w' hSw; go_simp; (try with_reducible rfl))
  simp only [Act.put]
  refine Y_take (i := 5) (v := ?_) rfl (by kernel_rfl) (by kernel_rfl) (by kernel_rfl) (by kernel_rfl) (fun _ _ _ h => h) (by rfl) hS0 ?_ ?_
  rotate_left
  · (intro w' hSw; have f1 := cellB hSw 0 _ rfl; have f2 := cellB hSw 1 _ rfl; have f3 := cellB hSw 2 _ rfl; go_simp; (try with_reducible rfl))
  simp only [Act.put]
  refine Z_step (i := 6) (by kernel_rfl) rfl (fun K hK => ?_)
  go_simp
  refine hTk.mono ?_
  rintro e w1 ⟨rfl, v', u', L', T', t0, t1, t2, t3⟩
  have hM := HM.out
  obtain ⟨hb0, hsz⟩ := HB.out
  have t4 := MK.pre (below_drew hb0) t3
  have hS1 : w1.heap[w.heap.size]? = some (.cells #[.int .i64 k, .int .i64 g, .int .i64 s] 59) := (t3.block w.heap.size (by show w.heap.size < W0.heap.size; omega) (fun ho => by have := (hM.own_lt ho).2; omega)).trans hS0
  have hsM : (mcs B u' cl).toArray.size = 18 := by rw [List.size_toArray]; exact mcs_len B u' cl t2.len
  refine hK _ _ (fun _ => hS1) ?_
  clear hK K
  refine Z_step (i := 7) (by kernel_rfl) rfl (fun K hK => ?_)
  go_simp
  refine hK _ _ (fun _ => hS1) ?_
  clear hK K
  refine Z_step (i := 8) (by kernel_rfl) rfl (fun K hK => ?_)
  go_simp
  refine hK _ _ (fun _ => hS1) ?_
  clear hK K
  refine Z_step (i := 9) (by kernel_rfl) rfl (fun K hK => ?_)
  refine step_store_mid (by rfl) 94 _ _ (by rfl) M (2 + c * 2) #[.int .i64 (n : Int), .int .i64 E] (by rfl) (by rfl) (blk_there t2.blk (2 + c * 2) 2 (by rw [hsM]; omega)) Tryz.size94 (by simp [Value.oneCell']) ?_
  have t5 := t2.put c hc8 n E
  have t6 := t4.set (2 + c * 2) [.int .i64 (n : Int), .int .i64 E]
  have hS2 : (w1.setCells M (2 + c * 2) [.int .i64 (n : Int), .int .i64 E]).heap[w.heap.size]? = some (.cells #[.int .i64 k, .int .i64 g, .int .i64 s] 59) := (blk_far (by have := hM.lt; omega) _ _ _).trans hS1
  refine hK _ _ (fun _ => hS2) (Z_done (by kernel_rfl) ?_ _)
  clear hK K
  have x2 := cellB t5.blk (2 + c * 2 + 1) _ (mcs_at B u' (cl.set c (n, E)) c (n, E) (by rw [List.getElem?_set_self (by rw [t2.len]; exact hc8)])).2
  have HP : Hid (MdPost base M B v u L T cl c n k g s w (w1.setCells M (2 + c * 2) [.int .i64 (n : Int), .int .i64 E])) := ⟨v', u', L', T', t0, t1, by rw [HE.out]; exact t5, t6⟩
  obtain ⟨W2, hW2⟩ : ∃ W, w1.setCells M (2 + c * 2) [.int .i64 (n : Int), .int .i64 E] = W := ⟨_, rfl⟩
  have hx2 : W2.cell? ⟨M, 2 + c * 2 + 1, none⟩ = some (.int .i64 E) := by rw [← hW2]; exact x2
  rw [hW2] at HP
  rw [hW2]
  clear hW2 t0 t1 t2 t3 t4 t5 t6 hS1 hS2 hM hb0 hsz hsM x2 hS0 HM HB
  go_wp2
  exact bodyPost_ret (v := .tuple #[.int .i64 E, .bool true, .int .i64 0]) (by simp [results, Tryz.f24, go_sem]) rfl ⟨rfl, HP.out⟩
end
section
open Go.RowKit
attribute [local go_sem ↓] Go.wp_at_zero Go.wp_at_succ

/-- What is known of a client. -/
def kn (cl : List Kn) (c : Int) : Kn := cl.getD c.toNat (0, 0)
/-- Is a command to be done now? -/
def moN (cl : List Kn) (c n : Int) : Bool := isA c n && decide (((kn cl c).1 : Int) < n)
/-- What a moot's Do tells. -/
def moR (cs : List (List Nat × List Nat)) (cl : List Kn) (c n k g s : Int) : Int × Bool × Int :=
  if isA c n = true then (if n < ((kn cl c).1 : Int) then (0, false, 6) else if n = ((kn cl c).1 : Int) then ((kn cl c).2, false, 0) else (doE cs k g s, true, 0)) else (0, false, 1)
def moC (cs : List (List Nat × List Nat)) (cl : List Kn) (c n k g s : Int) : List Kn := if moN cl c n = true then cl.set c.toNat (n.toNat, doE cs k g s) else cl
def moL (cs : List (List Nat × List Nat)) (cl : List Kn) (c n k g s : Int) : List (List Nat × List Nat) := if moN cl c n = true then doC cs k g s else cs
/-- The commands behind Do. -/
def moT (cs : List (List Nat × List Nat)) (T : List C3) (cl : List Kn) (c n k g s : Int) : List C3 := if moN cl c n = true then tkT cs T k g s else T
def MaPost (base M B : Nat) (v u : Value) (L : List Rc) (T : List C3) (cl : List Kn) (c n k g s : Int) (w W' : World) : Prop :=
  ∃ v' u' L' T', T' = moT (cls L) T cl c n k g s ∧ cls L' = moL (cls L) cl c n k g s ∧ MtAt base W' M B v' u' L' T' (moC (cls L) cl c n k g s) ∧ MK M B v u L v' u' L' w W'
theorem MDo_all (c n k g s : Int) (base M B : Nat) (v u : Value) (L : List Rc) (T : List C3) (cl : List Kn) (w : World) (h : MtAt base w M B v u L T cl) :
    Calls Tryz.prog 24 #[.pointer (some ⟨M, 0, none⟩), .int .i64 c, .int .i64 n, .agg #[.int .i64 k, .int .i64 g, .int .i64 s]] w fun e W' => e = .returned (.tuple #[.int .i64 (moR (cls L) cl c n k g s).1, .bool (moR (cls L) cl c n k g s).2.1, .int .i64 (moR (cls L) cl c n k g s).2.2]) ∧ MaPost base M B v u L T cl c n k g s w W' := by
  have stay : moN cl c n = false → ∀ W', Below w.heap.size w W' → MaPost base M B v u L T cl c n k g s w W' := fun hf W' hb => ⟨v, u, L, T, by unfold moT; rw [hf]; rfl, by unfold moL; rw [hf]; rfl, by unfold moC; rw [hf]; exact h.next hb, MK.of_below hb⟩
  cases hA : isA c n with
  | false =>
    refine (MDo_bad c n k g s (some ⟨M, 0, none⟩) w hA).mono ?_
    rintro e W' ⟨rfl, hb⟩
    exact ⟨by unfold moR; rw [hA]; rfl, stay (by unfold moN; rw [hA]; rfl) W' hb⟩
  | true =>
    have hA2 := hA
    unfold isA at hA2
    rw [Bool.and_eq_true] at hA2
    obtain ⟨h1, h2⟩ := wi_t hA2.1
    obtain ⟨h3, h4⟩ := wi_t hA2.2
    obtain ⟨c, rfl⟩ := Int.eq_ofNat_of_zero_le h1
    obtain ⟨n, rfl⟩ := Int.eq_ofNat_of_zero_le (show (0 : Int) ≤ n by omega)
    obtain ⟨⟨m, a⟩, hc⟩ : ∃ x, cl[c]? = some x := ⟨_, List.getElem?_eq_getElem (by rw [h.len]; omega)⟩
    have hk : kn cl (c : Int) = (m, a) := by unfold kn; rw [Int.toNat_natCast, List.getD_eq_getElem?_getD, hc]; rfl
    rcases Nat.lt_trichotomy n m with hl | hl | hl
    · refine (MDo_less c n m a k g s base M B v u L T cl w h hc hA hl).mono ?_
      rintro e W' ⟨rfl, hb⟩
      exact ⟨by unfold moR; rw [hA, hk, if_pos rfl, if_pos (by show (n : Int) < (m : Int); omega)], stay (by unfold moN; rw [hA, hk, Bool.true_and, decide_eq_false_iff_not]; show ¬ (m : Int) < (n : Int); omega) W' hb⟩
    · subst hl
      refine (MDo_same c n a k g s base M B v u L T cl w h hc hA).mono ?_
      rintro e W' ⟨rfl, hb⟩
      exact ⟨by unfold moR; rw [hA, hk, if_pos rfl, if_neg (by show ¬ (n : Int) < (n : Int); omega), if_pos rfl], stay (by unfold moN; rw [hA, hk, Bool.true_and, decide_eq_false_iff_not]; show ¬ (n : Int) < (n : Int); omega) W' hb⟩
    · refine (MDo_new c n m a k g s base M B v u L T cl w h hc hA hl).mono ?_
      rintro e W' ⟨rfl, v', u', L', T', t0, t1, t2, t3⟩
      have hN : moN cl c n = true := by unfold moN; rw [hA, hk, Bool.true_and, decide_eq_true_iff]; show (m : Int) < (n : Int); omega
      exact ⟨by unfold moR; rw [hA, hk, if_pos rfl, if_neg (by show ¬ (n : Int) < (m : Int); omega), if_neg (by show ¬ (n : Int) = (m : Int); omega)], v', u', L', T', by unfold moT; rw [hN]; exact t0, by unfold moL; rw [hN]; exact t1, by unfold moC; rw [hN, Int.toNat_natCast, Int.toNat_natCast]; exact t2, t3⟩
set_option maxRecDepth 20000 in
set_option maxHeartbeats 4000000 in
theorem MLast_any (base M B : Nat) (v u : Value) (L : List Rc) (T : List C3) (cl : List Kn) (w : World) (h : MtAt base w M B v u L T cl) :
    Calls Tryz.prog 25 #[.pointer (some ⟨M, 0, none⟩)] w fun e W' => ∃ x, e = .returned x ∧ GtPost L L.length w x W' := by
  have hb0 : Below w.heap.size w (w.alloc (.cells (cf 0 (.slice none 0 0) 0 0 0 0) 25)) := (Below.refl _ w).alloc (Nat.le_refl _) _
  have r0 := heap_alloc_new w (.cells (cf 0 (.slice none 0 0) 0 0 0 0) 25)
  have h0 := h.next hb0
  have hsz : (w.alloc (.cells (cf 0 (.slice none 0 0) 0 0 0 0) 25)).heap.size = w.heap.size + 1 := by simp
  have x0 := cellB h0.blk 0 _ rfl
  have hG := Last_any B base v L _ h0.ch (by have := h.forty; omega)
  obtain ⟨W0, hW0⟩ : ∃ W, w.alloc (.cells (cf 0 (.slice none 0 0) 0 0 0 0) 25) = W := ⟨_, rfl⟩
  rw [hW0] at hb0 r0 x0 hsz hG
  have HV : Hid (w.alloc (.cells (cf 0 (.slice none 0 0) 0 0 0 0) 25) = W0) := hW0
  have R0 : Hid (W0.heap[w.heap.size]? = some (.cells (cf 0 (.slice none 0 0) 0 0 0 0) 25)) := r0
  have HSZ : Hid (W0.heap.size = w.heap.size + 1 ∧ Below w.heap.size w W0) := ⟨hsz, hb0⟩
  obtain ⟨gs, hgs⟩ : ∃ gs, (cfgAt L L.length).1 = gs := ⟨_, rfl⟩
  have HGS : Hid ((cfgAt L L.length).1 = gs) := hgs
  clear hW0 r0 h h0 hsz hgs hb0
  go_enter Tryz.func25, Tryz.ntmps25
  go_upto_region 1 with fail
  rw [HV.out]
  clear HV
  go_wp2_with (first
    | (go_at_call 29; refine hG.mono ?_; rintro e w1 ⟨x, rfl, u1, a, b, c, d, j1, rfl, j3, j4, j5⟩; rw [HGS.out] at j3; have hil := j3; obtain ⟨ua, uc, rfl⟩ := j3.slice; have R2 : Hid (w1.heap[w.heap.size]? = some (.cells (cf 0 (.slice none 0 0) 0 0 0 0) 25)) := (j5.block _ (by have := HSZ.out.1; omega)).trans R0.out; have HJ : Hid (_ ∧ _ ∧ _ ∧ _) := ⟨j1, hil, j4, j5⟩; clear j1 j3 hil j4 j5 hG)
    | (refine wpList_store_mid rfl 25 _ _ rfl w.heap.size 0 (cf L.length (.slice ua (zi gs).length uc) a b c d) rfl rfl (blk_there R2.out 0 6 (Nat.le_refl _)) Tryz.size25 (cf_ones _ _ _ _ _ _ _ _) ?_))
  obtain ⟨j1, hil, j4, j5⟩ := HJ.out
  obtain ⟨hsz, hb0⟩ := HSZ.out
  have k4 := blk_range (blk_set R2.out (L := cfL L.length (.slice ua (zi gs).length uc) a b c d) rfl)
  refine bodyPost_ret (v := .agg (cf L.length (.slice ua (zi gs).length uc) a b c d)) (results_one rfl rfl (res25 k4 rfl)) rfl ⟨_, rfl, .slice ua (zi gs).length uc, a, b, c, d, j1, rfl, ?_, fun k hk => by have := j4 k hk; omega, blk_below (Nat.le_refl _) _ _ _ (hb0.trans (j5.mono hb0.size))⟩
  rw [HGS.out]
  exact Il_keep hil (fun k hk => by have := j4 k hk; omega)
end
section
open Go.RowKit
attribute [local go_sem ↓] Go.wp_at_zero Go.wp_at_succ

theorem one_r1 : moR (cls []) zK 0 1 1 1 0 = (0, true, 0) := by decide +kernel
theorem one_l1 : moL (cls []) zK 0 1 1 1 0 = [([1], [1, 1, 1, 1])] := by decide +kernel
theorem one_c1 : moC (cls []) zK 0 1 1 1 0 = [(1, 0), (0, 0), (0, 0), (0, 0), (0, 0), (0, 0), (0, 0), (0, 0)] := by decide +kernel
def oneK : List Kn := [(1, 0), (0, 0), (0, 0), (0, 0), (0, 0), (0, 0), (0, 0), (0, 0)]
theorem one_r2 : moR [([1], [1, 1, 1, 1])] oneK 0 1 1 2 0 = (0, false, 0) := by decide +kernel
theorem one_l2 : moL [([1], [1, 1, 1, 1])] oneK 0 1 1 2 0 = [([1], [1, 1, 1, 1])] := by decide +kernel
theorem one_c2 : moC [([1], [1, 1, 1, 1])] oneK 0 1 1 2 0 = oneK := by decide +kernel
theorem one_r3 : moR [([1], [1, 1, 1, 1])] oneK 0 2 1 1 0 = (150, true, 0) := by decide +kernel
theorem one_l3 : moL [([1], [1, 1, 1, 1])] oneK 0 2 1 1 0 = [([1], [1, 1, 1, 1])] := by decide +kernel
/-- Do, where what it tells is known. -/
theorem MDo_told {c n k g s : Int} {base M B : Nat} {v u : Value} {L : List Rc} {T : List C3} {cl : List Kn} {w : World} (h : MtAt base w M B v u L T cl) {cs : List (List Nat × List Nat)} (hL : cls L = cs) {a : Int} {b : Bool} {e : Int} (hr : moR cs cl c n k g s = (a, b, e)) :
    Calls Tryz.prog 24 #[.pointer (some ⟨M, 0, none⟩), .int .i64 c, .int .i64 n, .agg #[.int .i64 k, .int .i64 g, .int .i64 s]] w fun x W' => x = .returned (.tuple #[.int .i64 a, .bool b, .int .i64 e]) ∧ ∃ v' u' L' T', T' = moT cs T cl c n k g s ∧ cls L' = moL cs cl c n k g s ∧ MtAt base W' M B v' u' L' T' (moC cs cl c n k g s) ∧ MK M B v u L v' u' L' w W' := by
  subst hL
  have := MDo_all c n k g s base M B v u L T cl w h
  rw [hr] at this
  exact this
theorem fld0 (n : Int) (v : Value) (a b c d : Int) (W : World) : (Instr.field 25 (.agg (cf n v a b c d)) 0).run Tryz.prog W = .ok (.int .i64 n) W := by kernel_rfl
set_option maxRecDepth 20000 in
set_option maxHeartbeats 1000000 in
theorem one_any (w : World) : Calls Tryz.prog 18 #[] w fun e W' => e = .returned (.bool true) ∧ Below w.heap.size w W' := by
  have hN := MNew_any w
  go_enter Tryz.func18, Tryz.ntmps18
  go_upto_region 2 with (go_at_call 23; refine hN.mono ?_; rintro e w1 ⟨M, B, rfl, h1, hb1⟩; have H1 : Hid (MtAt w.heap.size w1 M B (.slice none 0 0) (.slice none 0 0) [] [] zK ∧ Below w.heap.size w w1) := ⟨h1, hb1⟩; clear h1 hb1)
  clear hN
  have D1 := MDo_told H1.out.1 rfl one_r1
  go_upto_region 3 with (go_at_call 24; refine D1.mono ?_; rintro e w2 ⟨rfl, v2, u2, L2, T2, _, c2, m2, k2⟩; rw [one_l1] at c2; rw [one_c1] at m2; have H2 : Hid (cls L2 = [([1], [1, 1, 1, 1])] ∧ MtAt w.heap.size w2 M B v2 u2 L2 T2 oneK ∧ Below w.heap.size w w2) := ⟨c2, m2, k2.below H1.out.1 H1.out.2⟩; clear c2 m2 k2)
  clear D1 H1
  have D2 := MDo_told H2.out.2.1 H2.out.1 one_r2
  go_upto_region 4 with (go_at_call 24; refine D2.mono ?_; rintro e w3 ⟨rfl, v3, u3, L3, T3, _, c3, m3, k3⟩; rw [one_l2] at c3; rw [one_c2] at m3; have H3 : Hid (cls L3 = [([1], [1, 1, 1, 1])] ∧ MtAt w.heap.size w3 M B v3 u3 L3 T3 oneK ∧ Below w.heap.size w w3) := ⟨c3, m3, k3.below H2.out.2.1 H2.out.2.2⟩; clear c3 m3 k3)
  clear D2 H2
  have D3 := MDo_told H3.out.2.1 H3.out.1 one_r3
  go_upto_region 5 with (go_at_call 24; refine D3.mono ?_; rintro e w4 ⟨rfl, v4, u4, L4, T4, _, c4, m4, k4⟩; rw [one_l3] at c4; have H4 : Hid (L4.length = 1 ∧ (∃ cl, MtAt w.heap.size w4 M B v4 u4 L4 T4 cl) ∧ Below w.heap.size w w4) := ⟨by rw [← cls_len, c4]; rfl, ⟨_, m4⟩, k4.below H3.out.2.1 H3.out.2.2⟩; clear c4 m4 k4)
  clear D3 H3
  obtain ⟨hl4, ⟨cl4, hm4⟩, hb4⟩ := H4.out
  have hLast := MLast_any _ M B v4 u4 L4 T4 cl4 w4 hm4
  rw [hl4] at hLast
  have z3 : ∀ v a b c d W, (Instr.field 25 (.agg (cf 1 v a b c d)) 0).run Tryz.prog W = .ok (.int .i64 1) W := fun v a b c d W => fld0 1 v a b c d W
  clear hm4 hl4
  go_wp2_with (go_at_call 25; refine hLast.mono ?_; rintro e w5 ⟨x, rfl, u5, a, b, c, d, j1, rfl, j3, j4, j5⟩; have hB5 := hb4.trans (j5.mono hb4.size); have hil := j3; obtain ⟨ua, uc, rfl⟩ := j3.slice; clear j1 hil j4 j5)
  go_ret
  exact ⟨rfl, hB5⟩
/-- A step: client, number, command. -/
abbrev S5 := Int × Int × Int × Int × Int
def s5s (x : S5) : List Value := [.int .i64 x.1, .int .i64 x.2.1, .int .i64 x.2.2.1, .int .i64 x.2.2.2.1, .int .i64 x.2.2.2.2]
def scs (l : List S5) : List Value := l.flatMap s5s
theorem scs_snoc (l : List S5) (x : S5) : scs (l ++ [x]) = scs l ++ s5s x := by simp [scs]
theorem scs_at : ∀ (l : List S5) (i : Nat) (x : S5), l[i]? = some x → ∀ j, j < 5 → (scs l)[i * 5 + j]? = (s5s x)[j]?
  | [], _, _, h, _, _ => by cases h
  | a :: l, 0, x, h, j, hj => by
    have : a = x := by simpa using h
    subst this
    show (s5s a ++ scs l)[0 * 5 + j]? = _
    rw [List.getElem?_append_left (by simp [s5s]; omega), Nat.zero_mul, Nat.zero_add]
  | a :: l, i + 1, x, h, j, hj => by
    show (s5s a ++ scs l)[(i + 1) * 5 + j]? = _
    rw [List.getElem?_append_right (by simp [s5s]; omega), show (i + 1) * 5 + j - (s5s a).length = i * 5 + j by simp [s5s]; omega]
    exact scs_at l i x (by simpa using h) j hj
/-- A slice of just these steps. -/
def Ss (w : World) (v : Value) (l : List S5) : Prop :=
  (l = [] ∧ ∃ a c, v = .slice a 0 c) ∨ ∃ b o cap, v = .slice (some ⟨b, o, none⟩) l.length cap ∧ b < w.heap.size ∧ ∀ (i : Nat) x, l[i]? = some x → ∀ j u, (s5s x)[j]? = some u → w.cell? ⟨b, o + i * 5 + j, none⟩ = some u
theorem Ss.next {w w' : World} {v : Value} {l : List S5} (h : Ss w v l) (hb : Below w.heap.size w w') : Ss w' v l := by
  rcases h with h | ⟨b, o, cap, rfl, hlt, h⟩
  · exact .inl h
  · exact .inr ⟨b, o, cap, rfl, Nat.lt_of_lt_of_le hlt hb.size, fun i x hx j u hu => (hb.cell (p := ⟨b, o + i * 5 + j, none⟩) hlt).trans (h i x hx j u hu)⟩
theorem Ss.slice {w : World} {v : Value} {l : List S5} (h : Ss w v l) : ∃ a c, v = .slice a l.length c := by
  rcases h with ⟨rfl, a, c, rfl⟩ | ⟨b, o, cap, rfl, _⟩
  · exact ⟨a, c, rfl⟩
  · exact ⟨_, _, rfl⟩
theorem Ss.at {w : World} {a : Option Addr} {c : Nat} {l : List S5} (h : Ss w (.slice a l.length c) l) {i : Nat} {x : S5} (hi : l[i]? = some x) : ∃ b o, a = some ⟨b, o, none⟩ ∧ w.cell? ⟨b, o + i * 5, none⟩ = some (.int .i64 x.1) ∧ w.cell? ⟨b, o + i * 5 + 1, none⟩ = some (.int .i64 x.2.1) ∧ w.cell? ⟨b, o + i * 5 + 2, none⟩ = some (.int .i64 x.2.2.1) ∧ w.cell? ⟨b, o + i * 5 + 3, none⟩ = some (.int .i64 x.2.2.2.1) ∧ w.cell? ⟨b, o + i * 5 + 4, none⟩ = some (.int .i64 x.2.2.2.2) := by
  rcases h with ⟨rfl, _⟩ | ⟨b, o, cap, hv, hlt, h⟩
  · cases hi
  · injection hv with h1 _ _
    exact ⟨b, o, h1, h i x hi 0 _ rfl, h i x hi 1 _ rfl, h i x hi 2 _ rfl, h i x hi 3 _ rfl, h i x hi 4 _ rfl⟩
theorem Ss_owns {w : World} {base : Nat} {u : Value} {l : List S5} (h : w.ownsRow base 61 5 u l.length (scs l)) : Ss w u l := by
  rcases Nat.eq_zero_or_pos l.length with h0 | h0
  · obtain ⟨a, c, rfl⟩ := owns_slice h
    have := List.length_eq_zero_iff.1 h0
    subst this
    exact .inl ⟨rfl, a, c, rfl⟩
  · obtain ⟨g, cap, rfl, hb, hlt⟩ := h.form h0
    refine .inr ⟨g, 0, cap, rfl, hlt, fun i x hx j u hu => ?_⟩
    have hi : i < l.length := (List.getElem?_eq_some_iff.1 hx).1
    have hj : j < 5 := by have := (List.getElem?_eq_some_iff.1 hu).1; simpa [s5s] using this
    have e := (h.cellAt (i * 5 + j) (by omega)).trans ((scs_at l i x hx j hj).trans hu)
    rw [Nat.zero_add]
    exact e
end
end Go.Proofs.YtfolnlgceighbaaGreatDoor
