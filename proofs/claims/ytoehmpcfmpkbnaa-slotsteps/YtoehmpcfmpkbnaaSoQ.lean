/- The document's slot: what it is in memory; its New and Own, walked. -/
import Derived.Test.YtoehmpcfmpkbnaaSoN
namespace Go.Proofs.Ytoehmpcfmpkbnaa
open Go.RowKit
attribute [local go_sem ↓] Go.wp_at_zero Go.wp_at_succ

/-- What a call on one object leaves: all blocks but the object's own two are as they were. -/
structure Moved (B : Nat) (v v' : Value) (w w' : World) : Prop where
  os : w'.os = w.os
  tape : w'.tape = w.tape
  output : w'.output = w.output
  size : w.heap.size ≤ w'.heap.size
  block : ∀ k, k < w.heap.size → k ≠ B → v.ownBlock ≠ some k → w'.heap[k]? = w.heap[k]?
  own : ∀ k, v'.ownBlock = some k → v.ownBlock = some k ∨ w.heap.size ≤ k
theorem Moved.refl (B : Nat) (v : Value) (w : World) : Moved B v v w w := ⟨rfl, rfl, rfl, Nat.le_refl _, fun _ _ _ _ => rfl, fun _ h => .inl h⟩
theorem Moved.of_below {w w' : World} (h : Below w.heap.size w w') (B : Nat) (v : Value) : Moved B v v w w' := ⟨h.os, h.tape, h.output, h.size, fun k hk _ _ => h.block k hk, fun _ h => .inl h⟩
theorem Moved.trans {B : Nat} {v v1 v2 : Value} {w w1 w2 : World} (h : Moved B v v1 w w1) (k : Moved B v1 v2 w1 w2) : Moved B v v2 w w2 :=
  ⟨k.os.trans h.os, k.tape.trans h.tape, k.output.trans h.output, Nat.le_trans h.size k.size,
    fun i hi h1 h2 => (k.block i (Nat.lt_of_lt_of_le hi h.size) h1 (fun e => by rcases h.own i e with e | e; exact h2 e; omega)).trans (h.block i hi h1 h2),
    fun i hi => by
      rcases k.own i hi with e | e
      · exact h.own i e
      · exact .inr (Nat.le_trans h.size e)⟩
theorem Moved.below {B b : Nat} {v v' : Value} {w w' : World} (h : Moved B v v' w w') (hB : b ≤ B) (hv : ∀ k, v.ownBlock = some k → b ≤ k) (hb : b ≤ w.heap.size) : Below b w w' :=
  ⟨h.os, h.tape, h.output, h.size, fun k hk => h.block k (by omega) (by omega) (fun e => by have := hv k e; omega)⟩
theorem Moved.far {B k : Nat} {v v' : Value} {w w' : World} (hm : Moved B v v' w w') (hk : k < w.heap.size) (h1 : k ≠ B) (h2 : v.ownBlock ≠ some k) {o : Obj} (ho : w.heap[k]? = some o) : w'.heap[k]? = some o := (hm.block k hk h1 h2).trans ho

/-- Votes as cells. -/
def vcs (l : List Vo) : List Value := l.flatMap fun a => [.int .i64 a.1, .int .i64 a.2.1, .string (bs a.2.2.1), .string (bs a.2.2.2)]
theorem vcs_cons (a : Vo) (l : List Vo) : vcs (a :: l) = .int .i64 a.1 :: .int .i64 a.2.1 :: .string (bs a.2.2.1) :: .string (bs a.2.2.2) :: vcs l := rfl
theorem vcs_len (l : List Vo) : (vcs l).length = l.length * 4 := by
  induction l with
  | nil => rfl
  | cons t r ih => rw [vcs_cons]; simp only [List.length_cons, ih]; omega
theorem vcs_append (a b : List Vo) : vcs (a ++ b) = vcs a ++ vcs b := by simp [vcs]
theorem vcs_at (l : List Vo) (i : Nat) (t : Vo) (h : l[i]? = some t) : (vcs l)[i * 4]? = some (.int .i64 t.1) ∧ (vcs l)[i * 4 + 1]? = some (.int .i64 t.2.1) ∧ (vcs l)[i * 4 + 2]? = some (.string (bs t.2.2.1)) ∧ (vcs l)[i * 4 + 3]? = some (.string (bs t.2.2.2)) := by
  induction l generalizing i with
  | nil => cases h
  | cons a r ih =>
    rw [vcs_cons]
    cases i with
    | zero => simp at h; subst h; exact ⟨rfl, rfl, rfl, rfl⟩
    | succ i =>
      have := ih i (by simpa using h)
      rw [show (i + 1) * 4 = i * 4 + 1 + 1 + 1 + 1 from by omega]
      simpa using this
theorem vrow_at {w : World} {base : Nat} {E : TypeId} {v : Value} {l : List Vo} (h : w.ownsRow base E 4 v l.length (vcs l)) {i : Nat} {t : Vo} (hi : l[i]? = some t) :
    ∃ g cap, v = .slice (some ⟨g, 0, none⟩) l.length cap ∧ base ≤ g ∧ g < w.heap.size ∧ w.cell? ⟨g, i * 4, none⟩ = some (.int .i64 t.1) ∧ w.cell? ⟨g, i * 4 + 1, none⟩ = some (.int .i64 t.2.1) ∧ w.cell? ⟨g, i * 4 + 2, none⟩ = some (.string (bs t.2.2.1)) ∧ w.cell? ⟨g, i * 4 + 3, none⟩ = some (.string (bs t.2.2.2)) := by
  have hil : i < l.length := (List.getElem?_eq_some_iff.1 hi).1
  obtain ⟨g, cap, rfl, hb, hlt⟩ := h.form (by omega)
  obtain ⟨e0, e1, e2, e3⟩ := vcs_at l i t hi
  refine ⟨g, cap, rfl, hb, hlt, ?_, ?_, ?_, ?_⟩
  · rw [← e0]; exact h.cellAt _ (by omega)
  · rw [← e1]; exact h.cellAt _ (by omega)
  · rw [← e2]; exact h.cellAt _ (by omega)
  · rw [← e3]; exact h.cellAt _ (by omega)
/-- The document's slot: the votes that count, in their order. -/
structure RefAt (base : Nat) (w : World) (R : Nat) (v : Value) (gr : Int) (f p : Nat) (l : List Vo) : Prop where
  blk : w.heap[R]? = some (.cells #[.int .i64 gr, .int .i64 f, .int .i64 p, v] 46)
  own : w.ownsRow base 39 4 v l.length (vcs l)
  ne : v.ownBlock ≠ some R
  base : base ≤ R
  f3 : f ≤ 3
theorem RefAt.lt {base : Nat} {w : World} {R : Nat} {v : Value} {gr : Int} {f p : Nat} {l : List Vo} (h : RefAt base w R v gr f p l) : R < w.heap.size := (Array.getElem?_eq_some_iff.1 h.blk).1
theorem RefAt.le {base : Nat} {w : World} {R : Nat} {v : Value} {gr : Int} {f p : Nat} {l : List Vo} (h : RefAt base w R v gr f p l) : base ≤ w.heap.size := Nat.le_trans h.base (Nat.le_of_lt h.lt)
theorem RefAt.keep {base : Nat} {w w' : World} {R : Nat} {v : Value} {gr : Int} {f p : Nat} {l : List Vo} (h : RefAt base w R v gr f p l) (hB : w'.heap[R]? = w.heap[R]?) (hk : ∀ k, v.ownBlock = some k → w'.heap[k]? = w.heap[k]?) : RefAt base w' R v gr f p l :=
  ⟨hB.trans h.blk, owns_kept h.own hk, h.ne, h.base, h.f3⟩
theorem RefAt.on {base : Nat} {w w' : World} {R : Nat} {v : Value} {gr : Int} {f p : Nat} {l : List Vo} (h : RefAt base w R v gr f p l) (hb : Below w.heap.size w w') : RefAt base w' R v gr f p l :=
  h.keep (hb.block R h.lt) (fun k hk => hb.block k (h.own.lt k hk).2)
theorem RefAt.bel {b base : Nat} {w w' : World} {R : Nat} {v v' : Value} {gr : Int} {f p : Nat} {l : List Vo} (h : RefAt base w R v gr f p l) (hm : Moved R v v' w w') (hb : b ≤ base) : Below b w w' :=
  hm.below (Nat.le_trans hb h.base) (fun k hk => Nat.le_trans hb (h.own.lt k hk).1) (Nat.le_trans hb h.le)
theorem RefAt.slice {base : Nat} {w : World} {R : Nat} {v : Value} {gr : Int} {f p : Nat} {l : List Vo} (h : RefAt base w R v gr f p l) : ∃ a cap, v = .slice a l.length cap := owns_slice h.own
theorem RefAt.c {base : Nat} {w : World} {R : Nat} {v : Value} {gr : Int} {f p : Nat} {l : List Vo} (h : RefAt base w R v gr f p l) : w.cell? ⟨R, 0, none⟩ = some (.int .i64 gr) ∧ w.cell? ⟨R, 1, none⟩ = some (.int .i64 f) ∧ w.cell? ⟨R, 2, none⟩ = some (.int .i64 p) ∧ w.cell? ⟨R, 3, none⟩ = some v := ⟨cellB h.blk 0 _ rfl, cellB h.blk 1 _ rfl, cellB h.blk 2 _ rfl, cellB h.blk 3 _ rfl⟩
theorem rNew_no {g f p : Int} (h : (inB g 4 && (inB f 3 && inB p (3 * f))) = false) (w : World) : Calls Try.prog 9 #[.int .i64 g, .int .i64 f, .int .i64 p] w fun e W' => e = .returned (.tuple #[.pointer none, .int .i64 1]) ∧ W' = w := by
  have hcs : (g < 0) ∨ (0 ≤ g ∧ 4 < g) ∨ (0 ≤ g ∧ g ≤ 4 ∧ f < 0) ∨ (0 ≤ g ∧ g ≤ 4 ∧ 0 ≤ f ∧ 3 < f) ∨ (0 ≤ g ∧ g ≤ 4 ∧ 0 ≤ f ∧ f ≤ 3 ∧ p < 0) ∨ (0 ≤ g ∧ g ≤ 4 ∧ 0 ≤ f ∧ f ≤ 3 ∧ 0 ≤ p ∧ 3 * f < p) := by
    simp [inB] at h; omega
  clear h
  rcases hcs with k1 | ⟨k1, k2⟩ | ⟨k1, k2, k3⟩ | ⟨k1, k2, k3, k4⟩ | ⟨k1, k2, k3, k4, k5⟩ | ⟨k1, k2, k3, k4, k5, k6⟩
  all_goals
    go_enter Try.func9, Try.ntmps9
    go_wp2
    exact bodyPost_ret (v := .tuple #[.pointer none, .int .i64 1]) (by simp [results, Try.f9, go_sem]) rfl ⟨rfl, rfl⟩
theorem rNew_ok {g : Int} {f p : Nat} (h1 : inB g 4 = true) (hf : f ≤ 3) (hp : p ≤ 3 * f) (base : Nat) (w : World) (hb : base ≤ w.heap.size) : Calls Try.prog 9 #[.int .i64 g, .int .i64 f, .int .i64 p] w fun e W' => e = .returned (.tuple #[.pointer (some ⟨w.heap.size, 0, none⟩), .int .i64 0]) ∧ RefAt base W' w.heap.size (.slice none 0 0) g f p [] ∧ Below w.heap.size w W' := by
  obtain ⟨g0, g4⟩ := inB_t h1
  have f3 : (f : Int) ≤ 3 := by omega
  have p3 : (p : Int) ≤ 3 * (f : Int) := by omega
  go_enter Try.func9, Try.ntmps9
  go_wp2
  exact bodyPost_ret (v := .tuple #[.pointer (some ⟨w.heap.size, 0, none⟩), .int .i64 0]) (by simp [results, Try.f9, go_sem]) rfl ⟨rfl, ⟨heap_alloc_new _ _, World.ownsRow_nil _ _ _ _, fun h => (by cases h), hb, hf⟩, (Below.refl _ w).alloc (Nat.le_refl _) _⟩
/-- A block of four cells, written anew. -/
def put4 (W : World) (R : Nat) (a b c d : Value) : World := (((W.setCell ⟨R, 0, none⟩ a).setCell ⟨R, 1, none⟩ b).setCell ⟨R, 2, none⟩ c).setCell ⟨R, 3, none⟩ d
theorem put4_blk {W : World} {R : Nat} {p q r s : Value} {t : TypeId} (h : W.heap[R]? = some (.cells #[p, q, r, s] t)) (a b c d : Value) : (put4 W R a b c d).heap[R]? = some (.cells #[a, b, c, d] t) := setB (setB (setB (setB h 0 a) 1 b) 2 c) 3 d
theorem put4_below {n : Nat} {w W : World} {R : Nat} (h : Below n w W) (hR : n ≤ R) (a b c d : Value) : Below n w (put4 W R a b c d) :=
  (((h.setCell (p := ⟨R, 0, none⟩) hR _).setCell (p := ⟨R, 1, none⟩) hR _).setCell (p := ⟨R, 2, none⟩) hR _).setCell (p := ⟨R, 3, none⟩) hR _
/-- The vote of a kind and a replica. -/
def hitV (kind no : Int) (a : Vo) : Bool := (a.1 == kind) && (a.2.1 == no)
def NoV (kind no : Int) (l : List Vo) (k : Nat) : Prop := ∀ i a, i < k → l[i]? = some a → hitV kind no a = false
theorem NoV.succ {kind no : Int} {l : List Vo} {k : Nat} {a : Vo} (h : NoV kind no l k) (ha : l[k]? = some a) (hp : hitV kind no a = false) : NoV kind no l (k + 1) := by
  intro i b hi hb
  by_cases e : i = k
  · subst e; rw [ha] at hb; injection hb with hb; subst hb; exact hp
  · exact h i b (by omega) hb
theorem NoV.hit {kind no : Int} {l : List Vo} {k : Nat} {a : Vo} (h : NoV kind no l k) (ha : l[k]? = some a) (hp : hitV kind no a = true) : l.find? (hitV kind no) = some a := by
  obtain ⟨hk, e⟩ := List.getElem?_eq_some_iff.1 ha
  rw [List.find?_eq_some_iff_getElem]
  refine ⟨hp, k, hk, e, fun j hj => ?_⟩
  have := h j l[j] hj (List.getElem?_eq_getElem (by omega))
  simp [this]
theorem NoV.none {kind no : Int} {l : List Vo} (h : NoV kind no l l.length) : l.find? (hitV kind no) = none := by
  rw [List.find?_eq_none]
  intro a ha
  obtain ⟨i, hi, e⟩ := List.getElem_of_mem ha
  have := h i a hi (by rw [List.getElem?_eq_getElem hi, e])
  simp [this]
def voZ : Vo := (0, 0, [], [])
/-- What the document's Own answers. -/
def OwnRet (l : List Vo) (kind no : Int) (w : World) (e : Ending) (W' : World) : Prop :=
  (∃ (x : Vo) (b : Bool), ((l.find? (hitV kind no) = some x ∧ b = true) ∨ (l.find? (hitV kind no) = none ∧ x = voZ ∧ b = false)) ∧ e = .returned (.tuple #[.agg #[.int .i64 x.1, .int .i64 x.2.1, .string (bs x.2.2.1), .string (bs x.2.2.2)], .bool b])) ∧ Below w.heap.size w W'
set_option maxRecDepth 20000 in
set_option maxHeartbeats 4000000 in
theorem rOwn_any {base : Nat} {w : World} {R : Nat} {v : Value} {gr : Int} {f p : Nat} {l : List Vo} (h : RefAt base w R v gr f p l) (hlen : l.length ≤ 1000) (kind no : Int) : Calls Try.prog 14 #[.pointer (some ⟨R, 0, none⟩), .int .i64 kind, .int .i64 no] w (OwnRet l kind no w) := by
  obtain ⟨va, vc, rfl⟩ := h.slice
  have hba : Below w.heap.size w (w.alloc (.cells #[.int .i64 0, .int .i64 0, .string ⟨#[]⟩, .string ⟨#[]⟩] 39)) := (Below.refl _ w).alloc (Nat.le_refl _) _
  have rR := heap_alloc_new w (.cells #[.int .i64 0, .int .i64 0, .string ⟨#[]⟩, .string ⟨#[]⟩] 39)
  have c3 := (h.on hba).c.2.2.2
  have hRne : R ≠ w.heap.size := Nat.ne_of_lt h.lt
  have HX : Hid (_ ∧ _) := ⟨hba, rR⟩
  have HW : Hid (∀ W, Below w.heap.size w W → _) := fun W hW => owns_next h.own hW
  clear h rR hba
  go_enter Try.func14, Try.ntmps14
  go_wp2_with fail
  obtain ⟨hba, rR⟩ := HX.out
  have hs0 : w.heap.size + 1 ≤ (w.alloc (.cells #[.int .i64 0, .int .i64 0, .string ⟨#[]⟩, .string ⟨#[]⟩] 39)).heap.size := by simp
  obtain ⟨W0, hW0⟩ : ∃ W, w.alloc (.cells #[.int .i64 0, .int .i64 0, .string ⟨#[]⟩, .string ⟨#[]⟩] 39) = W := ⟨_, rfl⟩
  rw [hW0] at hba rR hs0 c3 ⊢
  clear HX hW0 c3
  go_loopg [15] l.length (fun gk i wr => ∃ k : Nat, k + gk = l.length ∧ i = .int .i64 k ∧ Hid (NoV kind no l k) ∧ wr.heap[w.heap.size]? = some (.cells #[.int .i64 0, .int .i64 0, .string ⟨#[]⟩, .string ⟨#[]⟩] 39) ∧ Below w.heap.size w wr ∧ w.heap.size + 1 ≤ wr.heap.size)
  case atStart => exact ⟨0, by omega, rfl, fun i a hi => absurd hi (Nat.not_lt_zero _), rR, hba, hs0⟩
  case round =>
    clear hba rR hs0
    obtain ⟨k, hk, rfl, HN, rr, hB, hs⟩ := hrel
    by_cases hlt : k < l.length
    · obtain ⟨⟨k5, n5, t5, g5⟩, ha⟩ : ∃ a, l[k]? = some a := ⟨_, List.getElem?_eq_getElem hlt⟩
      obtain ⟨gb, cap, hv, hg1, hg2, x0, x1, x2, x3⟩ := vrow_at (HW.out _ hB) ha
      injection hv with e1 _ e2
      subst e1 e2
      simp only at x0 x1 x2 x3
      have m0 : (0 : Int) ≤ (k : Int) := by omega
      have m1 : (k : Int) < (l.length : Int) := by omega
      have hba : Below wr.heap.size wr (wr.alloc (.cells #[.int .i64 k5, .int .i64 n5, .string (bs t5), .string (bs g5)] 39)) := (Below.refl _ _).alloc (Nat.le_refl _) _
      have hBa := hB.trans (hba.mono hB.size)
      have rr1 := (hba.block _ (by omega)).trans rr
      have hs1 := Nat.le_trans hs hba.size
      have rN := heap_alloc_new wr (.cells #[.int .i64 k5, .int .i64 n5, .string (bs t5), .string (bs g5)] 39)
      have HX : Hid (_ ∧ _ ∧ _ ∧ _) := ⟨hBa, rr1, hs1, rN⟩
      have hcs : (¬ k5 = kind ∧ hitV kind no (k5, n5, t5, g5) = false) ∨ (k5 = kind ∧ ¬ n5 = no ∧ hitV kind no (k5, n5, t5, g5) = false) ∨ (k5 = kind ∧ n5 = no ∧ hitV kind no (k5, n5, t5, g5) = true) := by
        unfold hitV
        by_cases h1 : k5 = kind
        · by_cases h2 : n5 = no
          · right; right; simp [h1, h2]
          · right; left; simp [h1, h2]
        · left; simp [h1]
      have HNs : Hid (hitV kind no (k5, n5, t5, g5) = false → NoV kind no l (k + 1)) := fun hf => NoV.succ HN.out ha hf
      have HNh : Hid (hitV kind no (k5, n5, t5, g5) = true → l.find? (hitV kind no) = some (k5, n5, t5, g5)) := fun hf => NoV.hit HN.out ha hf
      clear hba hBa rr1 hs1 rN ha hg1
      rcases hcs with ⟨h1, hh⟩ | ⟨rfl, h2, hh⟩ | ⟨rfl, rfl, hh⟩
      · have h1b : (k5 == kind) = false := by simpa using h1
        have HN2 : Hid (NoV kind no l (k + 1)) := HNs.out hh
        clear hh
        go_wp2
        go_roundg (l.length - (k + 1))
        case measure => omega
        case rel =>
          obtain ⟨hBa, rr1, hs1, rN⟩ := HX.out
          exact ⟨k + 1, by omega, by go_num, HN2, rr1, hBa, hs1⟩
      · have h2b : (n5 == no) = false := by simpa using h2
        have HN2 : Hid (NoV k5 no l (k + 1)) := HNs.out hh
        clear hh
        go_wp2
        go_roundg (l.length - (k + 1))
        case measure => omega
        case rel =>
          obtain ⟨hBa, rr1, hs1, rN⟩ := HX.out
          exact ⟨k + 1, by omega, by go_num, HN2, rr1, hBa, hs1⟩
      · have HF : Hid (_) := HNh.out hh
        clear hh HNs HNh
        go_upto_region 4 with fail
        obtain ⟨hBa, rr1, hs1, rN⟩ := HX.out
        obtain ⟨W1, hW1⟩ : ∃ W, wr.alloc (.cells #[.int .i64 k5, .int .i64 n5, .string (bs t5), .string (bs g5)] 39) = W := ⟨_, rfl⟩
        rw [hW1] at hBa rr1 rN ⊢
        have u0 := cellB rN 0 _ rfl
        have u1 := cellB rN 1 _ rfl
        have u2 := cellB rN 2 _ rfl
        have u3 := cellB rN 3 _ rfl
        have q0 := cellB rr1 0 _ rfl
        have q1 := cellB rr1 1 _ rfl
        have q2 := cellB rr1 2 _ rfl
        have q3 := cellB rr1 3 _ rfl
        have p0 := frozenB rr1 0
        have p1 := frozenB rr1 1
        have p2 := frozenB rr1 2
        have p3 := frozenB rr1 3
        have HZ : Hid (_ ∧ _) := ⟨rr1, hBa⟩
        clear hW1 HX hBa rr1 rN x0 x1 x2 x3
        go_wp2
        obtain ⟨rr1, hBa⟩ := HZ.out
        have hr := put4_blk rr1 (.int .i64 k5) (.int .i64 n5) (.string (bs t5)) (.string (bs g5))
        have z0 := cellB hr 0 _ rfl
        have z1 := cellB hr 1 _ rfl
        have z2 := cellB hr 2 _ rfl
        have z3 := cellB hr 3 _ rfl
        unfold put4 at z0 z1 z2 z3
        exact bodyPost_ret (v := .tuple #[.agg #[.int .i64 k5, .int .i64 n5, .string (bs t5), .string (bs g5)], .bool true]) (by simp [results, Try.f14, go_sem, z0, z1, z2, z3]) rfl ⟨⟨(k5, n5, t5, g5), true, .inl ⟨HF.out, rfl⟩, rfl⟩, put4_below hBa (Nat.le_refl _) (.int .i64 k5) (.int .i64 n5) (.string (bs t5)) (.string (bs g5))⟩
    · have hkl : k = l.length := by omega
      subst hkl
      have HF : Hid (l.find? (hitV kind no) = none) := NoV.none HN.out
      have q0 := cellB rr 0 _ rfl
      have q1 := cellB rr 1 _ rfl
      have q2 := cellB rr 2 _ rfl
      have q3 := cellB rr 3 _ rfl
      have p0 := frozenB rr 0
      have p1 := frozenB rr 1
      have p2 := frozenB rr 2
      have p3 := frozenB rr 3
      have HZ : Hid (_ ∧ _) := ⟨rr, hB⟩
      clear rr hB
      go_wp2
      obtain ⟨rr1, hBa⟩ := HZ.out
      have hr := put4_blk rr1 (.int .i64 0) (.int .i64 0) (.string ⟨#[]⟩) (.string ⟨#[]⟩)
      have z0 := cellB hr 0 _ rfl
      have z1 := cellB hr 1 _ rfl
      have z2 := cellB hr 2 _ rfl
      have z3 := cellB hr 3 _ rfl
      unfold put4 at z0 z1 z2 z3
      exact bodyPost_ret (v := .tuple #[.agg #[.int .i64 0, .int .i64 0, .string ⟨#[]⟩, .string ⟨#[]⟩], .bool false]) (by simp [results, Try.f14, go_sem, z0, z1, z2, z3]) rfl ⟨⟨voZ, false, .inr ⟨HF.out, rfl, rfl⟩, rfl⟩, put4_below hBa (Nat.le_refl _) (.int .i64 0) (.int .i64 0) (.string ⟨#[]⟩) (.string ⟨#[]⟩)⟩
end Go.Proofs.Ytoehmpcfmpkbnaa
