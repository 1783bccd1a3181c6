/- The document's slot beside the program's: which votes are which; the document's Vote and Votes, walked. -/
import Derived.Test.YtoehmpcfmpkbnaaSoQ
namespace Go.Proofs.Ytoehmpcfmpkbnaa
open Go.RowKit
attribute [local go_sem ↓] Go.wp_at_zero Go.wp_at_succ

/-- How many of a kind. -/
def cntK (kind : Int) : List Vo → Nat
  | [] => 0
  | a :: r => cntK kind r + if a.1 = kind then 1 else 0
theorem cntK_snoc (kind : Int) (l : List Vo) (a : Vo) : cntK kind (l ++ [a]) = cntK kind l + if a.1 = kind then 1 else 0 := by
  induction l with
  | nil => simp [cntK]
  | cons b r ih => simp only [List.cons_append, cntK, ih]; omega
/-- The votes that count, in their order, are those of the array. -/
structure Tie (f : Nat) (l : List Vo) (V : Vs) : Prop where
  ok : ∀ a ∈ l, ∃ k i : Nat, k < 2 ∧ i ≤ 3 * f ∧ a.1 = (k : Int) + 1 ∧ a.2.1 = (i : Int) ∧ V k i = (a.2.2.1, a.2.2.2) ∧ isV a.2.2.2 = true
  all : ∀ k i : Nat, k < 2 → i ≤ 3 * f → (isV (V k i).2 = true → ∃ a ∈ l, a.1 = (k : Int) + 1 ∧ a.2.1 = (i : Int)) ∧ (isV (V k i).2 = false → V k i = ([], []))
  cnt : ∀ kind, cntK kind l = votesN V f kind
theorem cntTo_zero {V : Vs} {k : Nat} (h : ∀ i, isV (V k i).2 = false) : ∀ j, cntTo V k j = 0 := by
  intro j
  induction j with
  | zero => rfl
  | succ j ih => simp [cntTo, ih, h]
theorem Tie.new (f : Nat) : Tie f [] (fun _ _ => ([], [])) :=
  ⟨fun a h => by simp at h, fun k i _ _ => ⟨(fun h => by cases h), fun _ => rfl⟩, fun kind => by
    show 0 = _
    unfold votesN
    split
    · rw [cntTo_zero]; intro i; rfl
    · rfl⟩
theorem Tie.find_some {f : Nat} {l : List Vo} {V : Vs} (h : Tie f l V) {kind no : Int} {x : Vo} (hx : l.find? (hitV kind no) = some x) : ownV V f kind no = (x.2.2.1, x.2.2.2) ∧ isV x.2.2.2 = true := by
  obtain ⟨k, i, hk, hi, e1, e2, e3, e4⟩ := h.ok x (List.mem_of_find?_eq_some hx)
  have hh := List.find?_some hx
  simp [hitV] at hh
  rw [← hh.1, ← hh.2, e1, e2, ownV_at hk hi]
  exact ⟨e3, e4⟩
theorem Tie.find_none {f : Nat} {l : List Vo} {V : Vs} (h : Tie f l V) {kind no : Int} (hx : l.find? (hitV kind no) = none) : ownV V f kind no = ([], []) := by
  cases hok : okV f kind no
  · exact ownV_no hok
  · obtain ⟨k, i, hk, rfl, rfl, hi⟩ := okV_t hok
    rw [ownV_at hk hi]
    cases hv : isV (V k i).2
    · exact (h.all k i hk hi).2 hv
    · obtain ⟨a, ha, e1, e2⟩ := (h.all k i hk hi).1 hv
      have := (List.find?_eq_none.1 hx) a ha
      simp [hitV, e1, e2] at this
theorem rOwn_tie {base : Nat} {w : World} {R : Nat} {v : Value} {gr : Int} {f p : Nat} {l : List Vo} {V : Vs} (h : RefAt base w R v gr f p l) (hlen : l.length ≤ 1000) (ht : Tie f l V) (kind no : Int) : Calls Try.prog 14 #[.pointer (some ⟨R, 0, none⟩), .int .i64 kind, .int .i64 no] w fun e W' =>
    (∃ kk nn : Int, e = .returned (.tuple #[.agg #[.int .i64 kk, .int .i64 nn, .string (bs (ownV V f kind no).1), .string (bs (ownV V f kind no).2)], .bool (isV (ownV V f kind no).2)])) ∧ Below w.heap.size w W' := by
  refine (rOwn_any h hlen kind no).mono ?_
  rintro e W' ⟨⟨x, b, hc, rfl⟩, hb⟩
  refine ⟨⟨x.1, x.2.1, ?_⟩, hb⟩
  rcases hc with ⟨hx, rfl⟩ | ⟨hx, rfl, rfl⟩
  · obtain ⟨e1, e2⟩ := ht.find_some hx
    rw [e1, e2]
  · rw [ht.find_none hx]; rfl
theorem cntTo_other {V : Vs} {k k' i : Nat} {t : Vt} (hne : k' ≠ k) (j : Nat) : cntTo (updV V k i t) k' j = cntTo V k' j := by
  induction j with
  | zero => rfl
  | succ j ih =>
    simp only [cntTo, ih]
    rw [show updV V k i t k' j = V k' j by simp [updV, hne]]
/-- The votes behind a vote. -/
def addL (b : Bool) (l : List Vo) (a : Vo) : List Vo := if b = true then l ++ [a] else l
theorem Tie.vote {f : Nat} {l : List Vo} {V V' : Vs} (h : Tie f l V) {kind no : Int} {t g : List UInt8} {b : Bool} {E : Int} (hR : voteR V f kind no t g = (b, E, V')) : Tie f (addL b l (kind, no, t, g)) V' := by
  unfold voteR at hR
  split at hR
  · simp only [Prod.mk.injEq] at hR
    obtain ⟨rfl, _, rfl⟩ := hR
    exact h
  · rename_i hE
    obtain ⟨hok, _, hg, _⟩ := faultE_0 (by simpa using hE : faultE (okV f kind no) false t g = 0)
    split at hR
    · simp only [Prod.mk.injEq] at hR
      obtain ⟨rfl, _, rfl⟩ := hR
      exact h
    · rename_i hv
      simp only [Prod.mk.injEq] at hR
      obtain ⟨rfl, _, rfl⟩ := hR
      obtain ⟨k, i, hk, rfl, rfl, hi⟩ := okV_t hok
      rw [ownV_at hk hi] at hv
      have hv : isV (V k i).2 = false := by simpa using hv
      have hgv : isV g = true := by
        have : g ≠ [] := fun e => by rw [e] at hg; cases hg
        simp [isV, this]
      rw [show ((k : Int) + 1 - 1).toNat = k by omega, Int.toNat_natCast]
      unfold addL
      rw [if_pos rfl]
      refine ⟨fun a ha => ?_, fun k' i' hk' hi' => ?_, fun kind' => ?_⟩
      · rcases List.mem_append.1 ha with ha | ha
        · obtain ⟨k', i', h1, h2, h3, h4, h5, h6⟩ := h.ok a ha
          refine ⟨k', i', h1, h2, h3, h4, ?_, h6⟩
          have : ¬ (k' = k ∧ i' = i) := by
            rintro ⟨rfl, rfl⟩
            rw [h5] at hv
            simp only at hv
            rw [hv] at h6; cases h6
          unfold updV
          rw [if_neg this]; exact h5
        · simp at ha
          subst ha
          exact ⟨k, i, hk, hi, rfl, rfl, by simp [updV], hgv⟩
      · by_cases e : k' = k ∧ i' = i
        · obtain ⟨rfl, rfl⟩ := e
          refine ⟨fun _ => ⟨_, List.mem_append_right _ (List.mem_singleton.2 rfl), rfl, rfl⟩, fun h2 => ?_⟩
          rw [show updV V k' i' (t, g) k' i' = (t, g) by simp [updV]] at h2
          simp only at h2
          rw [hgv] at h2; cases h2
        · rw [show updV V k i (t, g) k' i' = V k' i' by unfold updV; rw [if_neg e]]
          obtain ⟨h1, h2⟩ := h.all k' i' hk' hi'
          refine ⟨fun hh => ?_, h2⟩
          obtain ⟨a, ha, e1, e2⟩ := h1 hh
          exact ⟨a, List.mem_append_left _ ha, e1, e2⟩
      · rw [cntK_snoc, h.cnt]
        by_cases e : (k : Int) + 1 = kind'
        · subst e
          rw [votesN_upd hk hi hv hgv, if_pos rfl]
        · rw [if_neg e]
          unfold votesN
          cases hkk : isK kind'
          · rfl
          · obtain ⟨k', hk', rfl⟩ := isK_t hkk
            simp only [if_true]
            rw [show ((k' : Int) + 1 - 1).toNat = k' by omega, cntTo_other (by omega)]; rfl
set_option maxRecDepth 20000 in
set_option maxHeartbeats 4000000 in
theorem rVotes_any {base : Nat} {w : World} {R : Nat} {v : Value} {gr : Int} {f p : Nat} {l : List Vo} (h : RefAt base w R v gr f p l) (hlen : l.length ≤ 1000) (kind : Int) : Calls Try.prog 20 #[.pointer (some ⟨R, 0, none⟩), .int .i64 kind] w fun e W' => e = .returned (.int .i64 (cntK kind l)) ∧ Below w.heap.size w W' := by
  obtain ⟨va, vc, rfl⟩ := h.slice
  have c3 := h.c.2.2.2
  have HW : Hid (∀ W, Below w.heap.size w W → _) := fun W hW => owns_next h.own hW
  have cnt_take : ∀ (k : Nat) (a : Vo), l[k]? = some a → cntK kind (l.take (k + 1)) = cntK kind (l.take k) + if a.1 = kind then 1 else 0 := by
    intro k a ha
    obtain ⟨hk, e⟩ := List.getElem?_eq_some_iff.1 ha
    rw [List.take_succ_eq_append_getElem hk, e, cntK_snoc]
  have cnt_le : ∀ m : List Vo, cntK kind m ≤ m.length := by
    intro m
    induction m with
    | nil => simp [cntK]
    | cons a r ih => simp only [cntK, List.length_cons]; split <;> omega
  have HC : Hid (_ ∧ _) := ⟨cnt_take, cnt_le⟩
  clear h cnt_take cnt_le
  go_enter Try.func20, Try.ntmps20
  go_wp2_with fail
  go_loopg [5, 13] l.length (fun gk c i wr => ∃ k : Nat, k + gk = l.length ∧ i = .int .i64 k ∧ c = .int .i64 (cntK kind (l.take k)) ∧ Below w.heap.size w wr)
  case atStart => exact ⟨0, by omega, rfl, rfl, Below.refl _ _⟩
  case round =>
    obtain ⟨k, hk, rfl, rfl, hB⟩ := hrel
    by_cases hlt : k < l.length
    · obtain ⟨⟨k5, n5, t5, g5⟩, ha⟩ : ∃ a, l[k]? = some a := ⟨_, List.getElem?_eq_getElem hlt⟩
      obtain ⟨gb, cap, hv, hg1, hg2, x0, x1, x2, x3⟩ := vrow_at (HW.out _ hB) ha
      injection hv with e1 _ e2
      subst e1 e2
      simp only at x0 x1 x2 x3
      have m0 : (0 : Int) ≤ (k : Int) := by omega
      have m1 : (k : Int) < (l.length : Int) := by omega
      have HS : Hid (_) := HC.out.1 k _ ha
      have hcl := HC.out.2 (l.take k)
      rw [List.length_take] at hcl
      obtain ⟨C, hC⟩ : ∃ C, cntK kind (l.take k) = C := ⟨_, rfl⟩
      rw [hC] at HS hcl ⊢
      have hc2 : (C : Int) ≤ 1000 := by omega
      have hBa := hB.alloc hB.size (.cells #[.int .i64 k5, .int .i64 n5, .string (bs t5), .string (bs g5)] 39)
      have HBa : Hid (_) := hBa
      clear ha hC hBa hg1
      by_cases h1 : k5 = kind
      · have HS2 : Hid (cntK kind (l.take (k + 1)) = C + 1) := by show _ = _; rw [HS.out, if_pos h1]
        subst h1
        go_wp2
        go_roundg (l.length - (k + 1))
        case measure => omega
        case rel => exact ⟨k + 1, by omega, by go_num, by rw [HS2.out]; go_num, HBa.out⟩
      · have HS2 : Hid (cntK kind (l.take (k + 1)) = C) := by show _ = _; rw [HS.out, if_neg h1]; rfl
        have h1b : (k5 == kind) = false := by simpa using h1
        go_wp2
        go_roundg (l.length - (k + 1))
        case measure => omega
        case rel => exact ⟨k + 1, by omega, by go_num, by rw [HS2.out], HBa.out⟩
    · have hkl : k = l.length := by omega
      subst hkl
      rw [List.take_length]
      go_wp2
      go_ret
      exact ⟨rfl, hB⟩
end Go.Proofs.Ytoehmpcfmpkbnaa
