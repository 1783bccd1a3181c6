/- The plain marks: the votes that count as a list, and how they stand beside the program's. -/
import Derived.Test.YtmggfkhfiggloaaDoorMkI
namespace Go.Proofs.YtmggfkhfiggloaaDoor

/-- A vote of the plain marks: the replica, the number, the state, the tag. -/
structure Rv where
  no : Int
  n : Int
  st : List UInt8
  tg : List UInt8
/-- The number of a replica's vote. -/
def rOf : List Rv → Int → Int
  | [], _ => 0
  | x :: l, no => if x.no = no then x.n else rOf l no
/-- A vote in the place of the replica's. -/
def rPut (l : List Rv) (v : Rv) : List Rv := (l.filter fun x => decide (x.no ≠ v.no)) ++ [v]
def rHas (no n : Int) (st : List UInt8) (x : Rv) : Bool := decide (x.no = no) && (decide (x.n = n) && decide (x.st = st))
/-- The tags of one replica, of the first votes. -/
def rRow (l : List Rv) (no n : Int) (st : List UInt8) : List Tg := (l.filter (rHas no n st)).map fun x => (no, x.tg)
/-- The tags of the first replicas. -/
def rTags (l : List Rv) (n : Int) (st : List UInt8) : Nat → List Tg
  | 0 => []
  | j + 1 => rTags l n st j ++ rRow l j n st
/-- The plain marks. -/
structure Rs where
  L : List Rv
  n : Int
  s : List UInt8
  t : List UInt8
  g : Int
  T : List Tg
def rs0 : Rs := ⟨[], 0, [], [], 0, []⟩
def rvoteR (g : Int) (f : Nat) (r : Rs) (no n : Int) (st tg : List UInt8) : Bool × Int × Rs :=
  if tofE g f no n st ≠ 0 then (false, tofE g f no n st, r)
  else if tg.length ≠ 16 then (false, 4, r)
  else if n ≤ rOf r.L no then (false, 0, r)
  else if n ≤ r.n ∨ (rTags (rPut r.L ⟨no, n, st, tg⟩) n st (3 * f + 1)).length < 2 * f + 1 then (false, 0, { r with L := rPut r.L ⟨no, n, st, tg⟩ })
  else (true, 0, ⟨rPut r.L ⟨no, n, st, tg⟩, n, st, textV g n st, g, rTags (rPut r.L ⟨no, n, st, tg⟩) n st (3 * f + 1)⟩)
def radoptR (g : Int) (r : Rs) (ct : List UInt8) (cg : Int) (T : List Tg) : Bool × Int × Rs :=
  if readE ct ≠ 0 ∨ (readV ct).1 ≠ g ∨ cg ≠ g then (false, 4, r)
  else if (readV ct).2.1 ≤ r.n then (false, 0, r)
  else (true, 0, ⟨r.L, (readV ct).2.1, (readV ct).2.2, ct, cg, T⟩)
/-- The same votes. -/
structure Rel (V : Nat → Vt) (L : List Rv) (f : Nat) : Prop where
  mem : ∀ x ∈ L, 0 ≤ x.no ∧ x.no ≤ 3 * (f : Int) ∧ V x.no.toNat = (x.n, x.st, x.tg) ∧ 1 ≤ x.n
  nod : (L.map (·.no)).Nodup
  all : ∀ i : Nat, (V i).1 ≠ 0 → ∃ x ∈ L, x.no = i
theorem Rel.zero (f : Nat) : Rel st0.V [] f := ⟨(fun x h => by cases h), (by simp), fun i h => absurd rfl h⟩
theorem rOf_none {l : List Rv} {no : Int} (h : ∀ x ∈ l, x.no ≠ no) : rOf l no = 0 := by
  induction l with
  | nil => rfl
  | cons a l ih => rw [rOf, if_neg (h a (by simp)), ih (fun x hx => h x (by simp [hx]))]
theorem rOf_some {l : List Rv} {x : Rv} (hn : (l.map (·.no)).Nodup) (hx : x ∈ l) : rOf l x.no = x.n := by
  induction l with
  | nil => cases hx
  | cons a l ih =>
    rw [List.map_cons, List.nodup_cons] at hn
    rw [rOf]
    rcases List.mem_cons.1 hx with rfl | h
    · rw [if_pos rfl]
    · rw [if_neg, ih hn.2 h]
      intro e
      exact hn.1 (List.mem_map.2 ⟨x, h, e.symm⟩)
theorem Rel.at {V : Nat → Vt} {L : List Rv} {f : Nat} (h : Rel V L f) (i : Nat) : rOf L i = (V i).1 := by
  by_cases h0 : (V i).1 = 0
  · rw [h0]
    refine rOf_none fun x hx e => ?_
    obtain ⟨_, _, h3, h4⟩ := h.mem x hx
    rw [e, Int.toNat_natCast] at h3
    rw [h3] at h0
    simp only at h0
    omega
  · obtain ⟨x, hx, e⟩ := h.all i h0
    have h3 := (h.mem x hx).2.2.1
    rw [← e, rOf_some h.nod hx]
    rw [e, Int.toNat_natCast] at h3
    rw [h3]
theorem Rel.of {L : List Rv} {f : Nat} {s : St} (h : Rel s.V L f) (no : Int) : rOf L no = ofN s f no := by
  unfold ofN
  split
  · rename_i hr
    obtain ⟨r0, r1⟩ := inR_t hr
    obtain ⟨i, rfl⟩ : ∃ i : Nat, no = i := ⟨no.toNat, by omega⟩
    rw [Int.toNat_natCast]
    exact h.at i
  · rename_i hr
    refine rOf_none fun x hx e => ?_
    obtain ⟨h1, h2, _, _⟩ := h.mem x hx
    apply hr
    rw [← e]
    simp [inR, h1, h2]
theorem Rel.put {V : Nat → Vt} {L : List Rv} {f : Nat} (h : Rel V L f) {i : Nat} (hi : i ≤ 3 * f) {n : Int} (hn : 1 ≤ n) (st tg : List UInt8) : Rel (updV V i (n, st, tg)) (rPut L ⟨i, n, st, tg⟩) f := by
  refine ⟨fun x hx => ?_, ?_, fun j hj => ?_⟩
  · rcases List.mem_append.1 hx with hx | hx
    · obtain ⟨hx, hne⟩ := List.mem_filter.1 hx
      have hne : x.no ≠ i := by simpa using hne
      obtain ⟨h1, h2, h3, h4⟩ := h.mem x hx
      refine ⟨h1, h2, ?_, h4⟩
      unfold updV
      rw [if_neg (by omega)]
      exact h3
    · rw [List.mem_singleton.1 hx]
      refine ⟨by simp, by simp; omega, ?_, hn⟩
      simp [updV]
  · rw [rPut, List.map_append, List.map_cons, List.map_nil, List.nodup_append]
    refine ⟨(List.filter_sublist.map _).nodup h.nod, by simp, fun a ha b hb => ?_⟩
    obtain ⟨x, hx, rfl⟩ := List.mem_map.1 ha
    have hne : x.no ≠ i := by simpa using (List.mem_filter.1 hx).2
    simp at hb
    rw [hb]
    exact hne
  · unfold updV at hj
    split at hj
    · rename_i e
      exact ⟨⟨i, n, st, tg⟩, by simp [rPut], by rw [e]⟩
    · rename_i e
      obtain ⟨x, hx, hxj⟩ := h.all j hj
      exact ⟨x, List.mem_append_left _ (List.mem_filter.2 ⟨hx, by simp; omega⟩), hxj⟩
theorem filter_one {l : List Rv} {no n : Int} {st : List UInt8} (hn : (l.map (·.no)).Nodup) : ∀ {x : Rv}, x ∈ l → x.no = no → x.n = n → x.st = st → l.filter (rHas no n st) = [x] := by
  induction l with
  | nil => intro x hx; cases hx
  | cons a l ih =>
    intro x hx e1 e2 e3
    rw [List.map_cons, List.nodup_cons] at hn
    have hnone : ∀ y ∈ l, y.no = a.no → False := fun y hy e => hn.1 (List.mem_map.2 ⟨y, hy, e⟩)
    rcases List.mem_cons.1 hx with rfl | h
    · rw [List.filter_cons, if_pos (by simp [rHas, e1, e2, e3])]
      congr 1
      rw [List.filter_eq_nil_iff]
      intro y hy hh
      have : y.no = no := by simp [rHas] at hh; exact hh.1
      exact hnone y hy (by rw [this, e1])
    · rw [List.filter_cons, if_neg]
      · exact ih hn.2 h e1 e2 e3
      · intro hh
        have : a.no = no := by simp [rHas] at hh; exact hh.1
        exact hnone x h (by rw [this, e1])
theorem Rel.row {V : Nat → Vt} {L : List Rv} {f : Nat} (h : Rel V L f) {n : Int} (hn : 1 ≤ n) (st : List UInt8) (i : Nat) : rRow L i n st = if hasS (V i) n st = true then [((i : Int), (V i).2.2)] else [] := by
  unfold rRow
  split
  · rename_i hh
    have hv : (V i).1 = n ∧ (V i).2.1 = st := by simpa [hasS] using hh
    obtain ⟨x, hx, e⟩ := h.all i (by omega)
    have h3 := (h.mem x hx).2.2.1
    rw [e, Int.toNat_natCast] at h3
    rw [filter_one h.nod hx e (by rw [← hv.1, h3]) (by rw [← hv.2, h3])]
    rw [h3]
    rfl
  · rename_i hh
    have : L.filter (rHas i n st) = [] := by
      rw [List.filter_eq_nil_iff]
      intro x hx hr
      have hr : x.no = i ∧ x.n = n ∧ x.st = st := by simpa [rHas] using hr
      have h3 := (h.mem x hx).2.2.1
      rw [hr.1, Int.toNat_natCast] at h3
      apply hh
      rw [h3]
      simp [hasS, hr.2.1, hr.2.2]
    rw [this]
    rfl
theorem Rel.tags {V : Nat → Vt} {L : List Rv} {f : Nat} (h : Rel V L f) {n : Int} (hn : 1 ≤ n) (st : List UInt8) (m : Nat) : rTags L n st m = tagsTo V n st m := by
  induction m with
  | zero => rfl
  | succ m ih => rw [rTags, tagsTo, ih, h.row hn st m]
theorem Rel.out {V : Nat → Vt} {L : List Rv} {f : Nat} (h : Rel V L f) {i : Nat} (hi : 3 * f < i) : (V i).1 = 0 := by
  by_cases h0 : (V i).1 = 0
  · exact h0
  · obtain ⟨x, hx, e⟩ := h.all i h0
    have := (h.mem x hx).2.1
    omega
theorem Rel.tags10 {V : Nat → Vt} {L : List Rv} {f : Nat} (h : Rel V L f) (hf : f ≤ 3) {n : Int} (hn : 1 ≤ n) (st : List UInt8) : rTags L n st (3 * f + 1) = tagsTo V n st 10 := by
  rw [h.tags hn]
  have key : ∀ k, tagsTo V n st (3 * f + 1 + k) = tagsTo V n st (3 * f + 1) := by
    intro k
    induction k with
    | zero => rfl
    | succ k ih =>
      rw [← Nat.add_assoc, tagsTo, ih, if_neg, List.append_nil]
      have := h.out (i := 3 * f + 1 + k) (by omega)
      simp [hasS]
      omega
  have := key (10 - (3 * f + 1))
  rw [← this]
  congr 1
  omega
theorem rPut_len (l : List Rv) (v : Rv) : (rPut l v).length ≤ l.length + 1 := by
  have := List.length_filter_le (fun x => decide (x.no ≠ v.no)) l
  simp only [rPut, List.length_append, List.length_cons, List.length_nil]
  omega
theorem rRow_len (l : List Rv) (no n : Int) (st : List UInt8) : (rRow l no n st).length ≤ l.length := by
  simp only [rRow, List.length_map]
  exact List.length_filter_le _ _
theorem rTags_len (l : List Rv) (n : Int) (st : List UInt8) (m : Nat) : (rTags l n st m).length ≤ m * l.length := by
  induction m with
  | zero => simp [rTags]
  | succ m ih =>
    have := rRow_len l m n st
    simp only [rTags, List.length_append, Nat.add_mul]
    omega
theorem rvote_len {g : Int} {f : Nat} {r r' : Rs} {no n : Int} {st tg : List UInt8} {b : Bool} {E : Int} (h : rvoteR g f r no n st tg = (b, E, r')) : r'.L.length ≤ r.L.length + 1 := by
  have := rPut_len r.L ⟨no, n, st, tg⟩
  unfold rvoteR at h
  split at h
  · simp only [Prod.mk.injEq] at h; obtain ⟨_, _, rfl⟩ := h; omega
  · split at h
    · simp only [Prod.mk.injEq] at h; obtain ⟨_, _, rfl⟩ := h; omega
    · split at h
      · simp only [Prod.mk.injEq] at h; obtain ⟨_, _, rfl⟩ := h; omega
      · split at h
        · simp only [Prod.mk.injEq] at h; obtain ⟨_, _, rfl⟩ := h; exact this
        · simp only [Prod.mk.injEq] at h; obtain ⟨_, _, rfl⟩ := h; exact this
theorem radopt_len {g : Int} {r r' : Rs} {ct : List UInt8} {cg : Int} {T : List Tg} {b : Bool} {E : Int} (h : radoptR g r ct cg T = (b, E, r')) : r'.L = r.L := by
  unfold radoptR at h
  split at h
  · simp only [Prod.mk.injEq] at h; obtain ⟨_, _, rfl⟩ := h; rfl
  · split at h
    · simp only [Prod.mk.injEq] at h; obtain ⟨_, _, rfl⟩ := h; rfl
    · simp only [Prod.mk.injEq] at h; obtain ⟨_, _, rfl⟩ := h; rfl
/-- Program's and plain marks in the same state. -/
structure Same (s : St) (r : Rs) (f : Nat) : Prop where
  rel : Rel s.V r.L f
  n : s.n = r.n
  st : s.s = r.s
  t : s.t = r.t
  g : s.g = r.g
  T : s.T = r.T
theorem same0 (f : Nat) : Same st0 rs0 f := ⟨Rel.zero f, rfl, rfl, rfl, rfl, rfl⟩
theorem Same.vote {s s' : St} {r : Rs} {f : Nat} (h : Same s r f) (hf : f ≤ 3) {g no n : Int} {st tg : List UInt8} {b : Bool} {E : Int} (hR : voteR g f s no n st tg = (b, E, s')) : ∃ r', rvoteR g f r no n st tg = (b, E, r') ∧ Same s' r' f := by
  unfold voteR at hR
  unfold rvoteR
  split at hR
  · rename_i hE
    simp only [Prod.mk.injEq] at hR
    obtain ⟨rfl, rfl, rfl⟩ := hR
    rw [if_pos hE]
    exact ⟨_, rfl, h⟩
  · rename_i hE
    rw [if_neg hE]
    have hE0 : tofE g f no n st = 0 := by simpa using hE
    have hno : inR no 0 (3 * (f : Int)) = true := by
      unfold tofE at hE0
      split at hE0
      · assumption
      · cases hE0
    have hn : 1 ≤ n := by
      unfold tofE at hE0
      rw [if_pos hno] at hE0
      have h1 := (textE_zero hE0).1
      simp only [inT, Bool.and_eq_true] at h1
      exact (inR_t h1.2).1
    obtain ⟨r0, r1⟩ := inR_t hno
    obtain ⟨i, rfl⟩ : ∃ i : Nat, no = i := ⟨no.toNat, by omega⟩
    rw [Int.toNat_natCast] at hR
    split at hR
    · rename_i ht
      simp only [Prod.mk.injEq] at hR
      obtain ⟨rfl, rfl, rfl⟩ := hR
      rw [if_pos ht]
      exact ⟨_, rfl, h⟩
    · rename_i ht
      rw [if_neg ht, h.rel.at i]
      split at hR
      · rename_i hl
        simp only [Prod.mk.injEq] at hR
        obtain ⟨rfl, rfl, rfl⟩ := hR
        rw [if_pos hl]
        exact ⟨_, rfl, h⟩
      · rename_i hl
        have hp := h.rel.put (i := i) (by omega) hn st tg
        rw [if_neg hl, hp.tags10 hf hn, ← h.n]
        split at hR
        · rename_i hc
          simp only [Prod.mk.injEq] at hR
          obtain ⟨rfl, rfl, rfl⟩ := hR
          rw [if_pos hc]
          exact ⟨_, rfl, hp, rfl, h.st, h.t, h.g, h.T⟩
        · rename_i hc
          simp only [Prod.mk.injEq] at hR
          obtain ⟨rfl, rfl, rfl⟩ := hR
          rw [if_neg hc]
          exact ⟨_, rfl, hp, rfl, rfl, rfl, rfl, rfl⟩
theorem Same.adopt {s s' : St} {r : Rs} {f : Nat} (h : Same s r f) {g : Int} {ct : List UInt8} {cg : Int} {T : List Tg} {b : Bool} {E : Int} (hR : adoptR g s ct cg T = (b, E, s')) : ∃ r', radoptR g r ct cg T = (b, E, r') ∧ Same s' r' f := by
  unfold adoptR at hR
  unfold radoptR
  rw [← h.n]
  split at hR
  · rename_i hE
    simp only [Prod.mk.injEq] at hR
    obtain ⟨rfl, rfl, rfl⟩ := hR
    rw [if_pos hE]
    exact ⟨_, rfl, h⟩
  · rename_i hE
    rw [if_neg hE]
    split at hR
    · rename_i hc
      simp only [Prod.mk.injEq] at hR
      obtain ⟨rfl, rfl, rfl⟩ := hR
      rw [if_pos hc]
      exact ⟨_, rfl, h⟩
    · rename_i hc
      simp only [Prod.mk.injEq] at hR
      obtain ⟨rfl, rfl, rfl⟩ := hR
      rw [if_neg hc]
      exact ⟨_, rfl, h.rel, rfl, rfl, rfl, rfl, rfl⟩
end Go.Proofs.YtmggfkhfiggloaaDoor
