/- Histories that keep the rules: the points' order is one map's, plain. -/
import Derived.Test.YtdfonbhboncjmaaDoorPvA
namespace Go.Proofs.YtdfonbhboncjmaaDoor
open Go.RowKit Go.Maps

/-- Where a call's point stands. -/
def atP (pts : List Pt) (c : Cl) : Int := fstB (fun i => decide ((pts.map pk2)[i]? = some (ck c))) pts.length
theorem fstB_some {P : Nat → Bool} {n : Nat} (h : 0 ≤ fstB P n) : ∃ i : Nat, fstB P n = i ∧ i < n ∧ P i = true := by
  unfold fstB at h ⊢
  cases e : (List.range n).find? P with
  | none => rw [e] at h; exact absurd h (by decide)
  | some i =>
    have := List.find?_some e
    have h2 := List.mem_of_find?_eq_some e
    exact ⟨i, rfl, List.mem_range.1 h2, this⟩
theorem fstB_neg {P : Nat → Bool} {n : Nat} (h : fstB P n < 0) : ∀ j, j < n → P j = false := by
  refine fstB_inv ?_
  unfold fstB at h ⊢
  cases e : (List.range n).find? P with
  | none => rfl
  | some i => rw [e] at h; exact absurd h (by show ¬ ((i : Int) < 0); omega)
theorem chkG_inv {calls : List Cl} {pts : List Pt} (h : (chkG calls pts).1 = 0) : ∀ r, r < 4 → Rl calls pts r = -1 := by
  unfold chkG at h
  by_cases e0 : Rl calls pts 0 = -1
  · rw [if_neg (fun f => f e0)] at h
    by_cases e1 : Rl calls pts 1 = -1
    · rw [if_neg (fun f => f e1)] at h
      by_cases e2 : Rl calls pts 2 = -1
      · rw [if_neg (fun f => f e2)] at h
        by_cases e3 : Rl calls pts 3 = -1
        · intro r hr
          rcases r with _ | _ | _ | _ | r
          · exact e0
          · exact e1
          · exact e2
          · exact e3
          · omega
        · rw [if_pos e3] at h; exact absurd h (by simp)
      · rw [if_pos e2] at h; exact absurd h (by simp)
    · rw [if_pos e1] at h; exact absurd h (by simp)
  · rw [if_pos e0] at h; exact absurd h (by simp)
/-- No rule is broken. -/
structure Kept (calls : List Cl) (pts : List Pt) : Prop where
  r1 : ∀ i, i < calls.length → P1 calls i = false
  r2 : ∀ i, i < pts.length → P2 calls pts i = false
  r3 : ∀ i, i < calls.length → P3 calls pts i = false
  r4 : ∀ i, i < pts.length → P4 calls pts i = false
theorem Kept.of {calls : List Cl} {pts : List Pt} (h : (chkG calls pts).1 = 0) : Kept calls pts :=
  ⟨fstB_inv (chkG_inv h 0 (by decide)), fstB_inv (chkG_inv h 1 (by decide)), fstB_inv (chkG_inv h 2 (by decide)), fstB_inv (chkG_inv h 3 (by decide))⟩
section
variable {calls : List Cl} {pts : List Pt}
theorem Kept.behind (h : Kept calls pts) {i : Nat} {c : Cl} (hc : calls[i]? = some c) : okCall c = true ∧ (lastC calls c.cl i).no < c.no := by
  have hi := (List.getElem?_eq_some_iff.1 hc).1
  have := h.r1 i hi
  rw [P1_at hc, Bool.or_eq_false_iff, Bool.not_eq_false', Bool.not_eq_false'] at this
  refine ⟨this.1, ?_⟩
  have h2 := this.2
  simp only [Go.Proofs.YtdfonbhboncjmaaDoor.behind, Bool.and_eq_true, decide_eq_true_eq] at h2
  exact h2.1.1
theorem Kept.last (h : Kept calls pts) : ∀ n, n ≤ calls.length → ∀ i x, i < n → calls[i]? = some x → x.no ≤ (lastC calls x.cl n).no
  | 0, _, i, x, hi, _ => by omega
  | n + 1, hn, i, x, hi, hx => by
    obtain ⟨y, hy⟩ : ∃ y, calls[n]? = some y := ⟨_, List.getElem?_eq_getElem (by omega)⟩
    rw [lastC_succ hy]
    by_cases e : y.cl = x.cl
    · rw [if_pos e]
      by_cases ei : i = n
      · subst ei
        rw [hy] at hx
        injection hx with hx
        subst hx
        omega
      · have h1 := Kept.last h n (by omega) i x (by omega) hx
        have h2 := (h.behind hy).2
        rw [e] at h2
        omega
    · rw [if_neg e]
      have ei : i ≠ n := fun ei => by
        subst ei
        rw [hy] at hx
        injection hx with hx
        exact e (by rw [hx])
      exact Kept.last h n (by omega) i x (by omega) hx
theorem Kept.lt_uniq (h : Kept calls pts) {i j : Nat} {x y : Cl} (hx : calls[i]? = some x) (hy : calls[j]? = some y) (hk : ck x = ck y) (hij : i < j) : False := by
  have hj := (List.getElem?_eq_some_iff.1 hy).1
  have h1 := h.last j (by omega) i x hij hx
  have h2 := (h.behind hy).2
  have e1 : x.cl = y.cl := congrArg Prod.fst hk
  have e2 : x.no = y.no := congrArg Prod.snd hk
  rw [e1] at h1
  omega
theorem Kept.uniq (h : Kept calls pts) {i j : Nat} {x y : Cl} (hx : calls[i]? = some x) (hy : calls[j]? = some y) (hk : ck x = ck y) : i = j := by
  rcases Nat.lt_trichotomy i j with e | e | e
  · exact (h.lt_uniq hx hy hk e).elim
  · exact e
  · exact (h.lt_uniq hy hx hk.symm e).elim
/-- A point's own call. -/
theorem Kept.own (h : Kept calls pts) {i : Nat} {p : Pt} (hp : pts[i]? = some p) : ∃ (j : Nat) (c : Cl), calls[j]? = some c ∧ ck c = pk2 p ∧ callOf calls p = some c ∧ hasM c p.tm = true ∧ prevT pts i ≤ p.tm := by
  have hi := (List.getElem?_eq_some_iff.1 hp).1
  have h2 := h.r2 i hi
  rw [P2_at hp] at h2
  simp only [Bool.or_eq_false_iff, Bool.not_eq_false', decide_eq_false_iff_not] at h2
  obtain ⟨⟨⟨h3, h4⟩, h5⟩, -⟩ := h2
  cases e : lastI (calls.map ck) p.cl p.no calls.length with
  | none => rw [callOf, e] at h4; cases h4
  | some j =>
    obtain ⟨c, hc, _, hco⟩ := callOf_lt e
    obtain ⟨_, hk⟩ := lastI_some e
    rw [List.getElem?_map, hc] at hk
    have hk' : ck c = (p.cl, p.no) := Option.some.inj hk
    rw [hco] at h5
    exact ⟨j, c, hc, hk', hco, h5, by omega⟩
theorem Kept.mono (h : Kept calls pts) : ∀ (d : Nat) (k : Nat) (p q : Pt), pts[k]? = some p → pts[k + d]? = some q → p.tm ≤ q.tm
  | 0, k, p, q, hp, hq => by rw [Nat.add_zero, hp] at hq; injection hq with hq; subst hq; omega
  | d + 1, k, p, q, hp, hq => by
    have hi := (List.getElem?_eq_some_iff.1 hq).1
    obtain ⟨r, hr⟩ : ∃ r, pts[k + d]? = some r := ⟨_, List.getElem?_eq_getElem (by omega)⟩
    have h1 := Kept.mono h d k p r hp hr
    obtain ⟨_, _, _, _, _, _, h2⟩ := h.own (i := k + d + 1) hq
    have e : prevT pts (k + d + 1) = r.tm := by show (match pts[k + d]? with | some p => p.tm | none => 0) = r.tm; rw [hr]
    rw [e] at h2
    omega
theorem at_key {c : Cl} {i : Nat} (h : decide ((pts.map pk2)[i]? = some (ck c)) = true) : ∃ p, pts[i]? = some p ∧ pk2 p = ck c := by
  have h := of_decide_eq_true h
  rw [List.getElem?_map] at h
  cases e : pts[i]? with
  | none => rw [e] at h; cases h
  | some p => rw [e] at h; exact ⟨p, rfl, Option.some.inj h⟩
/-- Each call that was answered has a point. -/
theorem Kept.there (h : Kept calls pts) {i : Nat} {a : Cl} (ha : calls[i]? = some a) (ht : a.tt ≠ -1) : 0 ≤ atP pts a := by
  have hi := (List.getElem?_eq_some_iff.1 ha).1
  have h3 := h.r3 i hi
  rw [P3_at ha, decide_eq_true ht, Bool.and_true, Bool.not_eq_false'] at h3
  cases e : lastI (pts.map pk2) a.cl a.no pts.length with
  | none => rw [e] at h3; cases h3
  | some j =>
    obtain ⟨hj, hk⟩ := lastI_some e
    refine Int.not_lt.1 fun hn => ?_
    have := fstB_neg hn j hj
    exact of_decide_eq_false this hk
/-- No call that was answered ahead of another one's asking stands behind it. -/
theorem Kept.order (h : Kept calls pts) {i j : Nat} {a b : Cl} (ha : calls[i]? = some a) (hb : calls[j]? = some b) (ht : a.tt ≠ -1) (hab : a.tt < b.fr) (hk : 0 ≤ atP pts b) : ¬ atP pts b ≤ atP pts a := by
  intro hle
  obtain ⟨k, e1, _, h1⟩ := fstB_some hk
  obtain ⟨m, e2, _, h2⟩ := fstB_some (show 0 ≤ atP pts a by omega)
  obtain ⟨p, hp, kp⟩ := at_key h1
  obtain ⟨q, hq, kq⟩ := at_key h2
  have hkm : k ≤ m := by
    have e1' : atP pts b = k := e1
    have e2' : atP pts a = m := e2
    omega
  obtain ⟨jp, cp, g1, g2, _, g3, _⟩ := h.own hp
  obtain ⟨jq, cq, f1, f2, _, f3, _⟩ := h.own hq
  have u1 := h.uniq g1 hb (g2.trans kp)
  have u2 := h.uniq f1 ha (f2.trans kq)
  subst u1
  subst u2
  rw [hb] at g1
  rw [ha] at f1
  injection g1 with g1
  injection f1 with f1
  subst g1
  subst f1
  simp only [hasM, Bool.and_eq_true, Bool.or_eq_true, decide_eq_true_eq] at g3 f3
  have hm := h.mono (m - k) k p q hp (by rw [show k + (m - k) = m by omega]; exact hq)
  rcases f3.2 with e | e
  · exact ht e
  · omega
/-- The operations of a point's calls, of the first m. -/
def mt (calls : List Cl) (p : Pt) : Nat → List Opr
  | 0 => []
  | m + 1 => mt calls p m ++ (match calls[m]? with | some c => if c.cl = p.cl ∧ c.no = p.no then [c.op] else [] | none => [])
theorem mt_succ {p : Pt} {m : Nat} {c : Cl} (h : calls[m]? = some c) : mt calls p (m + 1) = mt calls p m ++ (if c.cl = p.cl ∧ c.no = p.no then [c.op] else []) := by
  show mt calls p m ++ (match calls[m]? with | some c => if c.cl = p.cl ∧ c.no = p.no then [c.op] else [] | none => []) = _
  rw [h]
theorem Kept.mt_at (h : Kept calls pts) {i : Nat} {p : Pt} (hp : pts[i]? = some p) : ∃ j, j < calls.length ∧ ∀ m, m ≤ calls.length → mt calls p m = if j < m then [(callAt calls p).op] else [] := by
  obtain ⟨j, c, hc, hk, hco, _, _⟩ := h.own hp
  have hj := (List.getElem?_eq_some_iff.1 hc).1
  have hca : callAt calls p = c := by rw [callAt, hco]; rfl
  refine ⟨j, hj, fun m => ?_⟩
  rw [hca]
  induction m with
  | zero => intro _; rfl
  | succ m ih =>
    intro hm
    obtain ⟨y, hy⟩ : ∃ y, calls[m]? = some y := ⟨_, List.getElem?_eq_getElem (by omega)⟩
    rw [mt_succ hy, ih (by omega)]
    by_cases e : y.cl = p.cl ∧ y.no = p.no
    · have : m = j := h.uniq hy hc (by rw [hk]; exact Prod.ext e.1 e.2)
      subst this
      rw [hc] at hy
      injection hy with hy
      subst hy
      rw [if_pos e, if_neg (by omega), if_pos (by omega)]
      rfl
    · have : m ≠ j := fun e2 => by
        subst e2
        rw [hc] at hy
        injection hy with hy
        subst hy
        exact e ⟨congrArg Prod.fst hk, congrArg Prod.snd hk⟩
      rw [if_neg e, List.append_nil]
      by_cases e3 : j < m
      · rw [if_pos e3, if_pos (by omega)]
      · rw [if_neg e3, if_neg (by omega)]
theorem Kept.mt_all (h : Kept calls pts) {i : Nat} {p : Pt} (hp : pts[i]? = some p) : mt calls p calls.length = [(callAt calls p).op] := by
  obtain ⟨j, hj, hm⟩ := h.mt_at hp
  rw [hm _ (Nat.le_refl _), if_pos hj]
theorem Kept.mt_len (h : Kept calls pts) {i : Nat} {p : Pt} (hp : pts[i]? = some p) {m : Nat} (hm : m ≤ calls.length) : (mt calls p m).length ≤ 1 := by
  obtain ⟨j, _, he⟩ := h.mt_at hp
  rw [he m hm]
  split
  · exact Nat.le_refl _
  · exact Nat.zero_le _
/-- Each point's answer is what one map tells there. -/
theorem Kept.told (h : Kept calls pts) {i : Nat} {p : Pt} (hp : pts[i]? = some p) : (repl (fun _ => []) (opsOf calls pts))[i]? = some p.an := by
  have hi := (List.getElem?_eq_some_iff.1 hp).1
  have h4 := h.r4 i hi
  rw [P4_at hp, Bool.or_eq_false_iff] at h4
  have h5 := of_decide_eq_false h4.1
  have ho : (opsOf calls pts)[i]? = some (callAt calls p).op := by rw [opsOf, List.getElem?_map, hp]; rfl
  rw [repl_get _ _ _ _ ho]
  exact congrArg some (Classical.not_not.1 h5).symm
theorem opsOf_len (calls : List Cl) (pts : List Pt) : (opsOf calls pts).length = pts.length := by simp [opsOf]
end
end Go.Proofs.YtdfonbhboncjmaaDoor
