/- Chains: what is held in memory; within, Index, Contains, areGroups, mayOwn, isCommand, walked. -/
import Derived.Test.YtcehmaegnfelhaaProg
import Derived.Test.YtcehmaegnfelhaaChP
import Derived.WalkKit
import Derived.WalkSpells
import Derived.WalkLawsBesides
import Derived.BigRegion
import Derived.BigQuiet
import Derived.Deep.RegionHeld3
import Derived.Deep.DrawnRows
import Derived.Deep.DeepCutAuto
import Derived.Deep.CutBlock
import Derived.Deep.AppendLies
import Derived.Deep.RegionLaw
import Derived.Deep.LoopGhost
import Derived.Deep.MidRow
import Derived.OwnWalk
namespace Go.Proofs.Ytcehmaegnfelhaa
open Go.RowKit
attribute [local go_sem ↓] Go.wp_at_zero Go.wp_at_succ

theorem cellB {w : World} {B : Nat} {cs : Array Value} {t : TypeId} {fr : Nat × Nat} (h : w.heap[B]? = some (.cells cs t fr)) (j : Nat) (u : Value) (hu : cs[j]? = some u) : w.cell? ⟨B, j, none⟩ = some u := by
  unfold World.cell?; simp only [h]; exact hu
theorem frozenB {w : World} {B : Nat} {cs : Array Value} {t : TypeId} (h : w.heap[B]? = some (.cells cs t)) (j : Nat) : w.frozen? ⟨B, j, none⟩ = false := by
  unfold World.frozen?; simp [h]
theorem setB {w : World} {B : Nat} {cs : Array Value} {t : TypeId} {fr : Nat × Nat} (h : w.heap[B]? = some (.cells cs t fr)) (j : Nat) (a : Value) :
    (w.setCell ⟨B, j, none⟩ a).heap[B]? = some (.cells (cs.setIfInBounds j a) t fr) := by
  unfold World.setCell
  simp only [Array.getElem?_modify, if_true, h, Option.map_some]
  rfl
theorem set_far {w : World} {B k : Nat} (h : k ≠ B) (j : Nat) (u : Value) : (w.setCell ⟨B, j, none⟩ u).heap[k]? = w.heap[k]? := Below.heap_setCell _ _ _ _ h
theorem below_drew {n : Nat} {w w' : World} (h : Below n w w') : Below n w w'.drew := ⟨h.os, h.tape, h.output, h.size, h.block⟩
theorem owns_slice {w : World} {base n : Nat} {e : TypeId} {s : Nat} {v : Value} {xs : List Value} (h : w.ownsRow base e s v n xs) : ∃ a cap, v = .slice a n cap := by
  rcases h.2 with ⟨rfl, rfl⟩ | ⟨g, cap, cur, rfl, _⟩
  · exact ⟨none, 0, rfl⟩
  · exact ⟨_, cap, rfl⟩
theorem info_parts {P : Program} {E : TypeId} {z : Value} {s b : Nat} (h : (P.info? E).map (fun i => (i.zero, i.size, i.bytes)) = some (some z, s, b)) :
    ∃ i, P.info? E = some i ∧ i.zero = some z ∧ i.size = s ∧ i.bytes = b := by
  cases hi : P.info? E with
  | none => rw [hi] at h; cases h
  | some i => rw [hi] at h; simp at h; exact ⟨i, rfl, h.1, h.2.1, h.2.2⟩
/-- What a call leaves, beside what is held at all worlds behind W0. -/
theorem keepC {k : Nat} {args : Array Value} {v : Value} (hC : ∀ W, Calls Try.prog k args W fun e W' => e = .returned v ∧ Below W.heap.size W W') {W0 : World} {Z : World → Prop} (hZ : ∀ W', Below W0.heap.size W0 W' → Z W') :
    ∀ W, Below W0.heap.size W0 W → Calls Try.prog k args W fun e W' => e = .returned v ∧ Below W0.heap.size W0 W' ∧ Z W' := by
  intro W hW
  refine (hC W).mono ?_
  rintro e W' ⟨rfl, hb⟩
  have h2 := hW.trans (hb.mono hW.size)
  exact ⟨rfl, h2, hZ W' h2⟩
theorem owns_kept {w w' : World} {base n : Nat} {e : TypeId} {s : Nat} {v : Value} {xs : List Value} (h : w.ownsRow base e s v n xs) (hk : ∀ k, v.ownBlock = some k → w'.heap[k]? = w.heap[k]?) : w'.ownsRow base e s v n xs := by
  obtain ⟨hl, h | ⟨g, cap, cur, rfl, h2, h3, h4⟩⟩ := h
  · exact ⟨hl, .inl h⟩
  · exact ⟨hl, .inr ⟨g, cap, cur, rfl, h2, (hk g rfl).trans h3, h4⟩⟩
theorem owns_next {w w' : World} {base n : Nat} {e : TypeId} {s : Nat} {v : Value} {xs : List Value} (h : w.ownsRow base e s v n xs) (hb : Below w.heap.size w w') : w'.ownsRow base e s v n xs := owns_kept h (fun k hk => hb.block k (h.lt k hk).2)
theorem owns_base {w : World} {base base' n : Nat} {e : TypeId} {s : Nat} {v : Value} {xs : List Value} (h : w.ownsRow base e s v n xs) (hb : base' ≤ base) : w.ownsRow base' e s v n xs := by
  obtain ⟨hl, h | ⟨g, cap, cur, rfl, h2, h3⟩⟩ := h
  · exact ⟨hl, .inl h⟩
  · exact ⟨hl, .inr ⟨g, cap, cur, rfl, Nat.le_trans hb h2, h3⟩⟩
/-- Numbers as cells. -/
def zcs (l : List Int) : List Value := l.map fun n => Value.int .i64 n
theorem zcs_len (l : List Int) : (zcs l).length = l.length := by simp [zcs]
theorem zcs_snoc (l : List Int) (n : Int) : zcs (l ++ [n]) = zcs l ++ [.int .i64 n] := by simp [zcs]
theorem zcs_at (l : List Int) (i : Nat) (t : Int) (h : l[i]? = some t) : (zcs l)[i]? = some (.int .i64 t) := by simp [zcs, h]
/-- v is a slice of just these numbers. -/
def Il (w : World) (v : Value) (ns : List Int) : Prop :=
  (ns = [] ∧ ∃ a c, v = .slice a 0 c) ∨ ∃ b o cap, v = .slice (some ⟨b, o, none⟩) ns.length cap ∧ b < w.heap.size ∧ ∀ (i : Nat) n, ns[i]? = some n → w.cell? ⟨b, o + i, none⟩ = some (.int .i64 n)
theorem Il.below {w w' : World} {v : Value} {ns : List Int} (h : Il w v ns) {B : Nat} (hb : Below B w w') (hB : w.heap.size ≤ B) : Il w' v ns := by
  rcases h with h | ⟨b, o, cap, rfl, hlt, h⟩
  · exact .inl h
  · exact .inr ⟨b, o, cap, rfl, Nat.lt_of_lt_of_le hlt hb.size, fun i n hn => (hb.cell (p := ⟨b, o + i, none⟩) (by show b < B; omega)).trans (h i n hn)⟩
theorem Il.next {w w' : World} {v : Value} {ns : List Int} (h : Il w v ns) (hb : Below w.heap.size w w') : Il w' v ns := h.below hb (Nat.le_refl _)
theorem Il.slice {w : World} {v : Value} {ns : List Int} (h : Il w v ns) : ∃ a c, v = .slice a ns.length c := by
  rcases h with ⟨rfl, a, c, rfl⟩ | ⟨b, o, cap, rfl, _⟩
  · exact ⟨a, c, rfl⟩
  · exact ⟨_, _, rfl⟩
theorem Il.at {w : World} {a : Option Addr} {c : Nat} {l : List Int} (h : Il w (.slice a l.length c) l) {k : Nat} {t : Int} (hk : l[k]? = some t) : ∃ b o, a = some ⟨b, o, none⟩ ∧ b < w.heap.size ∧ w.cell? ⟨b, o + k, none⟩ = some (.int .i64 t) := by
  rcases h with ⟨rfl, _⟩ | ⟨b, o, cap, hv, hlt, h⟩
  · cases hk
  · injection hv with h1 _ _
    exact ⟨b, o, h1, hlt, h k t hk⟩
theorem Il_owns {w : World} {base : Nat} {v : Value} {l : List Int} (h : w.ownsRow base 3 1 v l.length (zcs l)) : Il w v l := by
  rcases Nat.eq_zero_or_pos l.length with h0 | h0
  · have hl := List.length_eq_zero_iff.1 h0
    obtain ⟨a, cap, rfl⟩ := owns_slice h
    subst hl
    exact .inl ⟨rfl, a, cap, rfl⟩
  · obtain ⟨g, cap, rfl, hb, hlt⟩ := h.form h0
    refine .inr ⟨g, 0, cap, rfl, hlt, fun i n hn => ?_⟩
    have hi : i < l.length := (List.getElem?_eq_some_iff.1 hn).1
    rw [Nat.zero_add]
    exact (h.cellAt i (by omega)).trans (zcs_at l i n hn)

/-- Is n from a to b? -/
def wi (n a b : Int) : Bool := decide (a ≤ n) && decide (n ≤ b)
theorem wi_t {n a b : Int} (h : wi n a b = true) : a ≤ n ∧ n ≤ b := by simpa [wi] using h
theorem wi_f {n a b : Int} (h : wi n a b = false) : n < a ∨ b < n := by simp [wi] at h; omega
theorem within_any (n a b : Int) (w : World) : Calls Try.prog 36 #[.int .i64 n, .int .i64 a, .int .i64 b] w fun e W' => e = .returned (.bool (wi n a b)) ∧ W' = w := by
  by_cases h1 : a ≤ n
  · by_cases h2 : n ≤ b
    · rw [show wi n a b = true by simp [wi, h1, h2]]
      go_enter Try.func36, Try.ntmps36
      go_wp2
      go_ret
      exact ⟨rfl, rfl⟩
    · rw [show wi n a b = false by simp [wi, h2]]
      go_enter Try.func36, Try.ntmps36
      go_wp2
      go_ret
      exact ⟨rfl, rfl⟩
  · rw [show wi n a b = false by simp [wi, h1]]
    go_enter Try.func36, Try.ntmps36
    go_wp2
    go_ret
    exact ⟨rfl, rfl⟩
/-- Where x stands first; -1: nowhere. -/
def idxI : List Int → Int → Int
  | [], _ => -1
  | a :: r, x => if x = a then 0 else if idxI r x < 0 then -1 else idxI r x + 1
theorem idxI_neg (l : List Int) (x : Int) : idxI l x < 0 → idxI l x = -1 := by
  cases l with
  | nil => intro _; rfl
  | cons a r => unfold idxI; repeat' split
                all_goals omega
theorem idxI_drop (l : List Int) (x : Int) (k : Nat) (h : ∀ i t, i < k → l[i]? = some t → x ≠ t) : (l[k]? = some x → idxI l x = k) ∧ (l.length ≤ k → idxI l x = -1) := by
  induction l generalizing k with
  | nil => exact ⟨fun h => by simp at h, fun _ => rfl⟩
  | cons a r ih =>
    cases k with
    | zero => exact ⟨fun h => by simp at h; simp [idxI, h], fun h => by simp at h⟩
    | succ k =>
      have ha : x ≠ a := h 0 a (by omega) (by simp)
      have := ih k (fun i t hi ht => h (i + 1) t (by omega) (by simpa using ht))
      refine ⟨fun h2 => ?_, fun h2 => ?_⟩
      · have e := this.1 (by simpa using h2)
        unfold idxI
        rw [if_neg ha, e, if_neg (by omega)]
        omega
      · have e := this.2 (by simp at h2; omega)
        unfold idxI
        rw [if_neg ha, e]
        decide
set_option maxHeartbeats 1000000 in
theorem Index_any (ns : List Int) (x : Int) (u : Value) (w : World) (hu : Il w u ns) (hl : ns.length ≤ 1000) :
    Calls Try.prog 47 #[u, .int .i64 x] w fun e W' => e = .returned (.int .i64 (idxI ns x)) ∧ W' = w := by
  obtain ⟨a, c, rfl⟩ := hu.slice
  go_enter Try.func47, Try.ntmps47
  go_wp2_with fail
  go_loopg [8] ns.length (fun gk i wr => ∃ k : Nat, k + gk = ns.length ∧ i = .int .i64 k ∧ wr = w ∧ ∀ i t, i < k → ns[i]? = some t → x ≠ t)
  case atStart => exact ⟨0, by omega, rfl, rfl, fun i t hi => by omega⟩
  case round =>
    obtain ⟨k, hk, rfl, rfl, hno⟩ := hrel
    have hd := idxI_drop ns x k hno
    by_cases hlt : k < ns.length
    · obtain ⟨n, hn⟩ : ∃ n, ns[k]? = some n := ⟨_, List.getElem?_eq_getElem hlt⟩
      obtain ⟨b1, o1, rfl, hb1, x1⟩ := hu.at hn
      have k0 : (0 : Int) ≤ (k : Int) := by omega
      have k1 : (k : Int) < (ns.length : Int) := by omega
      have hnx : Hid (∀ i t, i < k + 1 → ns[i]? = some t → x ≠ n → x ≠ t) := by
        intro i t hi ht hxn
        by_cases e : i = k
        · subst e; rw [hn] at ht; cases ht; exact hxn
        · exact hno i t (by omega) ht
      have HD : Hid (x = n → idxI ns x = k) := fun e => hd.1 (by rw [e]; exact hn)
      clear hn hno hd hu
      by_cases hx : x = n
      · subst hx
        go_wp2
        go_ret
        exact ⟨by rw [(HD.out trivial : idxI ns x = k)]; rfl, rfl⟩
      · have hq : (x == n) = false := by simp [hx]
        go_wp2
        go_roundg (ns.length - (k + 1))
        case measure => omega
        case rel => exact ⟨k + 1, by omega, by go_num, rfl, fun i t hi ht => hnx.out i t hi ht hx⟩
    · have hkl : k = ns.length := by omega
      have HD : Hid (idxI ns x = -1) := hd.2 (by omega)
      clear hd hno
      subst hkl
      go_wp2
      go_ret
      exact ⟨by rw [HD.out]; rfl, rfl⟩
/-- Is x among them? -/
def isIn (l : List Int) (x : Int) : Bool := l.contains x
theorem idxI_mem (l : List Int) (x : Int) : decide (0 ≤ idxI l x) = isIn l x := by
  unfold isIn
  induction l with
  | nil => simp [idxI]
  | cons a r ih =>
    unfold idxI
    rw [List.contains_cons]
    by_cases h : x = a
    · subst h; simp
    · rw [if_neg h, ← ih]
      have : (x == a) = false := by simp [h]
      rw [this, Bool.false_or]
      split
      · next h2 => simp; omega
      · next h2 => simp; omega
theorem Contains_any (ns : List Int) (x : Int) (u : Value) (w : World) (hu : Il w u ns) (hl : ns.length ≤ 1000) :
    Calls Try.prog 40 #[u, .int .i64 x] w fun e W' => e = .returned (.bool (isIn ns x)) ∧ W' = w := by
  have hI := Index_any ns x u w hu hl
  rw [← idxI_mem]
  obtain ⟨a, c, rfl⟩ := hu.slice
  obtain ⟨m, hm⟩ : ∃ m, idxI ns x = m := ⟨_, rfl⟩
  rw [hm] at hI ⊢
  clear hm hu
  go_enter Try.func40, Try.ntmps40
  go_wp2_with (go_at_call 47; refine hI.mono ?_; rintro e w1 ⟨rfl, rfl⟩)
  go_ret
  exact ⟨rfl, rfl⟩
/-- Do these numbers rise, above l, up to 4? -/
def rise : Int → List Int → Bool
  | _, [] => true
  | l, g :: r => (decide (l < g) && decide (g ≤ 4)) && rise g r
set_option maxHeartbeats 1000000 in
theorem areGroups_any (ns : List Int) (u : Value) (w : World) (hu : Il w u ns) (hl : ns.length ≤ 1000) :
    Calls Try.prog 37 #[u] w fun e W' => e = .returned (.bool (rise 0 ns)) ∧ W' = w := by
  obtain ⟨a, c, rfl⟩ := hu.slice
  go_enter Try.func37, Try.ntmps37
  go_wp2_with fail
  go_loopg [3, 8] ns.length (fun gk m i wr => ∃ (k : Nat) (l : Int), k + gk = ns.length ∧ i = .int .i64 k ∧ m = .int .i64 l ∧ wr = w ∧ rise 0 ns = rise l (ns.drop k))
  case atStart => exact ⟨0, 0, by omega, rfl, rfl, rfl, rfl⟩
  case round =>
    obtain ⟨k, l, hk, rfl, rfl, rfl, hr⟩ := hrel
    have HR : Hid (rise 0 ns = rise l (ns.drop k)) := hr
    clear hr
    by_cases hlt : k < ns.length
    · obtain ⟨n, hn⟩ : ∃ n, ns[k]? = some n := ⟨_, List.getElem?_eq_getElem hlt⟩
      obtain ⟨b1, o1, rfl, hb1, x1⟩ := hu.at hn
      have hdr : ns.drop k = n :: ns.drop (k + 1) := by
        rw [List.drop_eq_getElem_cons hlt]; congr 1
        rw [List.getElem?_eq_getElem hlt] at hn; exact Option.some.inj hn
      have HS : Hid (rise 0 ns = ((decide (l < n) && decide (n ≤ 4)) && rise n (ns.drop (k + 1)))) := by show _ = _; rw [HR.out, hdr]; rfl
      have k0 : (0 : Int) ≤ (k : Int) := by omega
      have k1 : (k : Int) < (ns.length : Int) := by omega
      clear hn hdr HR hu
      by_cases h1 : l < n
      · by_cases h2 : n ≤ 4
        · have HT : Hid (rise 0 ns = rise n (ns.drop (k + 1))) := by show _ = _; rw [HS.out]; simp [h1, h2]
          clear HS
          go_wp2
          go_roundg (ns.length - (k + 1))
          case measure => omega
          case rel => exact ⟨k + 1, n, by omega, by go_num, rfl, rfl, HT.out⟩
        · have HT : Hid (rise 0 ns = false) := by show _ = _; rw [HS.out]; simp [h2]
          clear HS
          have h3 : 4 < n := by omega
          go_wp2
          go_ret
          exact ⟨by rw [HT.out]; rfl, rfl⟩
      · have HT : Hid (rise 0 ns = false) := by show _ = _; rw [HS.out]; simp [h1]
        have h3 : n ≤ l := by omega
        clear HS h1
        go_wp2
        go_ret
        exact ⟨by rw [HT.out]; rfl, rfl⟩
    · have hkl : k = ns.length := by omega
      have HT : Hid (rise 0 ns = true) := by show _ = _; rw [HR.out, hkl, List.drop_length]; rfl
      clear HR
      subst hkl
      go_wp2
      go_ret
      exact ⟨by rw [HT.out]; rfl, rfl⟩
/-- May that be a shard's owner? -/
def ownB (ns : List Int) (x : Int) : Bool := if ns.length = 0 then x == 0 else isIn ns x
theorem mayOwn_any (ns : List Int) (x : Int) (u : Value) (w : World) (hu : Il w u ns) (hl : ns.length ≤ 1000) :
    Calls Try.prog 38 #[u, .int .i64 x] w fun e W' => e = .returned (.bool (ownB ns x)) ∧ W' = w := by
  have hI := Contains_any ns x u w hu hl
  obtain ⟨a, c, rfl⟩ := hu.slice
  clear hu
  by_cases h0 : ns.length = 0
  · rw [show ownB ns x = (x == 0) by simp only [ownB, if_pos h0]]
    rw [h0] at hI ⊢
    go_enter Try.func38, Try.ntmps38
    go_wp2_with fail
    go_ret
    exact ⟨rfl, rfl⟩
  · rw [show ownB ns x = isIn ns x by simp only [ownB, if_neg h0]]
    have hq : ((ns.length : Int) == 0) = false := by rw [beq_eq_false_iff_ne]; omega
    go_enter Try.func38, Try.ntmps38
    go_wp2_with (go_at_call 40; refine hI.mono ?_; rintro e w1 ⟨rfl, rfl⟩)
    go_ret
    exact ⟨rfl, rfl⟩
end Go.Proofs.Ytcehmaegnfelhaa
