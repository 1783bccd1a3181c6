/- Chains, plain: who gets which shard; balance and few moves, decided over all configurations. -/
import Derived.Below
import Derived.Test.YtfolnlgceighbaaGreatDoorProg
import Derived.WalkKit
import Derived.WalkSpells
import Derived.WalkLawsBesides
import Derived.BigRegion
import Derived.BigQuiet
import Derived.Deep.RegionHeld3
import Derived.Deep.DrawnRows
import Derived.Deep.DeepCutAuto
import Derived.Deep.CutBlock
import Derived.Deep.AppendLies
import Derived.Deep.RegionLaw
import Derived.Deep.LoopGhost
import Derived.Deep.MidRow
import Derived.OwnWalk
namespace Go.Proofs.YtfolnlgceighbaaGreatDoor
section

def cnt (o : List Nat) (g : Nat) : Nat := o.foldl (fun n x => if x == g then n + 1 else n) 0
def fewG (gs o : List Nat) : Nat := match gs with
  | [] => 0
  | g :: r => r.foldl (fun m x => if cnt o x < cnt o m then x else m) g
def manyG (gs o : List Nat) : Nat := match gs with
  | [] => 0
  | g :: r => r.foldl (fun m x => if cnt o m < cnt o x then x else m) g
def giveG (gs o : List Nat) : List Nat := (List.range 4).foldl (fun o i => if gs.contains (o.getD i 0) then o else o.set i (fewG gs o)) o
def evenG : Nat → List Nat → List Nat → List Nat
  | 0, _, o => o
  | n + 1, gs, o => let a := manyG gs o; let b := fewG gs o; if cnt o a < cnt o b + 2 then o else evenG n gs (o.set (o.idxOf a) b)
def nextO (gs o : List Nat) : List Nat := evenG 8 gs (giveG gs o)
def subs : List (List Nat) := [[1],[2],[3],[4],[1,2],[1,3],[1,4],[2,3],[2,4],[3,4],[1,2,3],[1,2,4],[1,3,4],[2,3,4],[1,2,3,4]]
def owners (gs : List Nat) : List (List Nat) := gs.flatMap fun a => gs.flatMap fun b => gs.flatMap fun c => gs.map fun d => [a, b, c, d]
def joins (gs : List Nat) : List (List Nat) := [1,2,3,4].filterMap fun g => if gs.contains g then (if gs.length > 1 then some (gs.erase g) else none) else some ([1,2,3,4].filter fun x => gs.contains x || x == g)
def balanced (gs o : List Nat) : Bool := gs.all fun a => gs.all fun b => cnt o a < cnt o b + 2
def allBal : Bool := subs.all fun gs => (owners gs).all fun o => (joins gs).all fun g2 => let n := nextO g2 o; balanced g2 n && n.all (g2.contains ·)
/-- Behind a Join or a Leave no group has two more than another one, and each shard's owner has joined: of all configurations. -/
theorem bal_all : allBal = true := by decide +kernel
def movedN : List Nat → List Nat → Nat
  | a :: x, b :: y => (if a == b then 0 else 1) + movedN x y
  | _, _ => 0
def leastM (o : List Nat) (ws : List (List Nat)) : Nat := ws.foldl (fun m w => let k := movedN o w; if k < m then k else m) 4
def fewOk (gs : List Nat) : Bool := (joins gs).all fun g2 => let ws := (owners g2).filter (balanced g2); (owners gs).all fun o => movedN o (nextO g2 o) == leastM o ws
/-- As few shards move as in any balanced configuration: of all configurations. -/
theorem few_all : (subs.all fewOk) = true := by decide +kernel
/-- The first groups that join: all shards are theirs. -/
theorem first_all : ([1, 2, 3, 4].all fun g => nextO [g] [0, 0, 0, 0] == [g, g, g, g]) = true := by decide +kernel
end
section
open Go.RowKit
attribute [local go_sem ↓] Go.wp_at_zero Go.wp_at_succ

theorem cellB {w : World} {B : Nat} {cs : Array Value} {t : TypeId} {fr : Nat × Nat} (h : w.heap[B]? = some (.cells cs t fr)) (j : Nat) (u : Value) (hu : cs[j]? = some u) : w.cell? ⟨B, j, none⟩ = some u := by
  unfold World.cell?; simp only [h]; exact hu
theorem frozenB {w : World} {B : Nat} {cs : Array Value} {t : TypeId} (h : w.heap[B]? = some (.cells cs t)) (j : Nat) : w.frozen? ⟨B, j, none⟩ = false := by
  unfold World.frozen?; simp [h]
theorem setB {w : World} {B : Nat} {cs : Array Value} {t : TypeId} {fr : Nat × Nat} (h : w.heap[B]? = some (.cells cs t fr)) (j : Nat) (a : Value) :
    (w.setCell ⟨B, j, none⟩ a).heap[B]? = some (.cells (cs.setIfInBounds j a) t fr) := by
  unfold World.setCell
  simp only [Array.getElem?_modify, if_true, h, Option.map_some]
  rfl
theorem set_far {w : World} {B k : Nat} (h : k ≠ B) (j : Nat) (u : Value) : (w.setCell ⟨B, j, none⟩ u).heap[k]? = w.heap[k]? := Below.heap_setCell _ _ _ _ h
theorem below_drew {n : Nat} {w w' : World} (h : Below n w w') : Below n w w'.drew := ⟨h.os, h.tape, h.output, h.size, h.block⟩
theorem owns_slice {w : World} {base n : Nat} {e : TypeId} {s : Nat} {v : Value} {xs : List Value} (h : w.ownsRow base e s v n xs) : ∃ a cap, v = .slice a n cap := by
  rcases h.2 with ⟨rfl, rfl⟩ | ⟨g, cap, cur, rfl, _⟩
  · exact ⟨none, 0, rfl⟩
  · exact ⟨_, cap, rfl⟩
theorem info_parts {P : Program} {E : TypeId} {z : Value} {s b : Nat} (h : (P.info? E).map (fun i => (i.zero, i.size, i.bytes)) = some (some z, s, b)) :
    ∃ i, P.info? E = some i ∧ i.zero = some z ∧ i.size = s ∧ i.bytes = b := by
  cases hi : P.info? E with
  | none => rw [hi] at h; cases h
  | some i => rw [hi] at h; simp at h; exact ⟨i, rfl, h.1, h.2.1, h.2.2⟩
/-- What a call leaves, beside what is held at all worlds behind W0. -/
theorem keepC {k : Nat} {args : Array Value} {v : Value} (hC : ∀ W, Calls Tryz.prog k args W fun e W' => e = .returned v ∧ Below W.heap.size W W') {W0 : World} {Z : World → Prop} (hZ : ∀ W', Below W0.heap.size W0 W' → Z W') :
    ∀ W, Below W0.heap.size W0 W → Calls Tryz.prog k args W fun e W' => e = .returned v ∧ Below W0.heap.size W0 W' ∧ Z W' := by
  intro W hW
  refine (hC W).mono ?_
  rintro e W' ⟨rfl, hb⟩
  have h2 := hW.trans (hb.mono hW.size)
  exact ⟨rfl, h2, hZ W' h2⟩
theorem owns_kept {w w' : World} {base n : Nat} {e : TypeId} {s : Nat} {v : Value} {xs : List Value} (h : w.ownsRow base e s v n xs) (hk : ∀ k, v.ownBlock = some k → w'.heap[k]? = w.heap[k]?) : w'.ownsRow base e s v n xs := by
  obtain ⟨hl, h | ⟨g, cap, cur, rfl, h2, h3, h4⟩⟩ := h
  · exact ⟨hl, .inl h⟩
  · exact ⟨hl, .inr ⟨g, cap, cur, rfl, h2, (hk g rfl).trans h3, h4⟩⟩
theorem owns_next {w w' : World} {base n : Nat} {e : TypeId} {s : Nat} {v : Value} {xs : List Value} (h : w.ownsRow base e s v n xs) (hb : Below w.heap.size w w') : w'.ownsRow base e s v n xs := owns_kept h (fun k hk => hb.block k (h.lt k hk).2)
theorem owns_base {w : World} {base base' n : Nat} {e : TypeId} {s : Nat} {v : Value} {xs : List Value} (h : w.ownsRow base e s v n xs) (hb : base' ≤ base) : w.ownsRow base' e s v n xs := by
  obtain ⟨hl, h | ⟨g, cap, cur, rfl, h2, h3⟩⟩ := h
  · exact ⟨hl, .inl h⟩
  · exact ⟨hl, .inr ⟨g, cap, cur, rfl, Nat.le_trans hb h2, h3⟩⟩
/-- Numbers as cells. -/
def zcs (l : List Int) : List Value := l.map fun n => Value.int .i64 n
theorem zcs_len (l : List Int) : (zcs l).length = l.length := by simp [zcs]
theorem zcs_snoc (l : List Int) (n : Int) : zcs (l ++ [n]) = zcs l ++ [.int .i64 n] := by simp [zcs]
theorem zcs_at (l : List Int) (i : Nat) (t : Int) (h : l[i]? = some t) : (zcs l)[i]? = some (.int .i64 t) := by simp [zcs, h]
/-- v is a slice of just these numbers. -/
def Il (w : World) (v : Value) (ns : List Int) : Prop :=
  (ns = [] ∧ ∃ a c, v = .slice a 0 c) ∨ ∃ b o cap, v = .slice (some ⟨b, o, none⟩) ns.length cap ∧ b < w.heap.size ∧ ∀ (i : Nat) n, ns[i]? = some n → w.cell? ⟨b, o + i, none⟩ = some (.int .i64 n)
theorem Il.below {w w' : World} {v : Value} {ns : List Int} (h : Il w v ns) {B : Nat} (hb : Below B w w') (hB : w.heap.size ≤ B) : Il w' v ns := by
  rcases h with h | ⟨b, o, cap, rfl, hlt, h⟩
  · exact .inl h
  · exact .inr ⟨b, o, cap, rfl, Nat.lt_of_lt_of_le hlt hb.size, fun i n hn => (hb.cell (p := ⟨b, o + i, none⟩) (by show b < B; omega)).trans (h i n hn)⟩
theorem Il.next {w w' : World} {v : Value} {ns : List Int} (h : Il w v ns) (hb : Below w.heap.size w w') : Il w' v ns := h.below hb (Nat.le_refl _)
theorem Il.slice {w : World} {v : Value} {ns : List Int} (h : Il w v ns) : ∃ a c, v = .slice a ns.length c := by
  rcases h with ⟨rfl, a, c, rfl⟩ | ⟨b, o, cap, rfl, _⟩
  · exact ⟨a, c, rfl⟩
  · exact ⟨_, _, rfl⟩
theorem Il.at {w : World} {a : Option Addr} {c : Nat} {l : List Int} (h : Il w (.slice a l.length c) l) {k : Nat} {t : Int} (hk : l[k]? = some t) : ∃ b o, a = some ⟨b, o, none⟩ ∧ b < w.heap.size ∧ w.cell? ⟨b, o + k, none⟩ = some (.int .i64 t) := by
  rcases h with ⟨rfl, _⟩ | ⟨b, o, cap, hv, hlt, h⟩
  · cases hk
  · injection hv with h1 _ _
    exact ⟨b, o, h1, hlt, h k t hk⟩
theorem Il_owns {w : World} {base : Nat} {v : Value} {l : List Int} (h : w.ownsRow base 3 1 v l.length (zcs l)) : Il w v l := by
  rcases Nat.eq_zero_or_pos l.length with h0 | h0
  · have hl := List.length_eq_zero_iff.1 h0
    obtain ⟨a, cap, rfl⟩ := owns_slice h
    subst hl
    exact .inl ⟨rfl, a, cap, rfl⟩
  · obtain ⟨g, cap, rfl, hb, hlt⟩ := h.form h0
    refine .inr ⟨g, 0, cap, rfl, hlt, fun i n hn => ?_⟩
    have hi : i < l.length := (List.getElem?_eq_some_iff.1 hn).1
    rw [Nat.zero_add]
    exact (h.cellAt i (by omega)).trans (zcs_at l i n hn)

/-- Is n from a to b? -/
def wi (n a b : Int) : Bool := decide (a ≤ n) && decide (n ≤ b)
theorem wi_t {n a b : Int} (h : wi n a b = true) : a ≤ n ∧ n ≤ b := by simpa [wi] using h
theorem wi_f {n a b : Int} (h : wi n a b = false) : n < a ∨ b < n := by simp [wi] at h; omega
theorem within_any (n a b : Int) (w : World) : Calls Tryz.prog 41 #[.int .i64 n, .int .i64 a, .int .i64 b] w fun e W' => e = .returned (.bool (wi n a b)) ∧ W' = w := by
  by_cases h1 : a ≤ n
  · by_cases h2 : n ≤ b
    · rw [show wi n a b = true by simp [wi, h1, h2]]
      go_enter Tryz.func41, Tryz.ntmps41
      go_wp2
      go_ret
      exact ⟨rfl, rfl⟩
    · rw [show wi n a b = false by simp [wi, h2]]
      go_enter Tryz.func41, Tryz.ntmps41
      go_wp2
      go_ret
      exact ⟨rfl, rfl⟩
  · rw [show wi n a b = false by simp [wi, h1]]
    go_enter Tryz.func41, Tryz.ntmps41
    go_wp2
    go_ret
    exact ⟨rfl, rfl⟩
/-- Where x stands first; -1: nowhere. -/
def idxI : List Int → Int → Int
  | [], _ => -1
  | a :: r, x => if x = a then 0 else if idxI r x < 0 then -1 else idxI r x + 1
theorem idxI_neg (l : List Int) (x : Int) : idxI l x < 0 → idxI l x = -1 := by
  cases l with
  | nil => intro _; rfl
  | cons a r => unfold idxI; repeat' split
                all_goals omega
theorem idxI_drop (l : List Int) (x : Int) (k : Nat) (h : ∀ i t, i < k → l[i]? = some t → x ≠ t) : (l[k]? = some x → idxI l x = k) ∧ (l.length ≤ k → idxI l x = -1) := by
  induction l generalizing k with
  | nil => exact ⟨fun h => by simp at h, fun _ => rfl⟩
  | cons a r ih =>
    cases k with
    | zero => exact ⟨fun h => by simp at h; simp [idxI, h], fun h => by simp at h⟩
    | succ k =>
      have ha : x ≠ a := h 0 a (by omega) (by simp)
      have := ih k (fun i t hi ht => h (i + 1) t (by omega) (by simpa using ht))
      refine ⟨fun h2 => ?_, fun h2 => ?_⟩
      · have e := this.1 (by simpa using h2)
        unfold idxI
        rw [if_neg ha, e, if_neg (by omega)]
        omega
      · have e := this.2 (by simp at h2; omega)
        unfold idxI
        rw [if_neg ha, e]
        decide
set_option maxHeartbeats 1000000 in
theorem Index_any (ns : List Int) (x : Int) (u : Value) (w : World) (hu : Il w u ns) (hl : ns.length ≤ 1000) :
    Calls Tryz.prog 78 #[u, .int .i64 x] w fun e W' => e = .returned (.int .i64 (idxI ns x)) ∧ W' = w := by
  obtain ⟨a, c, rfl⟩ := hu.slice
  go_enter Tryz.func78, Tryz.ntmps78
  go_wp2_with fail
  go_loopg [8] ns.length (fun gk i wr => ∃ k : Nat, k + gk = ns.length ∧ i = .int .i64 k ∧ wr = w ∧ ∀ i t, i < k → ns[i]? = some t → x ≠ t)
  case atStart => exact ⟨0, by omega, rfl, rfl, fun i t hi => by omega⟩
  case round =>
    obtain ⟨k, hk, rfl, rfl, hno⟩ := hrel
    have hd := idxI_drop ns x k hno
    by_cases hlt : k < ns.length
    · obtain ⟨n, hn⟩ : ∃ n, ns[k]? = some n := ⟨_, List.getElem?_eq_getElem hlt⟩
      obtain ⟨b1, o1, rfl, hb1, x1⟩ := hu.at hn
      have k0 : (0 : Int) ≤ (k : Int) := by omega
      have k1 : (k : Int) < (ns.length : Int) := by omega
      have hnx : Hid (∀ i t, i < k + 1 → ns[i]? = some t → x ≠ n → x ≠ t) := by
        intro i t hi ht hxn
        by_cases e : i = k
        · subst e; rw [hn] at ht; cases ht; exact hxn
        · exact hno i t (by omega) ht
      have HD : Hid (x = n → idxI ns x = k) := fun e => hd.1 (by rw [e]; exact hn)
      clear hn hno hd hu
      by_cases hx : x = n
      · subst hx
        go_wp2
        go_ret
        exact ⟨by rw [(HD.out trivial : idxI ns x = k)]; rfl, rfl⟩
      · have hq : (x == n) = false := by simp [hx]
        go_wp2
        go_roundg (ns.length - (k + 1))
        case measure => omega
        case rel => exact ⟨k + 1, by omega, by go_num, rfl, fun i t hi ht => hnx.out i t hi ht hx⟩
    · have hkl : k = ns.length := by omega
      have HD : Hid (idxI ns x = -1) := hd.2 (by omega)
      clear hd hno
      subst hkl
      go_wp2
      go_ret
      exact ⟨by rw [HD.out]; rfl, rfl⟩
/-- Is x among them? -/
def isIn (l : List Int) (x : Int) : Bool := l.contains x
theorem idxI_mem (l : List Int) (x : Int) : decide (0 ≤ idxI l x) = isIn l x := by
  unfold isIn
  induction l with
  | nil => simp [idxI]
  | cons a r ih =>
    unfold idxI
    rw [List.contains_cons]
    by_cases h : x = a
    · subst h; simp
    · rw [if_neg h, ← ih]
      have : (x == a) = false := by simp [h]
      rw [this, Bool.false_or]
      split
      · next h2 => simp; omega
      · next h2 => simp; omega
theorem Contains_any (ns : List Int) (x : Int) (u : Value) (w : World) (hu : Il w u ns) (hl : ns.length ≤ 1000) :
    Calls Tryz.prog 63 #[u, .int .i64 x] w fun e W' => e = .returned (.bool (isIn ns x)) ∧ W' = w := by
  have hI := Index_any ns x u w hu hl
  rw [← idxI_mem]
  obtain ⟨a, c, rfl⟩ := hu.slice
  obtain ⟨m, hm⟩ : ∃ m, idxI ns x = m := ⟨_, rfl⟩
  rw [hm] at hI ⊢
  clear hm hu
  go_enter Tryz.func63, Tryz.ntmps63
  go_wp2_with (go_at_call 78; refine hI.mono ?_; rintro e w1 ⟨rfl, rfl⟩)
  go_ret
  exact ⟨rfl, rfl⟩
/-- Do these numbers rise, above l, up to 4? -/
def rise : Int → List Int → Bool
  | _, [] => true
  | l, g :: r => (decide (l < g) && decide (g ≤ 4)) && rise g r
set_option maxHeartbeats 1000000 in
theorem areGroups_any (ns : List Int) (u : Value) (w : World) (hu : Il w u ns) (hl : ns.length ≤ 1000) :
    Calls Tryz.prog 42 #[u] w fun e W' => e = .returned (.bool (rise 0 ns)) ∧ W' = w := by
  obtain ⟨a, c, rfl⟩ := hu.slice
  go_enter Tryz.func42, Tryz.ntmps42
  go_wp2_with fail
  go_loopg [3, 8] ns.length (fun gk m i wr => ∃ (k : Nat) (l : Int), k + gk = ns.length ∧ i = .int .i64 k ∧ m = .int .i64 l ∧ wr = w ∧ rise 0 ns = rise l (ns.drop k))
  case atStart => exact ⟨0, 0, by omega, rfl, rfl, rfl, rfl⟩
  case round =>
    obtain ⟨k, l, hk, rfl, rfl, rfl, hr⟩ := hrel
    have HR : Hid (rise 0 ns = rise l (ns.drop k)) := hr
    clear hr
    by_cases hlt : k < ns.length
    · obtain ⟨n, hn⟩ : ∃ n, ns[k]? = some n := ⟨_, List.getElem?_eq_getElem hlt⟩
      obtain ⟨b1, o1, rfl, hb1, x1⟩ := hu.at hn
      have hdr : ns.drop k = n :: ns.drop (k + 1) := by
        rw [List.drop_eq_getElem_cons hlt]; congr 1
        rw [List.getElem?_eq_getElem hlt] at hn; exact Option.some.inj hn
      have HS : Hid (rise 0 ns = ((decide (l < n) && decide (n ≤ 4)) && rise n (ns.drop (k + 1)))) := by show _ = _; rw [HR.out, hdr]; rfl
      have k0 : (0 : Int) ≤ (k : Int) := by omega
      have k1 : (k : Int) < (ns.length : Int) := by omega
      clear hn hdr HR hu
      by_cases h1 : l < n
      · by_cases h2 : n ≤ 4
        · have HT : Hid (rise 0 ns = rise n (ns.drop (k + 1))) := by show _ = _; rw [HS.out]; simp [h1, h2]
          clear HS
          go_wp2
          go_roundg (ns.length - (k + 1))
          case measure => omega
          case rel => exact ⟨k + 1, n, by omega, by go_num, rfl, rfl, HT.out⟩
        · have HT : Hid (rise 0 ns = false) := by show _ = _; rw [HS.out]; simp [h2]
          clear HS
          have h3 : 4 < n := by omega
          go_wp2
          go_ret
          exact ⟨by rw [HT.out]; rfl, rfl⟩
      · have HT : Hid (rise 0 ns = false) := by show _ = _; rw [HS.out]; simp [h1]
        have h3 : n ≤ l := by omega
        clear HS h1
        go_wp2
        go_ret
        exact ⟨by rw [HT.out]; rfl, rfl⟩
    · have hkl : k = ns.length := by omega
      have HT : Hid (rise 0 ns = true) := by show _ = _; rw [HR.out, hkl, List.drop_length]; rfl
      clear HR
      subst hkl
      go_wp2
      go_ret
      exact ⟨by rw [HT.out]; rfl, rfl⟩
/-- May that be a shard's owner? -/
def ownB (ns : List Int) (x : Int) : Bool := if ns.length = 0 then x == 0 else isIn ns x
theorem mayOwn_any (ns : List Int) (x : Int) (u : Value) (w : World) (hu : Il w u ns) (hl : ns.length ≤ 1000) :
    Calls Tryz.prog 43 #[u, .int .i64 x] w fun e W' => e = .returned (.bool (ownB ns x)) ∧ W' = w := by
  have hI := Contains_any ns x u w hu hl
  obtain ⟨a, c, rfl⟩ := hu.slice
  clear hu
  by_cases h0 : ns.length = 0
  · rw [show ownB ns x = (x == 0) by simp only [ownB, if_pos h0]]
    rw [h0] at hI ⊢
    go_enter Tryz.func43, Tryz.ntmps43
    go_wp2_with fail
    go_ret
    exact ⟨rfl, rfl⟩
  · rw [show ownB ns x = isIn ns x by simp only [ownB, if_neg h0]]
    have hq : ((ns.length : Int) == 0) = false := by rw [beq_eq_false_iff_ne]; omega
    go_enter Tryz.func43, Tryz.ntmps43
    go_wp2_with (go_at_call 63; refine hI.mono ?_; rintro e w1 ⟨rfl, rfl⟩)
    go_ret
    exact ⟨rfl, rfl⟩
end
section
open Go.RowKit
attribute [local go_sem ↓] Go.wp_at_zero Go.wp_at_succ

/-- A configuration's cells. -/
abbrev cf (num : Int) (gv : Value) (a b c d : Int) : Array Value := #[.int .i64 num, gv, .int .i64 a, .int .i64 b, .int .i64 c, .int .i64 d]
theorem cf_at (num : Int) (gv : Value) (a b c d : Int) (k : Nat) (t : Int) (h : [a, b, c, d][k]? = some t) : (cf num gv a b c d)[2 + k]? = some (.int .i64 t) := by
  rcases k with _ | _ | _ | _ | k <;> simp at h <;> subst h <;> rfl
/-- Is it a configuration? -/
def okC (num : Int) (ns os : List Int) : Bool := (wi num 0 1099511627776 && rise 0 ns) && os.all (ownB ns)
set_option maxHeartbeats 2000000 in
theorem Check_any (num : Int) (gv : Value) (ns : List Int) (a b c d : Int) (w : World) (hu : Il w gv ns) (hl : ns.length ≤ 1000) :
    Calls Tryz.prog 13 #[.agg (cf num gv a b c d)] w fun e W' => e = .returned (.int .i64 (if okC num ns [a, b, c, d] = true then 0 else 4)) ∧ Below w.heap.size w W' := by
  have hb0 : Below w.heap.size w (w.alloc (.cells (cf num gv a b c d) 25)) := (Below.refl _ w).alloc (Nat.le_refl _) _
  have r0 := heap_alloc_new w (.cells (cf num gv a b c d) 25)
  obtain ⟨W0, hW0⟩ : ∃ W, w.alloc (.cells (cf num gv a b c d) 25) = W := ⟨_, rfl⟩
  have hu0 := hu.next hb0
  rw [hW0] at hb0 r0 hu0
  have hcell : ∀ W', Below W0.heap.size W0 W' → ∀ (k : Nat) t, [a, b, c, d][k]? = some t → W'.cell? ⟨w.heap.size, 2 + k, none⟩ = some (.int .i64 t) := by
    intro W' h k t ht
    have r' := (h.block w.heap.size (Array.getElem?_eq_some_iff.1 r0).1).trans r0
    exact cellB r' _ _ (cf_at num gv a b c d k t ht)
  have hcg : ∀ W', Below W0.heap.size W0 W' → W'.cell? ⟨w.heap.size, 1, none⟩ = some gv := by
    intro W' h
    have r' := (h.block w.heap.size (Array.getElem?_eq_some_iff.1 r0).1).trans r0
    exact cellB r' 1 _ rfl
  have c0 : W0.cell? ⟨w.heap.size, 0, none⟩ = some (.int .i64 num) := cellB r0 0 _ rfl
  have c1 := hcg W0 (Below.refl _ _)
  have hA := areGroups_any ns gv W0 hu0 hl
  have HC : Hid (∀ W', Below W0.heap.size W0 W' → ∀ (k : Nat) t, [a, b, c, d][k]? = some t → W'.cell? ⟨w.heap.size, 2 + k, none⟩ = some (.int .i64 t)) := hcell
  have HG : Hid (∀ W', Below W0.heap.size W0 W' → W'.cell? ⟨w.heap.size, 1, none⟩ = some gv) := hcg
  have HW : Hid (w.alloc (.cells (cf num gv a b c d) 25) = W0) := hW0
  clear r0 hcell hcg hW0
  by_cases h1 : wi num 0 1099511627776 = true
  · by_cases h2 : rise 0 ns = true
    · rw [show okC num ns [a, b, c, d] = [a, b, c, d].all (ownB ns) by simp only [okC, h1, h2, Bool.true_and]]
      obtain ⟨os, ho⟩ : ∃ os, [a, b, c, d] = os := ⟨_, rfl⟩
      have hol : os.length = 4 := by rw [← ho]; rfl
      rw [ho] at HC ⊢
      rw [h2] at hA
      obtain ⟨pa, pc, rfl⟩ := hu.slice
      obtain ⟨R, hR⟩ : ∃ R : Int, (if os.all (ownB ns) = true then 0 else 4) = R := ⟨_, rfl⟩
      rw [hR]
      have HZ : Hid ((if os.all (ownB ns) = true then (0 : Int) else 4) = R) := hR
      clear ho h2 hR
      go_enter Tryz.func13, Tryz.ntmps13
      go_upto_region 1 with fail
      rw [HW.out]
      clear HW
      go_upto_region 4 with (first
        | (go_at_call 41; refine (within_any _ _ _ _).mono ?_; rintro e w1 ⟨rfl, h9⟩; subst w1)
        | (go_at_call 42; refine hA.mono ?_; rintro e w2 ⟨rfl, h9⟩; subst w2))
      clear hA
      go_loopg [14] 4 (fun gk i wr => ∃ k : Nat, k + gk = 4 ∧ i = .int .i64 k ∧ Below W0.heap.size W0 wr ∧ os.all (ownB ns) = (os.drop k).all (ownB ns))
      case atStart => exact ⟨0, by omega, rfl, Below.refl _ _, rfl⟩
      case round =>
        obtain ⟨k, hk, rfl, hB, hall⟩ := hrel
        have HA : Hid (os.all (ownB ns) = (os.drop k).all (ownB ns)) := hall
        clear hall c0 c1
        by_cases hlt : k < 4
        · obtain ⟨t, ht⟩ : ∃ t, os[k]? = some t := ⟨_, List.getElem?_eq_getElem (by omega)⟩
          have x1 := HC.out _ hB k t ht
          have x2 := HG.out _ hB
          have hM := fun n => mayOwn_any ns t _ (wr.drewN n) (hu0.next (below_drewN hB n)) hl
          have hdr : os.drop k = t :: os.drop (k + 1) := by
            rw [List.drop_eq_getElem_cons (by omega)]; congr 1
            rw [List.getElem?_eq_getElem (by omega)] at ht; exact Option.some.inj ht
          have HS : Hid (os.all (ownB ns) = (ownB ns t && (os.drop (k + 1)).all (ownB ns))) := by show _ = _; rw [HA.out, hdr, List.all_cons]
          have k0 : (0 : Int) ≤ (k : Int) := by omega
          have k1 : (k : Int) < 4 := by omega
          have k2 : k < 4 := hlt
          clear hdr ht HA hu0 hu hol
          by_cases hq : ownB ns t = true
          · rw [hq] at hM
            have HT : Hid (os.all (ownB ns) = (os.drop (k + 1)).all (ownB ns)) := by show _ = _; rw [HS.out, hq, Bool.true_and]
            clear HS hq
            go_upto_region 6 with fail
            go_quiet (first | (go_at_call 43; refine Calls.quiet_of_same (hM _)))
            go_wp2
            go_roundg (4 - (k + 1))
            case measure => omega
            case rel => exact ⟨k + 1, by omega, by go_num, below_drewN hB _, HT.out⟩
          · have hq' : ownB ns t = false := by simpa using hq
            rw [hq'] at hM
            have HT : Hid (os.all (ownB ns) = false) := by show _ = _; rw [HS.out, hq', Bool.false_and]
            clear HS hq hq'
            go_upto_region 6 with fail
            go_quiet (first | (go_at_call 43; refine Calls.quiet_of_same (hM _)))
            go_wp2
            go_ret
            exact ⟨by rw [← HZ.out, HT.out]; rfl, hb0.trans ((below_drewN hB _).mono hb0.size)⟩
        · have hkl : k = 4 := by omega
          have HT : Hid (os.all (ownB ns) = true) := by show _ = _; rw [HA.out, hkl, ← hol, List.drop_length]; rfl
          clear HA
          subst hkl
          go_wp2
          go_ret
          exact ⟨by rw [← HZ.out, HT.out]; rfl, hb0.trans (hB.mono hb0.size)⟩
    · have h2' : rise 0 ns = false := by simpa using h2
      rw [show okC num ns [a, b, c, d] = false by simp only [okC, h1, h2', Bool.true_and, Bool.false_and]]
      rw [h2'] at hA
      obtain ⟨pa, pc, rfl⟩ := hu.slice
      clear h2 h2'
      go_enter Tryz.func13, Tryz.ntmps13
      go_upto_region 1 with fail
      rw [HW.out]
      clear HW
      go_wp2_with (first
        | (go_at_call 41; refine (within_any _ _ _ _).mono ?_; rintro e w1 ⟨rfl, h9⟩; subst w1)
        | (go_at_call 42; refine hA.mono ?_; rintro e w2 ⟨rfl, h9⟩; subst w2))
      go_ret
      exact ⟨rfl, hb0⟩
  · have h1' : wi num 0 1099511627776 = false := by simpa using h1
    rw [show okC num ns [a, b, c, d] = false by simp only [okC, h1', Bool.false_and]]
    obtain ⟨pa, pc, rfl⟩ := hu.slice
    clear h1
    go_enter Tryz.func13, Tryz.ntmps13
    go_upto_region 1 with fail
    rw [HW.out]
    clear HW
    go_wp2_with (first
      | (go_at_call 41; refine (within_any _ _ _ _).mono ?_; rintro e w1 ⟨rfl, h9⟩; subst w1))
    go_ret
    exact ⟨rfl, hb0⟩
/-- Is it a command by itself? -/
def isCmd (k g s : Int) : Bool := (wi k 1 3 && wi g 1 4) && wi s 0 (if k = 3 then 3 else 0)
set_option maxHeartbeats 2000000 in
theorem isCommand_any (k g s : Int) (w : World) : Calls Tryz.prog 68 #[.agg #[.int .i64 k, .int .i64 g, .int .i64 s]] w fun e W' => e = .returned (.bool (isCmd k g s)) ∧ Below w.heap.size w W' := by
  have hb0 : Below w.heap.size w (w.alloc (.cells #[.int .i64 k, .int .i64 g, .int .i64 s] 59)) := (Below.refl _ w).alloc (Nat.le_refl _) _
  by_cases hk : k = 3
  · subst hk
    cases h2 : wi g 1 4
    · rw [show isCmd 3 g s = false by simp [isCmd, h2]]
      go_enter Tryz.func68, Tryz.ntmps68
      go_wp2_with (go_at_call 41; refine (within_any _ _ _ _).mono ?_; rintro e w1 ⟨rfl, rfl⟩)
      go_ret
      exact ⟨rfl, hb0⟩
    · rw [show isCmd 3 g s = wi s 0 3 by simp [isCmd, h2, show wi 3 1 3 = true from rfl]]
      go_enter Tryz.func68, Tryz.ntmps68
      go_wp2_with (go_at_call 41; refine (within_any _ _ _ _).mono ?_; rintro e w1 ⟨rfl, rfl⟩)
      go_ret
      exact ⟨rfl, hb0⟩
  · have hq : (k == 3) = false := by simp [hk]
    cases h1 : wi k 1 3
    · rw [show isCmd k g s = false by simp [isCmd, h1]]
      go_enter Tryz.func68, Tryz.ntmps68
      go_wp2_with (go_at_call 41; refine (within_any _ _ _ _).mono ?_; rintro e w1 ⟨rfl, rfl⟩)
      go_ret
      exact ⟨rfl, hb0⟩
    · cases h2 : wi g 1 4
      · rw [show isCmd k g s = false by simp [isCmd, h1, h2]]
        go_enter Tryz.func68, Tryz.ntmps68
        go_wp2_with (go_at_call 41; refine (within_any _ _ _ _).mono ?_; rintro e w1 ⟨rfl, rfl⟩)
        go_ret
        exact ⟨rfl, hb0⟩
      · rw [show isCmd k g s = wi s 0 0 by simp [isCmd, h1, h2, hk]]
        go_enter Tryz.func68, Tryz.ntmps68
        go_wp2_with (go_at_call 41; refine (within_any _ _ _ _).mono ?_; rintro e w1 ⟨rfl, rfl⟩)
        go_ret
        exact ⟨rfl, hb0⟩
end
section
open Go.RowKit
attribute [local go_sem ↓] Go.wp_at_zero Go.wp_at_succ

/-- Can a command be done with that configuration? -/
def fitsB (k g s : Int) (ns os : List Int) : Bool :=
  if k = 1 then !isIn ns g else if k = 2 then isIn ns g && decide (1 < ns.length) else isIn ns g && !(os.getD s.toNat 0 == g)
set_option maxHeartbeats 2000000 in
theorem fits_any (num : Int) (gv : Value) (ns : List Int) (a b c d : Int) (k g s : Int) (w : World) (hu : Il w gv ns) (hl : ns.length ≤ 1000) (hs : k ≠ 1 → k ≠ 2 → 0 ≤ s ∧ s < 4) :
    Calls Tryz.prog 69 #[.agg (cf num gv a b c d), .agg #[.int .i64 k, .int .i64 g, .int .i64 s]] w fun e W' => e = .returned (.bool (fitsB k g s ns [a, b, c, d])) ∧ Below w.heap.size w W' := by
  have hb0 : Below w.heap.size w ((w.alloc (.cells (cf num gv a b c d) 25)).alloc (.cells #[.int .i64 k, .int .i64 g, .int .i64 s] 59)) := ((Below.refl _ w).alloc (Nat.le_refl _) _).alloc (by simp) _
  have r0 : ((w.alloc (.cells (cf num gv a b c d) 25)).alloc (.cells #[.int .i64 k, .int .i64 g, .int .i64 s] 59)).heap[w.heap.size]? = some (.cells (cf num gv a b c d) 25) := (Below.heap_alloc _ _ _ (by simp)).trans (heap_alloc_new _ _)
  have r1 : ((w.alloc (.cells (cf num gv a b c d) 25)).alloc (.cells #[.int .i64 k, .int .i64 g, .int .i64 s] 59)).heap[w.heap.size + 1]? = some (.cells #[.int .i64 k, .int .i64 g, .int .i64 s] 59) := by
    have := heap_alloc_new (w.alloc (.cells (cf num gv a b c d) 25)) (.cells #[.int .i64 k, .int .i64 g, .int .i64 s] 59)
    rw [show (w.alloc (.cells (cf num gv a b c d) 25)).heap.size = w.heap.size + 1 by simp] at this
    exact this
  have hI := Contains_any ns g gv _ (hu.next hb0) hl
  have HW : Hid (∃ W0, (w.alloc (.cells (cf num gv a b c d) 25)).alloc (.cells #[.int .i64 k, .int .i64 g, .int .i64 s] 59) = W0) := ⟨_, rfl⟩
  obtain ⟨W0, hW0⟩ := HW.out
  rw [hW0] at hb0 r0 r1 hI
  have c1 : W0.cell? ⟨w.heap.size, 1, none⟩ = some gv := cellB r0 1 _ rfl
  have d0 : W0.cell? ⟨w.heap.size + 1, 0, none⟩ = some (.int .i64 k) := cellB r1 0 _ rfl
  have d1 : W0.cell? ⟨w.heap.size + 1, 1, none⟩ = some (.int .i64 g) := cellB r1 1 _ rfl
  have d2 : W0.cell? ⟨w.heap.size + 1, 2, none⟩ = some (.int .i64 s) := cellB r1 2 _ rfl
  have HV : Hid ((w.alloc (.cells (cf num gv a b c d) 25)).alloc (.cells #[.int .i64 k, .int .i64 g, .int .i64 s] 59) = W0) := hW0
  have HR : Hid (W0.heap[w.heap.size]? = some (.cells (cf num gv a b c d) 25)) := r0
  obtain ⟨pa, pc, rfl⟩ := hu.slice
  clear hW0 r0 r1 HW hu
  by_cases k1 : k = 1
  · subst k1
    rw [show fitsB 1 g s ns [a, b, c, d] = !isIn ns g from rfl]
    go_enter Tryz.func69, Tryz.ntmps69
    go_upto_region 1 with fail
    rw [HV.out]
    clear HV
    go_wp2_with (go_at_call 63; refine hI.mono ?_; rintro e w1 ⟨rfl, h9⟩; subst w1)
    go_ret
    exact ⟨rfl, hb0⟩
  · by_cases k2 : k = 2
    · subst k2
      rw [show fitsB 2 g s ns [a, b, c, d] = (isIn ns g && decide (1 < ns.length)) from rfl]
      cases hj : isIn ns g
      · rw [hj] at hI
        rw [Bool.false_and]
        go_enter Tryz.func69, Tryz.ntmps69
        go_upto_region 1 with fail
        rw [HV.out]
        clear HV
        go_wp2_with (go_at_call 63; refine hI.mono ?_; rintro e w1 ⟨rfl, h9⟩; subst w1)
        go_ret
        exact ⟨rfl, hb0⟩
      · rw [hj] at hI
        rw [Bool.true_and]
        go_enter Tryz.func69, Tryz.ntmps69
        go_upto_region 1 with fail
        rw [HV.out]
        clear HV
        go_wp2_with (go_at_call 63; refine hI.mono ?_; rintro e w1 ⟨rfl, h9⟩; subst w1)
        go_ret
        exact ⟨by simp; omega, hb0⟩
    · obtain ⟨s0, s4⟩ := hs k1 k2
      obtain ⟨j, rfl⟩ : ∃ j : Nat, s = j := ⟨s.toNat, by omega⟩
      obtain ⟨t, ht⟩ : ∃ t, [a, b, c, d][j]? = some t := ⟨_, List.getElem?_eq_getElem (by simp; omega)⟩
      have x1 : W0.cell? ⟨w.heap.size, 2 + j, none⟩ = some (.int .i64 t) := cellB HR.out _ _ (cf_at num _ a b c d j t ht)
      have hf : fitsB k g j ns [a, b, c, d] = (isIn ns g && !(t == g)) := by
        unfold fitsB
        rw [if_neg k1, if_neg k2]
        have : [a, b, c, d].getD (j : Int).toNat 0 = t := by
          rw [Int.toNat_natCast, List.getD_eq_getElem?_getD, ht]; rfl
        rw [this]
      rw [hf]
      have q1 : (k == 1) = false := by simp [k1]
      have q2 : (k == 2) = false := by simp [k2]
      have j4 : j < 4 := by omega
      clear hf ht k1 k2 hs
      cases hj : isIn ns g
      · rw [hj] at hI
        rw [Bool.false_and]
        clear hj
        go_enter Tryz.func69, Tryz.ntmps69
        go_upto_region 1 with fail
        rw [HV.out]
        clear HV
        go_upto_region 7 with (go_at_call 63; refine hI.mono ?_; rintro e w1 ⟨rfl, h9⟩; subst w1)
        go_quiet (fail)
        go_wp2
        go_ret
        exact ⟨rfl, below_drewN hb0 _⟩
      · rw [hj] at hI
        rw [Bool.true_and]
        clear hj
        go_enter Tryz.func69, Tryz.ntmps69
        go_upto_region 1 with fail
        rw [HV.out]
        clear HV
        go_upto_region 7 with (go_at_call 63; refine hI.mono ?_; rintro e w1 ⟨rfl, h9⟩; subst w1)
        go_quiet (fail)
        go_wp2
        go_ret
        exact ⟨rfl, below_drewN hb0 _⟩

/-- As Compare answers. -/
def cmpN (x y : Nat) : Int := if x < y then -1 else if y < x then 1 else 0
theorem isNaN_any (x : Int) (w : World) : Calls Tryz.prog 135 #[.int .i64 x] w fun e W' => e = .returned (.bool false) ∧ W' = w := by
  go_enter Tryz.func135, Tryz.ntmps135
  go_wp2
  go_ret
  exact ⟨by simp, rfl⟩
theorem Compare_any (x y : Nat) (w : World) : Calls Tryz.prog 136 #[.int .i64 x, .int .i64 y] w fun e W' => e = .returned (.int .i64 (cmpN x y)) ∧ W' = w := by
  by_cases h1 : x < y
  · rw [show cmpN x y = -1 by simp [cmpN, h1]]
    go_enter Tryz.func136, Tryz.ntmps136
    go_wp2_with (go_at_call 135; refine (isNaN_any _ _).mono ?_; rintro e w1 ⟨rfl, h9⟩; subst w1)
    go_ret
    exact ⟨rfl, rfl⟩
  · by_cases h2 : y < x
    · rw [show cmpN x y = 1 by simp [cmpN, h1, h2]]
      go_enter Tryz.func136, Tryz.ntmps136
      go_wp2_with (go_at_call 135; refine (isNaN_any _ _).mono ?_; rintro e w1 ⟨rfl, h9⟩; subst w1)
      go_ret
      exact ⟨rfl, rfl⟩
    · obtain rfl : x = y := by omega
      rw [show cmpN x x = 0 by simp [cmpN]]
      clear h1 h2
      go_enter Tryz.func136, Tryz.ntmps136
      go_wp2_with (go_at_call 135; refine (isNaN_any _ _).mono ?_; rintro e w1 ⟨rfl, h9⟩; subst w1)
      go_ret
      exact ⟨rfl, rfl⟩
/-- Loads as cells. -/
abbrev lds (f : Nat → Nat) : Array Value := #[.int .i64 (f 0), .int .i64 (f 1), .int .i64 (f 2), .int .i64 (f 3), .int .i64 (f 4)]
theorem lds_at (f : Nat → Nat) (k : Nat) (h : k ≤ 4) : (lds f)[k]? = some (.int .i64 (f k)) := by
  rcases k with _ | _ | _ | _ | _ | k
  all_goals first | rfl | omega
set_option maxHeartbeats 1000000 in
theorem compare_any (f : Nat → Nat) (x y : Nat) (hx : x ≤ 4) (hy : y ≤ 4) (w : World) : Calls Tryz.prog 121 #[.agg (lds f), .int .i64 x, .int .i64 y] w fun e W' => e = .returned (.int .i64 (cmpN (f x) (f y))) ∧ Below w.heap.size w W' := by
  have hb0 : Below w.heap.size w (w.alloc (.cells (lds f) 88)) := (Below.refl _ w).alloc (Nat.le_refl _) _
  have r0 := heap_alloc_new w (.cells (lds f) 88)
  obtain ⟨W0, hW0⟩ : ∃ W, w.alloc (.cells (lds f) 88) = W := ⟨_, rfl⟩
  rw [hW0] at hb0 r0
  have c0 : W0.cell? ⟨w.heap.size, x, none⟩ = some (.int .i64 (f x)) := cellB r0 x _ (lds_at f x hx)
  have c1 : W0.cell? ⟨w.heap.size, y, none⟩ = some (.int .i64 (f y)) := cellB r0 y _ (lds_at f y hy)
  have HW : Hid (w.alloc (.cells (lds f) 88) = W0) := hW0
  have hC := fun n => Compare_any (f x) (f y) (W0.drewN n)
  have x5 : x < 5 := by omega
  have y5 : y < 5 := by omega
  clear r0 hW0 hx hy
  go_enter Tryz.func121, Tryz.ntmps121
  go_upto_region 1 with fail
  rw [HW.out]
  clear HW
  go_quiet (first | (go_at_call 136; refine Calls.quiet_of_same (hC _)))
  go_wp2
  go_ret
  exact ⟨rfl, below_drewN hb0 _⟩
end
section
open Go.RowKit
attribute [local go_sem ↓] Go.wp_at_zero Go.wp_at_succ

theorem blk_cells {b : Nat} {t : TypeId} {fr : Nat × Nat} : ∀ (L : List Value) (o : Nat) (w : World) (cs : Array Value), w.heap[b]? = some (.cells cs t fr) →
    ∃ ds : Array Value, (w.setCells b o L).heap[b]? = some (.cells ds t fr) ∧ ds.size = cs.size ∧ ∀ j, ds[j]? = if o ≤ j ∧ j < o + L.length ∧ j < cs.size then L[j - o]? else cs[j]?
  | [], o, w, cs, h => ⟨cs, h, rfl, fun j => by rw [if_neg (by simp; omega)]⟩
  | v :: r, o, w, cs, h => by
    obtain ⟨ds, h1, h2, h3⟩ := blk_cells r (o + 1) _ _ (setB h o v)
    refine ⟨ds, h1, by rw [h2]; simp, fun j => ?_⟩
    rw [h3, Array.size_setIfInBounds, Array.getElem?_setIfInBounds]
    by_cases e : o = j
    · subst e
      rw [if_neg (by omega), if_pos rfl]
      by_cases hs : o < cs.size
      · rw [if_pos (by omega), if_pos (by simp; omega)]; simp
      · rw [if_neg (by omega), if_neg (by omega)]
        rw [Array.getElem?_eq_none (by omega)]
    · by_cases hc : o + 1 ≤ j ∧ j < o + 1 + r.length ∧ j < cs.size
      · rw [if_pos hc, if_pos (by simp; omega)]
        rw [show j - o = (j - (o + 1)) + 1 by omega, List.getElem?_cons_succ]
      · rw [if_neg hc, if_neg e, if_neg (by simp; omega)]
/-- A block that is written whole. -/
theorem blk_set {w : World} {b : Nat} {cs : Array Value} {t : TypeId} {fr : Nat × Nat} (h : w.heap[b]? = some (.cells cs t fr)) {L : List Value} (hL : L.length = cs.size) : (w.setCells b 0 L).heap[b]? = some (.cells L.toArray t fr) := by
  obtain ⟨ds, h1, h2, h3⟩ := blk_cells L 0 w cs h
  rw [h1]
  congr 2
  apply Array.ext_getElem?
  intro j
  rw [h3]
  by_cases hj : j < L.length
  · rw [if_pos (by omega)]; simp
  · rw [if_neg (by omega), Array.getElem?_eq_none (by omega)]; simp; omega
/-- A part of a block that is written. -/
theorem blk_far {b k : Nat} (hk : k ≠ b) : ∀ (L : List Value) (o : Nat) (w : World), (w.setCells b o L).heap[k]? = w.heap[k]?
  | [], _, _ => rfl
  | v :: r, o, w => by rw [World.setCells, blk_far hk r, set_far hk]
theorem blk_size (b : Nat) : ∀ (L : List Value) (o : Nat) (w : World), (w.setCells b o L).heap.size = w.heap.size
  | [], _, _ => rfl
  | v :: r, o, w => by rw [World.setCells, blk_size b r]; simp [World.setCell]
theorem blk_there {w : World} {b : Nat} {cs : Array Value} {t : TypeId} (h : w.heap[b]? = some (.cells cs t)) (o n : Nat) (hn : o + n ≤ cs.size) : w.there b o n := fun j hj => by
  refine ⟨?_, frozenB h _⟩
  rw [cellB h (o + j) _ (Array.getElem?_eq_getElem (by omega))]; rfl
theorem blk_range {w : World} {b : Nat} {t : TypeId} {fr : Nat × Nat} {L : List Value} (h : w.heap[b]? = some (.cells L.toArray t fr)) : w.rangeAt b 0 L := fun j v hv => by
  rw [Nat.zero_add]; exact cellB h j v (by rw [List.getElem?_toArray]; exact hv)
theorem blk_below {B b : Nat} {w0 : World} (hb : B ≤ b) : ∀ (L : List Value) (o : Nat) (w : World), Below B w0 w → Below B w0 (w.setCells b o L)
  | [], _, _, h => h
  | v :: r, o, w, h => by
    rw [World.setCells]
    exact blk_below hb r (o + 1) _ (h.setCell (p := ⟨b, o, none⟩) hb v)

theorem Tryz.size88 : (Tryz.prog.info? 88).map (·.size) = some 5 := by kernel_rfl
theorem Tryz.size23 : (Tryz.prog.info? 23).map (·.size) = some 4 := by kernel_rfl
theorem Tryz.size25 : (Tryz.prog.info? 25).map (·.size) = some 6 := by kernel_rfl
/-- A function's one result that lies in a block. -/
theorem results_one {P : Program} {fn : Func} {tmps : Array Value} {w : World} {a : Nat} {t : TypeId} {b : Addr} {v : Value} (hr : fn.results = #[.cell a t]) (ha : tmps.getD a undef = .pointer (some b)) (hv : (loadVar t b).run P w = .ok v w) :
    (results fn tmps).run P w = .ok v w := by
  have e : (asAddr (tmps.getD a undef)).run P w = .ok b w := by rw [ha]; rfl
  simp only [results, hr]
  simp only [List.mapM_toArray, List.mapM_cons, List.mapM_nil, Sem.run_bind, Sem.run_map, e, hv, Result.andThen_ok, Sem.run_pure]
  rfl
theorem results_two {P : Program} {fn : Func} {tmps : Array Value} {w : World} {a k : Nat} {t : TypeId} {b : Addr} {v u : Value} (hr : fn.results = #[.cell a t, .tmp k]) (ha : tmps.getD a undef = .pointer (some b)) (hu : tmps.getD k undef = u) (hv : (loadVar t b).run P w = .ok v w) :
    (results fn tmps).run P w = .ok (.tuple #[v, u]) w := by
  subst hu
  have e : (asAddr (tmps.getD a undef)).run P w = .ok b w := by rw [ha]; rfl
  simp only [results, hr]
  simp only [List.mapM_toArray, List.mapM_cons, List.mapM_nil, Sem.run_bind, Sem.run_map, e, hv, Result.andThen_ok, Sem.run_pure]
  rfl
theorem res66 {W : World} {R : Nat} {L : List Value} (h : W.rangeAt R 0 L) (hl : L.length = 5) : (loadVar 88 ⟨R, 0, none⟩).run Tryz.prog W = .ok (.agg L.toArray) W :=
  run_loadVar_mid W R 0 88 L _ h Tryz.underlying88 rfl (by rw [hl]; exact Tryz.size88)
theorem res23 {W : World} {R : Nat} {L : List Value} (h : W.rangeAt R 0 L) (hl : L.length = 4) : (loadVar 23 ⟨R, 0, none⟩).run Tryz.prog W = .ok (.agg L.toArray) W :=
  run_loadVar_mid W R 0 23 L _ h Tryz.underlying23 rfl (by rw [hl]; exact Tryz.size23)
theorem res25 {W : World} {R : Nat} {L : List Value} (h : W.rangeAt R 0 L) (hl : L.length = 6) : (loadVar 25 ⟨R, 0, none⟩).run Tryz.prog W = .ok (.agg L.toArray) W :=
  run_loadVar_mid W R 0 25 L _ h Tryz.underlying25 rfl (by rw [hl]; exact Tryz.size25)
/-- Numbers of Nat. -/
def zi (l : List Nat) : List Int := l.map fun (n : Nat) => (n : Int)
theorem zi_len (l : List Nat) : (zi l).length = l.length := by simp [zi]
theorem zi_at (l : List Nat) (k : Nat) (t : Nat) (h : l[k]? = some t) : (zi l)[k]? = some (t : Int) := by simp [zi, h]
theorem cnt_snoc (l : List Nat) (t g : Nat) : cnt (l ++ [t]) g = cnt l g + if t == g then 1 else 0 := by
  unfold cnt
  rw [List.foldl_append]
  simp only [List.foldl_cons, List.foldl_nil]
  split <;> rfl
theorem cnt_le (l : List Nat) (g : Nat) : cnt l g ≤ l.length := by
  have : ∀ (l : List Nat) (n : Nat), l.foldl (fun n x => if x == g then n + 1 else n) n ≤ n + l.length := by
    intro l
    induction l with
    | nil => intro n; simp
    | cons a r ih => intro n; simp only [List.foldl_cons, List.length_cons]; refine Nat.le_trans (ih _) ?_; split <;> omega
  have := this l 0
  unfold cnt; omega
theorem lds_set (f : Nat → Nat) (t : Nat) (ht : t ≤ 4) (v : Nat) : (lds f).setIfInBounds t (.int .i64 v) = lds (fun x => if x = t then v else f x) := by
  rcases t with _ | _ | _ | _ | _ | t
  all_goals first | rfl | omega
theorem four_at (a b c d : Nat) (k t : Nat) (h : [a, b, c, d][k]? = some t) : (#[Value.int .i64 (a : Int), .int .i64 (b : Int), .int .i64 (c : Int), .int .i64 (d : Int)] : Array Value)[k]? = some (.int .i64 t) := by
  rcases k with _ | _ | _ | _ | k <;> simp at h <;> subst h <;> rfl
/-- Four owners as cells. -/
abbrev ow (a b c d : Nat) : Array Value := #[Value.int .i64 (a : Int), .int .i64 (b : Int), .int .i64 (c : Int), .int .i64 (d : Int)]
theorem ones_lds (f : Nat → Nat) : (lds f).all (·.oneCell') = true := by simp [Value.oneCell']
theorem zero_lds : (#[Value.int .i64 0, .int .i64 0, .int .i64 0, .int .i64 0, .int .i64 0] : Array Value) = lds (cnt []) := rfl
set_option maxRecDepth 20000 in
set_option maxHeartbeats 4000000 in
theorem count_any (a b c d : Nat) (ha : a ≤ 4) (hb : b ≤ 4) (hc : c ≤ 4) (hd : d ≤ 4) (w : World) :
    Calls Tryz.prog 45 #[.agg (ow a b c d)] w fun e W' => e = .returned (.agg (lds (cnt [a, b, c, d]))) ∧ Below w.heap.size w W' := by
  have hall : ∀ (k t : Nat), [a, b, c, d][k]? = some t → t ≤ 4 := by
    intro k t h
    rcases k with _ | _ | _ | _ | k <;> simp at h <;> omega
  have hat := four_at a b c d
  obtain ⟨W0, hW0⟩ : ∃ W, ((w.alloc (.cells (ow a b c d) 23)).alloc (.cells (lds (cnt [])) 88)).alloc (.cells (lds (cnt [])) 88) = W := ⟨_, rfl⟩
  have hb0 : Below w.heap.size w W0 := by
    rw [← hW0]
    exact (((Below.refl _ w).alloc (Nat.le_refl _) _).alloc (by simp) _).alloc (by simp; omega) _
  have hsz : W0.heap.size = w.heap.size + 3 := by rw [← hW0]; simp
  have r0 : W0.heap[w.heap.size]? = some (.cells (ow a b c d) 23) := by
    rw [← hW0]
    exact ((Below.heap_alloc _ _ _ (by simp; omega)).trans (Below.heap_alloc _ _ _ (by simp))).trans (heap_alloc_new _ _)
  have r1 : W0.heap[w.heap.size + 1]? = some (.cells (lds (cnt [])) 88) := by
    rw [← hW0]
    refine (Below.heap_alloc _ _ _ (by simp)).trans ?_
    have := heap_alloc_new (w.alloc (.cells (ow a b c d) 23)) (.cells (lds (cnt [])) 88)
    rwa [show (w.alloc (.cells (ow a b c d) 23)).heap.size = w.heap.size + 1 by simp] at this
  have r2 : W0.heap[w.heap.size + 2]? = some (.cells (lds (cnt [])) 88) := by
    rw [← hW0]
    have := heap_alloc_new ((w.alloc (.cells (ow a b c d) 23)).alloc (.cells (lds (cnt [])) 88)) (.cells (lds (cnt [])) 88)
    rwa [show ((w.alloc (.cells (ow a b c d) 23)).alloc (.cells (lds (cnt [])) 88)).heap.size = w.heap.size + 2 by simp] at this
  have HV : Hid (((w.alloc (.cells (ow a b c d) 23)).alloc (.cells (lds (cnt [])) 88)).alloc (.cells (lds (cnt [])) 88) = W0) := hW0
  have HR0 : Hid (W0.heap[w.heap.size]? = some (.cells (ow a b c d) 23)) := r0
  have HR1 : Hid (W0.heap[w.heap.size + 1]? = some (.cells (lds (cnt [])) 88)) := r1
  have HR2 : Hid (W0.heap[w.heap.size + 2]? = some (.cells (lds (cnt [])) 88)) := r2
  have Hat : Hid (∀ (k t : Nat), [a, b, c, d][k]? = some t → (ow a b c d)[k]? = some (.int .i64 t)) := hat
  clear hW0 r0 r1 r2 hat hsz
  obtain ⟨os, ho⟩ : ∃ os, [a, b, c, d] = os := ⟨_, rfl⟩
  have hol : os.length = 4 := by rw [← ho]; rfl
  rw [ho] at hall Hat ⊢
  clear ho ha hb hc hd
  go_enter Tryz.func45, Tryz.ntmps45
  go_upto_region 2 with fail
  rw [zero_lds, HV.out]
  clear HV
  go_wp2_with fail
  go_loopg [5] 4 (fun gk i wr => ∃ k : Nat, k + gk = 4 ∧ i = .int .i64 k ∧ Below w.heap.size w wr ∧ wr.heap[w.heap.size]? = some (.cells (ow a b c d) 23) ∧ wr.heap[w.heap.size + 1]? = some (.cells (lds (cnt [])) 88) ∧ wr.heap[w.heap.size + 2]? = some (.cells (lds (cnt (os.take k))) 88))
  case atStart => exact ⟨0, by omega, rfl, hb0, HR0.out, HR1.out, HR2.out⟩
  case round =>
    obtain ⟨k, hk, rfl, hB, q0, q1, q2⟩ := hrel
    clear HR0 HR1 HR2 hb0
    by_cases hlt : k < 4
    · obtain ⟨t, ht⟩ : ∃ t, os[k]? = some t := ⟨_, List.getElem?_eq_getElem (by omega)⟩
      have t4 := hall k t ht
      have t5 : t < 5 := by omega
      have x1 := cellB q0 k _ (Hat.out k t ht)
      have x2 := cellB q2 t _ (lds_at (cnt (os.take k)) t t4)
      have x3 := frozenB q2 t
      have k0 : (0 : Int) ≤ (k : Int) := by omega
      have k1 : (k : Int) < 4 := by omega
      have hcl : cnt (os.take k) t ≤ 4 := Nat.le_trans (cnt_le _ _) (by simp; omega)
      have htk : os.take (k + 1) = os.take k ++ [t] := by rw [List.take_add_one, ht]; rfl
      have HT : Hid ((lds (cnt (os.take k))).setIfInBounds t (.int .i64 ((cnt (os.take k) t + 1 : Nat) : Int)) = lds (cnt (os.take (k + 1)))) := by
        show _ = _
        rw [lds_set _ t t4, htk]
        congr 1
        funext x
        rw [cnt_snoc]
        by_cases e : x = t
        · subst e; simp
        · rw [if_neg e, if_neg (by simp; exact fun h => e h.symm), Nat.add_zero]
      obtain ⟨n, hn⟩ : ∃ n, cnt (os.take k) t = n := ⟨_, rfl⟩
      rw [hn] at x2 hcl HT
      have Q0 : Hid (wr.heap[w.heap.size]? = some (.cells (ow a b c d) 23)) := q0
      have Q1 : Hid (wr.heap[w.heap.size + 1]? = some (.cells (lds (cnt [])) 88)) := q1
      have Q2 : Hid (wr.heap[w.heap.size + 2]? = some (.cells (lds (cnt (os.take k))) 88)) := q2
      clear q0 q1 q2 ht htk hn Hat hall
      go_wp2
      go_roundg (4 - (k + 1))
      case measure => omega
      case rel =>
        refine ⟨k + 1, by omega, by go_num, hB.setCell (by simp; omega) _, (set_far (by omega) _ _).trans Q0.out, (set_far (by omega) _ _).trans Q1.out, ?_⟩
        rw [← HT.out]
        refine (setB Q2.out t _).trans ?_
        congr 4
    · have hkl : k = 4 := by omega
      subst hkl
      have htk : os.take 4 = os := by rw [← hol]; exact List.take_length
      rw [htk] at q2
      have k1 := blk_range (L := (lds (cnt os)).toList) q2
      have k2 := blk_there q1 0 5 (Nat.le_refl _)
      have k3 : Below w.heap.size w (wr.setCells (w.heap.size + 1) 0 (lds (cnt os)).toList) := blk_below (by omega) _ _ _ hB
      have k4 := blk_range (blk_set q1 (L := (lds (cnt os)).toList) rfl)
      have K1 : Hid (wr.rangeAt (w.heap.size + 2) 0 (lds (cnt os)).toList) := k1
      have K2 : Hid (wr.there (w.heap.size + 1) 0 5) := k2
      have K3 : Hid (Below w.heap.size w (wr.setCells (w.heap.size + 1) 0 (lds (cnt os)).toList)) := k3
      have K4 : Hid ((wr.setCells (w.heap.size + 1) 0 (lds (cnt os)).toList).rangeAt (w.heap.size + 1) 0 (lds (cnt os)).toList) := k4
      clear k1 k2 k3 k4 q0 q1 q2 htk Hat hall
      go_wp2_with (first
        | (refine wpList_load_mid rfl 88 _ rfl (w.heap.size + 2) 0 rfl (lds (cnt os)).toList _ K1.out Tryz.underlying88 rfl Tryz.size88 ?_)
        | (refine wpList_store_mid rfl 88 _ _ rfl (w.heap.size + 1) 0 (lds (cnt os)) rfl rfl K2.out Tryz.size88 (ones_lds _) ?_))
      exact bodyPost_ret (v := .agg (lds (cnt os))) (results_one rfl rfl (res66 K4.out rfl)) rfl ⟨rfl, K3.out⟩
end
section
open Go.RowKit
attribute [local go_sem ↓] Go.wp_at_zero Go.wp_at_succ

/-- The first of the groups that has fewest. -/
def fewSt (f : Nat → Nat) (m x : Nat) : Nat := if f x < f m then x else m
def fewF (f : Nat → Nat) : List Nat → Nat
  | [] => 0
  | g :: r => r.foldl (fewSt f) g
theorem fewG_eq (gs o : List Nat) : fewG gs o = fewF (cnt o) gs := by cases gs <;> rfl
set_option maxRecDepth 20000 in
set_option maxHeartbeats 2000000 in
theorem MinFunc_any (f : Nat → Nat) (gs : List Nat) (hg : ∀ x ∈ gs, x ≤ 4) (hl : 0 < gs.length) (hl2 : gs.length ≤ 1000) (gv : Value) (w : World) (hu : Il w gv (zi gs)) :
    Calls Tryz.prog 122 #[gv, .func (.func 121) #[.agg (lds f)] #[]] w fun e W' => e = .returned (.int .i64 (fewF f gs)) ∧ Below w.heap.size w W' := by
  obtain ⟨pa, pc, rfl⟩ := hu.slice
  obtain ⟨n, hn⟩ : ∃ n, gs[0]? = some n := ⟨_, List.getElem?_eq_getElem hl⟩
  obtain ⟨b1, o1, rfl, hb1, x1⟩ := hu.at (zi_at gs 0 n hn)
  have HZ : Hid (fewF f gs = (gs.drop 1).foldl (fewSt f) n) := by
    show _ = _
    cases gs with
    | nil => simp at hl
    | cons a r => simp at hn; subst hn; rfl
  have n4 : n ≤ 4 := hg n (List.mem_of_getElem? hn)
  have hl3 : ¬ gs.length < 1 := by omega
  rw [zi_len]
  rw [zi_len] at hu
  rw [Nat.add_zero] at x1
  clear hn
  go_enter Tryz.func122, Tryz.ntmps122
  go_upto_region 4 with fail
  go_wp2_with fail
  go_loopg [5, 6] (gs.length - 1) (fun gk mv i wr => ∃ k m : Nat, k + gk = gs.length ∧ 1 ≤ k ∧ i = .int .i64 k ∧ mv = .int .i64 m ∧ m ≤ 4 ∧ Below w.heap.size w wr ∧ fewF f gs = (gs.drop k).foldl (fewSt f) m)
  case atStart => exact ⟨1, n, by omega, by omega, rfl, rfl, n4, Below.refl _ _, HZ.out⟩
  case round =>
    obtain ⟨k, m, hk, hk1, rfl, rfl, hm, hB, hfo⟩ := hrel
    clear HZ x1 n4
    by_cases hlt : k < gs.length
    · obtain ⟨t, ht⟩ : ∃ t, gs[k]? = some t := ⟨_, List.getElem?_eq_getElem hlt⟩
      have hu1 := hu.next hB
      have x1 : wr.cell? ⟨b1, o1 + k, none⟩ = some (.int .i64 t) := by
        rcases hu1 with ⟨h0, _⟩ | ⟨b2, o2, cap, hv, _, h⟩
        · have h9 : (zi gs).length = 0 := by rw [h0]; rfl
          rw [zi_len] at h9; omega
        · injection hv with h1 _ _; injection h1 with h1; injection h1 with h1 h2 _; subst h1; subst h2; exact h k t (zi_at gs k t ht)
      have t4 : t ≤ 4 := hg t (List.mem_of_getElem? ht)
      have hdr : gs.drop k = t :: gs.drop (k + 1) := by
        rw [List.drop_eq_getElem_cons hlt]; congr 1
        rw [List.getElem?_eq_getElem hlt] at ht; exact Option.some.inj ht
      have HS : Hid (fewF f gs = (gs.drop (k + 1)).foldl (fewSt f) (fewSt f m t)) := by show _ = _; rw [hfo, hdr]; rfl
      have hC := fun W => compare_any f t m t4 hm W
      have k0 : (0 : Int) ≤ (k : Int) := by omega
      have k1 : (k : Int) < (gs.length : Int) := by omega
      have Hu : Hid (Il w (.slice (some ⟨b1, o1, none⟩) gs.length pc) (zi gs)) := hu
      clear hdr hfo hu hu1 ht hg
      by_cases hcm : f t < f m
      · have hq : cmpN (f t) (f m) = -1 := by simp [cmpN, hcm]
        rw [hq] at hC
        have HT : Hid (fewSt f m t = t) := by show _ = _; simp [fewSt, hcm]
        clear hq hcm
        go_wp2_with (first | (go_at_call 121; refine (hC _).mono ?_; rintro e w1 ⟨rfl, hb1'⟩; have y1 := (hb1'.cell (p := ⟨b1, o1 + k, none⟩) (Nat.lt_of_lt_of_le hb1 hB.size)).trans x1))
        go_roundg (gs.length - (k + 1))
        case measure => omega
        case rel => exact ⟨k + 1, t, by omega, by omega, by go_num, rfl, t4, hB.trans (hb1'.mono hB.size), by rw [HS.out, HT.out]⟩
      · have hq : 0 ≤ (cmpN (f t) (f m)) := by unfold cmpN; split <;> (try split) <;> first | omega | decide
        obtain ⟨z, hz⟩ : ∃ z, cmpN (f t) (f m) = z := ⟨_, rfl⟩
        rw [hz] at hC hq
        have HT : Hid (fewSt f m t = m) := by show _ = _; simp [fewSt, hcm]
        clear hz hcm
        go_wp2_with (first | (go_at_call 121; refine (hC _).mono ?_; rintro e w1 ⟨rfl, hb1'⟩))
        go_roundg (gs.length - (k + 1))
        case measure => omega
        case rel => exact ⟨k + 1, m, by omega, by omega, by go_num, rfl, hm, hB.trans (hb1'.mono hB.size), by rw [HS.out, HT.out]⟩
    · have hkl : k = gs.length := by omega
      have HT : Hid (fewF f gs = m) := by show _ = _; rw [hfo, hkl, List.drop_length]; rfl
      clear hfo
      subst hkl
      go_wp2
      go_ret
      exact ⟨by rw [HT.out]; rfl, hB⟩
set_option maxHeartbeats 1000000 in
theorem fewest_any (f : Nat → Nat) (gs : List Nat) (hg : ∀ x ∈ gs, x ≤ 4) (hl : 0 < gs.length) (hl2 : gs.length ≤ 1000) (gv : Value) (w : World) (hu : Il w gv (zi gs)) :
    Calls Tryz.prog 100 #[.agg (lds f), gv] w fun e W' => e = .returned (.int .i64 (fewF f gs)) ∧ Below w.heap.size w W' := by
  have hb0 : Below w.heap.size w (w.alloc (.cells (lds f) 88)) := (Below.refl _ w).alloc (Nat.le_refl _) _
  have r0 := heap_alloc_new w (.cells (lds f) 88)
  have hM := MinFunc_any f gs hg hl hl2 gv _ (hu.next hb0)
  obtain ⟨W0, hW0⟩ : ∃ W, w.alloc (.cells (lds f) 88) = W := ⟨_, rfl⟩
  rw [hW0] at hb0 r0 hM
  have HW : Hid (w.alloc (.cells (lds f) 88) = W0) := hW0
  have K1 : Hid (W0.rangeAt w.heap.size 0 (lds f).toList) := blk_range (L := (lds f).toList) r0
  obtain ⟨pa, pc, rfl⟩ := hu.slice
  obtain ⟨R, hR⟩ : ∃ R, fewF f gs = R := ⟨_, rfl⟩
  rw [hR] at hM ⊢
  clear r0 hW0 hu hg hl hl2 hR
  go_enter Tryz.func100, Tryz.ntmps100
  go_upto_region 1 with fail
  rw [HW.out]
  clear HW
  go_wp2_with (first
    | (refine wpList_load_mid rfl 88 _ rfl w.heap.size 0 rfl (lds f).toList _ K1.out Tryz.underlying88 rfl Tryz.size88 ?_)
    | (go_at_call 122; refine hM.mono ?_; rintro e w1 ⟨rfl, hb1⟩))
  go_ret
  exact ⟨rfl, hb0.trans (hb1.mono hb0.size)⟩

/-- The first of the groups that has most. -/
def manySt (f : Nat → Nat) (m x : Nat) : Nat := if f m < f x then x else m
def manyF (f : Nat → Nat) : List Nat → Nat
  | [] => 0
  | g :: r => r.foldl (manySt f) g
theorem manyG_eq (gs o : List Nat) : manyG gs o = manyF (cnt o) gs := by cases gs <;> rfl
set_option maxRecDepth 20000 in
set_option maxHeartbeats 2000000 in
theorem MaxFunc_any (f : Nat → Nat) (gs : List Nat) (hg : ∀ x ∈ gs, x ≤ 4) (hl : 0 < gs.length) (hl2 : gs.length ≤ 1000) (gv : Value) (w : World) (hu : Il w gv (zi gs)) :
    Calls Tryz.prog 120 #[gv, .func (.func 121) #[.agg (lds f)] #[]] w fun e W' => e = .returned (.int .i64 (manyF f gs)) ∧ Below w.heap.size w W' := by
  obtain ⟨pa, pc, rfl⟩ := hu.slice
  obtain ⟨n, hn⟩ : ∃ n, gs[0]? = some n := ⟨_, List.getElem?_eq_getElem hl⟩
  obtain ⟨b1, o1, rfl, hb1, x1⟩ := hu.at (zi_at gs 0 n hn)
  have HZ : Hid (manyF f gs = (gs.drop 1).foldl (manySt f) n) := by
    show _ = _
    cases gs with
    | nil => simp at hl
    | cons a r => simp at hn; subst hn; rfl
  have n4 : n ≤ 4 := hg n (List.mem_of_getElem? hn)
  have hl3 : ¬ gs.length < 1 := by omega
  rw [zi_len]
  rw [zi_len] at hu
  rw [Nat.add_zero] at x1
  clear hn
  go_enter Tryz.func120, Tryz.ntmps120
  go_upto_region 4 with fail
  go_wp2_with fail
  go_loopg [5, 6] (gs.length - 1) (fun gk mv i wr => ∃ k m : Nat, k + gk = gs.length ∧ 1 ≤ k ∧ i = .int .i64 k ∧ mv = .int .i64 m ∧ m ≤ 4 ∧ Below w.heap.size w wr ∧ manyF f gs = (gs.drop k).foldl (manySt f) m)
  case atStart => exact ⟨1, n, by omega, by omega, rfl, rfl, n4, Below.refl _ _, HZ.out⟩
  case round =>
    obtain ⟨k, m, hk, hk1, rfl, rfl, hm, hB, hfo⟩ := hrel
    clear HZ x1 n4
    by_cases hlt : k < gs.length
    · obtain ⟨t, ht⟩ : ∃ t, gs[k]? = some t := ⟨_, List.getElem?_eq_getElem hlt⟩
      have hu1 := hu.next hB
      have x1 : wr.cell? ⟨b1, o1 + k, none⟩ = some (.int .i64 t) := by
        rcases hu1 with ⟨h0, _⟩ | ⟨b2, o2, cap, hv, _, h⟩
        · have h9 : (zi gs).length = 0 := by rw [h0]; rfl
          rw [zi_len] at h9; omega
        · injection hv with h1 _ _; injection h1 with h1; injection h1 with h1 h2 _; subst h1; subst h2; exact h k t (zi_at gs k t ht)
      have t4 : t ≤ 4 := hg t (List.mem_of_getElem? ht)
      have hdr : gs.drop k = t :: gs.drop (k + 1) := by
        rw [List.drop_eq_getElem_cons hlt]; congr 1
        rw [List.getElem?_eq_getElem hlt] at ht; exact Option.some.inj ht
      have HS : Hid (manyF f gs = (gs.drop (k + 1)).foldl (manySt f) (manySt f m t)) := by show _ = _; rw [hfo, hdr]; rfl
      have hC := fun W => compare_any f t m t4 hm W
      have k0 : (0 : Int) ≤ (k : Int) := by omega
      have k1 : (k : Int) < (gs.length : Int) := by omega
      have Hu : Hid (Il w (.slice (some ⟨b1, o1, none⟩) gs.length pc) (zi gs)) := hu
      clear hdr hfo hu hu1 ht hg
      by_cases hcm : f m < f t
      · have hq : cmpN (f t) (f m) = 1 := by simp [cmpN, hcm, Nat.not_lt.2 (Nat.le_of_lt hcm)]
        rw [hq] at hC
        have HT : Hid (manySt f m t = t) := by show _ = _; simp [manySt, hcm]
        clear hq hcm
        go_wp2_with (first | (go_at_call 121; refine (hC _).mono ?_; rintro e w1 ⟨rfl, hb1'⟩; have y1 := (hb1'.cell (p := ⟨b1, o1 + k, none⟩) (Nat.lt_of_lt_of_le hb1 hB.size)).trans x1))
        go_roundg (gs.length - (k + 1))
        case measure => omega
        case rel => exact ⟨k + 1, t, by omega, by omega, by go_num, rfl, t4, hB.trans (hb1'.mono hB.size), by rw [HS.out, HT.out]⟩
      · have hq : 0 ≥ (cmpN (f t) (f m)) := by unfold cmpN; split <;> (try split) <;> first | omega | decide
        obtain ⟨z, hz⟩ : ∃ z, cmpN (f t) (f m) = z := ⟨_, rfl⟩
        rw [hz] at hC hq
        have HT : Hid (manySt f m t = m) := by show _ = _; simp [manySt, hcm]
        clear hz hcm
        go_wp2_with (first | (go_at_call 121; refine (hC _).mono ?_; rintro e w1 ⟨rfl, hb1'⟩))
        go_roundg (gs.length - (k + 1))
        case measure => omega
        case rel => exact ⟨k + 1, m, by omega, by omega, by go_num, rfl, hm, hB.trans (hb1'.mono hB.size), by rw [HS.out, HT.out]⟩
    · have hkl : k = gs.length := by omega
      have HT : Hid (manyF f gs = m) := by show _ = _; rw [hfo, hkl, List.drop_length]; rfl
      clear hfo
      subst hkl
      go_wp2
      go_ret
      exact ⟨by rw [HT.out]; rfl, hB⟩
set_option maxHeartbeats 1000000 in
theorem most_any (f : Nat → Nat) (gs : List Nat) (hg : ∀ x ∈ gs, x ≤ 4) (hl : 0 < gs.length) (hl2 : gs.length ≤ 1000) (gv : Value) (w : World) (hu : Il w gv (zi gs)) :
    Calls Tryz.prog 99 #[.agg (lds f), gv] w fun e W' => e = .returned (.int .i64 (manyF f gs)) ∧ Below w.heap.size w W' := by
  have hb0 : Below w.heap.size w (w.alloc (.cells (lds f) 88)) := (Below.refl _ w).alloc (Nat.le_refl _) _
  have r0 := heap_alloc_new w (.cells (lds f) 88)
  have hM := MaxFunc_any f gs hg hl hl2 gv _ (hu.next hb0)
  obtain ⟨W0, hW0⟩ : ∃ W, w.alloc (.cells (lds f) 88) = W := ⟨_, rfl⟩
  rw [hW0] at hb0 r0 hM
  have HW : Hid (w.alloc (.cells (lds f) 88) = W0) := hW0
  have K1 : Hid (W0.rangeAt w.heap.size 0 (lds f).toList) := blk_range (L := (lds f).toList) r0
  obtain ⟨pa, pc, rfl⟩ := hu.slice
  obtain ⟨R, hR⟩ : ∃ R, manyF f gs = R := ⟨_, rfl⟩
  rw [hR] at hM ⊢
  clear r0 hW0 hu hg hl hl2 hR
  go_enter Tryz.func99, Tryz.ntmps99
  go_upto_region 1 with fail
  rw [HW.out]
  clear HW
  go_wp2_with (first
    | (refine wpList_load_mid rfl 88 _ rfl w.heap.size 0 rfl (lds f).toList _ K1.out Tryz.underlying88 rfl Tryz.size88 ?_)
    | (go_at_call 120; refine hM.mono ?_; rintro e w1 ⟨rfl, hb1⟩))
  go_ret
  exact ⟨rfl, hb0.trans (hb1.mono hb0.size)⟩
end
end Go.Proofs.YtfolnlgceighbaaGreatDoor
