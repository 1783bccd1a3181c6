/- The bell's Tick and Next, walked; and the plain Ints. -/
import Derived.Test.YtemmnojcickcpaaBeJ
namespace Go.Proofs.Ytemmnojcickcpaa
open Go.RowKit
attribute [local go_sem ↓] Go.wp_at_zero Go.wp_at_succ

theorem Tick_bad (p : Option Addr) (b : Int) (w : World) (hb : b < 0 ∨ 0 ≤ b ∧ 4096 < b) : Calls Try.prog 35 #[.pointer p, .int .i64 b] w fun e W' => e = .returned (.tuple #[.slice none 0 0, .int .i64 1]) ∧ W' = w := by
  rcases hb with h | ⟨h, h2⟩
  all_goals
    go_enter Try.func35, Try.ntmps35
    go_wp2
    go_ret2
    exact ⟨rfl, rfl⟩
theorem Tick_nil (b : Int) (w : World) (h1 : 0 ≤ b) (h2 : b ≤ 4096) : Calls Try.prog 35 #[.pointer none, .int .i64 b] w fun e W' => e = .returned (.tuple #[.slice none 0 0, .int .i64 7]) ∧ W' = w := by
  go_enter Try.func35, Try.ntmps35
  go_wp2
  go_ret2
  exact ⟨rfl, rfl⟩
set_option maxRecDepth 20000 in
set_option maxHeartbeats 2000000 in
theorem Tick_long {base : Nat} {w : World} {B : Nat} {v : Value} {F : Ft} {now : Int} (h : BelSt base w B v F now) (b : Int) (h1 : 0 ≤ b) (h2 : b ≤ 4096) (hw0 : 0 ≤ now) (hw1 : now ≤ 1099511627776) (hl : 1099511627776 < now + b) :
    Calls Try.prog 35 #[.pointer (some ⟨B, 0, none⟩), .int .i64 b] w fun e W' => e = .returned (.tuple #[.slice none 0 0, .int .i64 2]) ∧ W' = w := by
  obtain ⟨l, hb, _⟩ := h
  have c1 := cellB hb.blk 1 (.int .i64 now) rfl
  clear hb
  go_enter Try.func35, Try.ntmps35
  go_wp2
  go_ret2
  exact ⟨rfl, rfl⟩
set_option maxRecDepth 20000 in
set_option maxHeartbeats 2000000 in
theorem Tick_ok {base : Nat} {w : World} {B : Nat} {v : Value} {F : Ft} {now : Int} (h : BelSt base w B v F now) (b : Int) (h1 : 0 ≤ b) (h2 : b ≤ 4096) (hw0 : 0 ≤ now) (hl : now + b ≤ 1099511627776) :
    Calls Try.prog 35 #[.pointer (some ⟨B, 0, none⟩), .int .i64 b] w fun e W' => ∃ u P v', e = .returned (.tuple #[u, .int .i64 0]) ∧ W'.ownsRow w.heap.size 3 1 u P.length (mcs P) ∧ Rings F (now + b) P ∧ BelSt base W' B v' (late F (now + b)) (now + b) ∧ Moved B v v' w W' := by
  obtain ⟨l, hb, hH, hR⟩ := h
  have c1 := cellB hb.blk 1 (.int .i64 now) rfl
  have f1 := frozenB hb.blk 1
  have hr := setB hb.blk 1 (.int .i64 (now + b))
  have hs : BelSt base (w.setCell ⟨B, 1, none⟩ (.int .i64 (now + b))) B v F (now + b) := ⟨l, ⟨hr, owns_kept hb.own (fun k hk => set_far (fun e => hb.ne (by rw [← e]; exact hk)) _ _), hb.ne, hb.base⟩, hH, hR⟩
  have hm : Moved B v v w (w.setCell ⟨B, 1, none⟩ (.int .i64 (now + b))) := ⟨rfl, rfl, rfl, by simp [World.setCell], fun k _ h1 _ => set_far h1 _ _, fun k hk => .inl hk⟩
  have hsz : w.heap.size = (w.setCell ⟨B, 1, none⟩ (.int .i64 (now + b))).heap.size := by simp [World.setCell]
  have HSZ : Hid (_) := hsz
  have hRg := ring_any hs
  have HM : Hid (_) := hm
  clear hr hs hm hsz hb hH hR
  go_enter Try.func35, Try.ntmps35
  go_wp2_with (go_at_call 47; refine hRg.mono ?_; rintro e w2 ⟨u, P, v2, rfl, hrow, hri, hb2, hm2⟩)
  obtain ⟨ua, uc, rfl⟩ := owns_slice hrow
  go_ret2
  exact ⟨_, P, v2, rfl, by rw [HSZ.out]; exact hrow, hri, hb2, HM.out.trans hm2⟩
/-- The least moment of all, and whether there is one. -/
def NextIs (F : Ft) (d : Int) (b : Bool) : Prop := (b = false ∧ d = 0 ∧ ∀ n, F n = none) ∨ (b = true ∧ (∃ n s, F n = some (d, s)) ∧ ∀ n d' s', F n = some (d', s') → d ≤ d')
set_option maxRecDepth 20000 in
set_option maxHeartbeats 2000000 in
theorem Next_any {base : Nat} {w : World} {B : Nat} {v : Value} {F : Ft} {now : Int} (h : BelSt base w B v F now) :
    Calls Try.prog 26 #[.pointer (some ⟨B, 0, none⟩)] w fun e W' => ∃ d b, e = .returned (.tuple #[.int .i64 d, .bool b]) ∧ NextIs F d b ∧ W' = w := by
  obtain ⟨l, hb, hH, hR⟩ := h
  obtain ⟨a, cap, hv⟩ := hb.slice
  have c0 := cellB hb.blk 0 v rfl
  rw [hv] at c0
  by_cases h0 : l.length = 0
  · have hl : l = [] := List.length_eq_zero_iff.1 h0
    have HN : Hid (NextIs F 0 false) := .inl ⟨rfl, rfl, fun n => hR.hasnt (fun t ht => by rw [hl] at ht; cases ht)⟩
    rw [h0] at c0
    clear hb hH hR hv hl h0
    have hC : Calls Try.prog 26 #[.pointer (some ⟨B, 0, none⟩)] w fun e W' => e = .returned (.tuple #[.int .i64 0, .bool false]) ∧ W' = w := by
      go_enter Try.func26, Try.ntmps26
      go_wp2
      go_ret2
      exact ⟨rfl, rfl⟩
    exact hC.mono (fun e W' ⟨he, hw⟩ => ⟨0, false, he, HN.out, hw⟩)
  · have hl0 : 0 < l.length := by omega
    obtain ⟨⟨t0, t1, t2⟩, ht⟩ : ∃ t, l[0]? = some t := ⟨_, List.getElem?_eq_getElem hl0⟩
    obtain ⟨g, cap', hgv, hg1, hg2, hg3, hcap, hcs⟩ := hb.at hl0
    rw [hv] at hgv
    injection hgv with e1 _ e2
    subst e1 e2
    obtain ⟨x0, x1, x2⟩ := hcs 0 _ ht
    simp only [Nat.zero_mul, Nat.zero_add] at x0 x1 x2
    have HN : Hid (NextIs F t1 true) := by
      refine .inr ⟨rfl, ⟨t0, t2, hR.has (List.mem_of_getElem? ht)⟩, fun n d' s' hF => ?_⟩
      have hm := (hR.mem n d' s').2 hF
      obtain ⟨k, hk⟩ := List.mem_iff_getElem?.1 hm
      have := top_least hH k k (Nat.le_refl _) (List.getElem?_eq_some_iff.1 hk).1
      rw [gf_at hk, gf_at ht, less_not] at this
      simp only at this
      omega
    have l1 : (0 : Int) < (l.length : Int) := by omega
    have hq : ((l.length : Int) == 0) = false := by simp; intro e; rw [e] at hl0; simp at hl0
    clear hb hH hR hv hcs ht h0 hl0
    have hC : Calls Try.prog 26 #[.pointer (some ⟨B, 0, none⟩)] w fun e W' => e = .returned (.tuple #[.int .i64 t1, .bool true]) ∧ W' = w := by
      go_enter Try.func26, Try.ntmps26
      go_wp2
      go_ret2
      exact ⟨rfl, rfl⟩
    exact hC.mono (fun e W' ⟨he, hw⟩ => ⟨t1, true, he, HN.out, hw⟩)
/-- v is a slice of just these numbers. -/
def Il (w : World) (v : Value) (ns : List Int) : Prop :=
  (ns = [] ∧ ∃ a c, v = .slice a 0 c) ∨ ∃ b o cap, v = .slice (some ⟨b, o, none⟩) ns.length cap ∧ b < w.heap.size ∧ ∀ (i : Nat) n, ns[i]? = some n → w.cell? ⟨b, o + i, none⟩ = some (.int .i64 n)
theorem Il.below {w w' : World} {v : Value} {ns : List Int} (h : Il w v ns) {B : Nat} (hb : Below B w w') (hB : w.heap.size ≤ B) : Il w' v ns := by
  rcases h with h | ⟨b, o, cap, rfl, hlt, h⟩
  · exact .inl h
  · exact .inr ⟨b, o, cap, rfl, Nat.lt_of_lt_of_le hlt hb.size, fun i n hn => (hb.cell (p := ⟨b, o + i, none⟩) (by show b < B; omega)).trans (h i n hn)⟩
theorem Il.slice {w : World} {v : Value} {ns : List Int} (h : Il w v ns) : ∃ a c, v = .slice a ns.length c := by
  rcases h with ⟨rfl, a, c, rfl⟩ | ⟨b, o, cap, rfl, _⟩
  · exact ⟨a, c, rfl⟩
  · exact ⟨_, _, rfl⟩
theorem Il.at {w : World} {a : Option Addr} {c : Nat} {l : List Int} (h : Il w (.slice a l.length c) l) {k : Nat} {t : Int} (hk : l[k]? = some t) : ∃ b o, a = some ⟨b, o, none⟩ ∧ b < w.heap.size ∧ w.cell? ⟨b, o + k, none⟩ = some (.int .i64 t) := by
  rcases h with ⟨rfl, _⟩ | ⟨b, o, cap, hv, hlt, h⟩
  · cases hk
  · injection hv with h1 _ _
    exact ⟨b, o, h1, hlt, h k t hk⟩
theorem Il.of_owns {w : World} {v : Value} {ns : List Int} {base : Nat} (h : w.ownsRow base 3 1 v ns.length (ns.map fun n => Value.int .i64 n)) : Il w v ns := by
  by_cases h0 : ns.length = 0
  · have hn : ns = [] := List.length_eq_zero_iff.1 h0
    subst hn
    obtain ⟨a, c, rfl⟩ := owns_slice h
    exact .inl ⟨rfl, a, c, rfl⟩
  · obtain ⟨g, cap, rfl, _, hlt⟩ := h.form (by omega)
    refine .inr ⟨g, 0, cap, rfl, hlt, fun i n hn => ?_⟩
    have hi : i < ns.length := (List.getElem?_eq_some_iff.1 hn).1
    rw [Nat.zero_add]
    exact (h.cellAt i (by omega)).trans (by simp [hn])
set_option maxRecDepth 20000 in
set_option maxHeartbeats 4000000 in
theorem Ints_any (ns : List Int) (u v : Value) (w : World) (hu : Il w u ns) (hv : Il w v ns) (hl : ns.length ≤ 1000) :
    Calls Try.prog 36 #[u, v] w fun e W' => e = .returned (.bool true) ∧ Below w.heap.size w W' := by
  obtain ⟨a, c, rfl⟩ := hu.slice
  obtain ⟨a2, c2, rfl⟩ := hv.slice
  go_enter Try.func36, Try.ntmps36
  go_wp2_with fail
  go_loopg [8] ns.length (fun gk i wr => ∃ k : Nat, k + gk = ns.length ∧ i = .int .i64 k ∧ Below w.heap.size w wr)
  case atStart => exact ⟨0, by omega, rfl, Below.refl _ _⟩
  case round =>
    obtain ⟨k, hk, rfl, hb⟩ := hrel
    by_cases hlt : k < ns.length
    · obtain ⟨n, hn⟩ : ∃ n, ns[k]? = some n := ⟨_, List.getElem?_eq_getElem hlt⟩
      obtain ⟨b1, o1, rfl, hb1, x1⟩ := (hu.below hb (Nat.le_refl _)).at hn
      obtain ⟨b2, o2, rfl, hb2, x2⟩ := (hv.below hb (Nat.le_refl _)).at hn
      have k0 : (0 : Int) ≤ (k : Int) := by omega
      have k1 : (k : Int) < (ns.length : Int) := by omega
      have hq : decide (ns.length ≤ k) = false := by simp; omega
      clear hn
      go_wp2_with fail
      go_region_held3 (fun w' => w'.cell? ⟨b1, o1 + k, none⟩ = some (.int .i64 n) ∧ w'.cell? ⟨b2, o2 + k, none⟩ = some (.int .i64 n)) (go_keep) (fail)
      go_wp2
      go_roundg (ns.length - (k + 1))
      case measure => omega
      case rel => exact ⟨k + 1, by omega, by go_num, below_drew hb⟩
    · have hkl : k = ns.length := by omega
      subst hkl
      go_wp2
      go_ret
      exact ⟨rfl, hb⟩
end Go.Proofs.Ytemmnojcickcpaa
