/- The law ShardWay, walked. -/
import Derived.Test.YtgmobjdjojffgaaDoorSdT
import Derived.Test.YtgmobjdjojffgaaDoorSdV
namespace Go.Proofs.YtgmobjdjojffgaaDoor
open Go.RowKit
attribute [local go_sem ↓] Go.wp_at_zero Go.wp_at_succ

/-- A shard of one's own, made behind w. -/
structure Sw (w W : World) (B : Nat) (s : Sh) : Prop where
  at_ : ∃ T v, ShAt W B s T v ∧ (hasC s.st = true → w.heap.size ≤ T)
  ge : w.heap.size ≤ B
  below : Below w.heap.size w W
theorem Sw.new {w W : World} {B : Nat} {s : Sh} (h : Sw w W B s) {W' : World} (hb : Below W.heap.size W W') : Sw w W' B s := by
  obtain ⟨T, v, h1, h2⟩ := h.at_
  exact ⟨⟨T, v, h1.on hb, h2⟩, h.ge, h.below.trans (hb.mono h.below.size)⟩
theorem Sw.start {w W : World} (h : ShAt W w.heap.size sh0 0 (.slice none 0 0)) (hb : Below w.heap.size w W) : Sw w W w.heap.size sh0 := ⟨⟨_, _, h, fun e => by cases e⟩, Nat.le_refl _, hb⟩
theorem Sw.status {w W : World} {B : Nat} {s : Sh} (h : Sw w W B s) : Calls Tryd.prog 21 #[.pointer (some ⟨B, 0, none⟩)] W fun e W' => e = .returned (.int .i64 s.st) ∧ W' = W := by
  obtain ⟨T, v, h1, _⟩ := h.at_
  exact Status_any h1
theorem Sw.begin_ok {w W : World} {B : Nat} {s : Sh} (h : Sw w W B s) (h0 : s.st = 0) : Calls Tryd.prog 15 #[.pointer (some ⟨B, 0, none⟩)] W fun e W' => e = .returned (.int .i64 0) ∧ Sw w W' B shB := by
  obtain ⟨T, v, h1, _⟩ := h.at_
  refine (Begin_ok h1 h0).mono ?_
  rintro e W' ⟨rfl, h2, hm⟩
  exact ⟨rfl, ⟨_, _, h2, fun _ => h.below.size⟩, h.ge, h.below.trans (hm.below h.ge h.below.size)⟩
theorem Sw.begin_no {w W : World} {B : Nat} {s : Sh} (h : Sw w W B s) (h0 : s.st ≠ 0) : Calls Tryd.prog 15 #[.pointer (some ⟨B, 0, none⟩)] W fun e W' => e = .returned (.int .i64 7) ∧ Sw w W' B s := by
  obtain ⟨T, v, h1, _⟩ := id h.at_
  refine (Begin_no h1 h0).mono ?_
  rintro e W' ⟨rfl, hb⟩
  exact ⟨rfl, h.new hb⟩
theorem Sw.pull_ok {w W : World} {B : Nat} {s : Sh} (h : Sw w W B s) (h0 : s.st = 0) : Calls Tryd.prog 17 #[.pointer (some ⟨B, 0, none⟩)] W fun e W' => e = .returned (.int .i64 0) ∧ Sw w W' B (shO 3) := by
  obtain ⟨T, v, h1, _⟩ := h.at_
  refine (Pull_ok h1 h0).mono ?_
  rintro e W' ⟨rfl, h2, hm⟩
  exact ⟨rfl, ⟨_, _, h2, fun e => by cases e⟩, h.ge, h.below.trans (hm.below h.ge h.below.size)⟩
theorem Sw.pull_no {w W : World} {B : Nat} {s : Sh} (h : Sw w W B s) (h0 : s.st ≠ 0) : Calls Tryd.prog 17 #[.pointer (some ⟨B, 0, none⟩)] W fun e W' => e = .returned (.int .i64 7) ∧ Sw w W' B s := by
  obtain ⟨T, v, h1, _⟩ := id h.at_
  refine (Pull_no h1 h0).mono ?_
  rintro e W' ⟨rfl, hb⟩
  exact ⟨rfl, h.new hb⟩
theorem Sw.drop_ok {w W : World} {B : Nat} {s : Sh} (h : Sw w W B s) (h0 : s.st = 2) : Calls Tryd.prog 22 #[.pointer (some ⟨B, 0, none⟩)] W fun e W' => e = .returned (.int .i64 0) ∧ Sw w W' B (shO 0) := by
  obtain ⟨T, v, h1, _⟩ := h.at_
  refine (Drop_ok h1 h0).mono ?_
  rintro e W' ⟨rfl, h2, hm⟩
  exact ⟨rfl, ⟨_, _, h2, fun e => by cases e⟩, h.ge, h.below.trans (hm.below h.ge h.below.size)⟩
theorem Sw.drop_no {w W : World} {B : Nat} {s : Sh} (h : Sw w W B s) (h0 : s.st ≠ 2) : Calls Tryd.prog 22 #[.pointer (some ⟨B, 0, none⟩)] W fun e W' => e = .returned (.int .i64 7) ∧ Sw w W' B s := by
  obtain ⟨T, v, h1, _⟩ := id h.at_
  refine (Drop_no h1 h0).mono ?_
  rintro e W' ⟨rfl, hb⟩
  exact ⟨rfl, h.new hb⟩
theorem Sw.freeze_ok {w W : World} {B : Nat} {s : Sh} (h : Sw w W B s) (h0 : s.st = 1) : Calls Tryd.prog 16 #[.pointer (some ⟨B, 0, none⟩)] W fun e W' => e = .returned (.int .i64 0) ∧ Sw w W' B ⟨2, s.l, s.c⟩ := by
  obtain ⟨T, v, h1, h3⟩ := h.at_
  refine (Freeze_ok h1 h0).mono ?_
  rintro e W' ⟨rfl, h2, hm⟩
  exact ⟨rfl, ⟨_, _, h2, fun _ => h3 (by rw [h0]; rfl)⟩, h.ge, h.below.trans (hm.below h.ge h.below.size)⟩
theorem Sw.freeze_no {w W : World} {B : Nat} {s : Sh} (h : Sw w W B s) (h0 : s.st ≠ 1) : Calls Tryd.prog 16 #[.pointer (some ⟨B, 0, none⟩)] W fun e W' => e = .returned (.int .i64 7) ∧ Sw w W' B s := by
  obtain ⟨T, v, h1, _⟩ := id h.at_
  refine (Freeze_no h1 h0).mono ?_
  rintro e W' ⟨rfl, e2⟩
  subst e2
  exact ⟨rfl, h⟩
theorem Sw.install_ok {w W : World} {B : Nat} {s : Sh} (h : Sw w W B s) (he : Env w) (h0 : s.st = 3) {t : List UInt8} (ht : t.length ≤ 1000000) {l : List Rw} {c : Nat → La} (hl : loadC t = some (l, c)) : Calls Tryd.prog 18 #[.pointer (some ⟨B, 0, none⟩), .string (bs t)] W fun e W' => e = .returned (.int .i64 0) ∧ Sw w W' B ⟨1, l, c⟩ := by
  obtain ⟨T, v, h1, _⟩ := h.at_
  refine (Install_ok (he.next h.below) h1 h0 t ht l c hl).mono ?_
  rintro e W' ⟨rfl, T', v', h2, h3, _, hm⟩
  exact ⟨rfl, ⟨_, _, h2, fun _ => Nat.le_trans h.below.size h3⟩, h.ge, h.below.trans (hm.below h.ge h.below.size)⟩
theorem Sw.install_bad {w W : World} {B : Nat} {s : Sh} (h : Sw w W B s) (he : Env w) (h0 : s.st = 3) {t : List UInt8} (ht : t.length ≤ 1000000) (hl : loadC t = none) : Calls Tryd.prog 18 #[.pointer (some ⟨B, 0, none⟩), .string (bs t)] W fun e W' => e = .returned (.int .i64 4) ∧ Sw w W' B s := by
  obtain ⟨T, v, h1, _⟩ := id h.at_
  refine (Install_bad (he.next h.below) h1 h0 t ht hl).mono ?_
  rintro e W' ⟨rfl, hb⟩
  exact ⟨rfl, h.new hb⟩
theorem Sw.install_no {w W : World} {B : Nat} {s : Sh} (h : Sw w W B s) (h0 : s.st ≠ 3) (t : List UInt8) : Calls Tryd.prog 18 #[.pointer (some ⟨B, 0, none⟩), .string (bs t)] W fun e W' => e = .returned (.int .i64 7) ∧ Sw w W' B s := by
  obtain ⟨T, v, h1, _⟩ := id h.at_
  refine (Install_state h1 h0 t).mono ?_
  rintro e W' ⟨rfl, e2⟩
  subst e2
  exact ⟨rfl, h⟩
theorem rFill_bool (s : List UInt8) (w : World) (hs : s.length ≤ 1000000) : Calls Tryd.prog 23 #[.string (bs s)] w fun e W' => ∃ (a : Option Addr) (n c : Nat) (a' : Option Addr) (n' c' : Nat), e = .returned (.tuple #[.agg #[.int .i64 0, .slice a n c, .slice a' n' c'], .bool (loadC s).isSome]) ∧ Below w.heap.size w W' := by
  refine (rFill_any s w hs).mono ?_
  intro e W' h
  cases hc : loadC s with
  | none =>
    rw [hc] at h
    exact ⟨_, _, _, _, _, _, h.1, h.2⟩
  | some lc =>
    obtain ⟨l, c⟩ := lc
    rw [hc] at h
    obtain ⟨a, ca, a', ca', E, h1, _, _, _, _, hb⟩ := h
    exact ⟨_, _, _, _, _, _, h1, hb⟩
/-- A slice of numbers. -/
def Il (w : World) (v : Value) (ns : List Int) : Prop :=
  (ns = [] ∧ ∃ a c, v = .slice a 0 c) ∨ ∃ b o cap, v = .slice (some ⟨b, o, none⟩) ns.length cap ∧ b < w.heap.size ∧ ∀ (i : Nat) n, ns[i]? = some n → w.cell? ⟨b, o + i, none⟩ = some (.int .i64 n)
theorem Il.slice {w : World} {v : Value} {ns : List Int} (h : Il w v ns) : ∃ a c, v = .slice a ns.length c := by
  rcases h with ⟨rfl, a, c, rfl⟩ | ⟨b, o, cap, rfl, _⟩
  · exact ⟨a, c, rfl⟩
  · exact ⟨_, _, rfl⟩
theorem Il.at_ {w : World} {a : Option Addr} {c : Nat} {l : List Int} (h : Il w (.slice a l.length c) l) {k : Nat} {t : Int} (hk : l[k]? = some t) : ∃ b o, a = some ⟨b, o, none⟩ ∧ b < w.heap.size ∧ w.cell? ⟨b, o + k, none⟩ = some (.int .i64 t) := by
  rcases h with ⟨rfl, _⟩ | ⟨b, o, cap, hv, hlt, h⟩
  · cases hk
  · injection hv with h1 _ _
    exact ⟨b, o, h1, hlt, h k t hk⟩
set_option maxRecDepth 20000 in
set_option maxHeartbeats 4000000 in
theorem way_any (v : Value) (ns : List Int) (t : List UInt8) (w : World) (he : Env w) (hI : Il w v ns) : Calls Tryd.prog 7 #[v, .string (bs t)] w fun e W' => e = .returned (.bool true) ∧ Below w.heap.size w W' := by
  obtain ⟨va, vc, rfl⟩ := hI.slice
  have hN := sNew_any w
  have hts : (bs t).size = t.length := bs_size t
  have HSv : Hid (∀ W, Below w.heap.size w W → Calls Tryd.prog 8 #[] W fun e W' => e = .returned (.bool true) ∧ Below w.heap.size w W') := fun W hb => (serves_any W).mono fun e W' h => ⟨h.1, hb.trans (h.2.mono hb.size)⟩
  by_cases h200 : ns.length ≤ 200
  · by_cases hlt : t.length ≤ 10000
    · have hi1 : (ns.length : Int) ≤ 200 := by omega
      have hi2 : (t.length : Int) ≤ 10000 := by omega
      have HFi : Hid (∀ W, Calls Tryd.prog 23 #[.string (bs t)] W fun e W' => ∃ (a : Option Addr) (n c : Nat) (a' : Option Addr) (n' c' : Nat), e = .returned (.tuple #[.agg #[.int .i64 0, .slice a n c, .slice a' n' c'], .bool (loadC t).isSome]) ∧ Below W.heap.size W W') := fun W => rFill_bool t W (by omega)
      obtain ⟨R, hR⟩ : ∃ R, (loadC t).isSome = R := ⟨_, rfl⟩
      rw [hR] at HFi
      have HR : Hid ((loadC t).isSome = R) := hR
      have HE : Hid (Env w) := he
      have HI : Hid (Il w (.slice va ns.length vc) ns) := hI
      have ht6 : t.length ≤ 1000000 := by omega
      clear hR he hI
      go_enter Tryd.func7, Tryd.ntmps7
      go_upto_region 5 with (first
        | (go_at_call 13; refine hN.mono ?_; clear hN; rintro e w1 ⟨rfl, k1, k2, _⟩; have hsw1 := Sw.start k1 k2; have hf := HFi.out w1; clear HFi k1 k2)
        | (go_at_call 23; refine hf.mono ?_; clear hf; rintro e w2 ⟨fa, fn, fc, fa', fn', fc', rfl, hb2⟩))
      have hsw := (hsw1.new hb2).new ((Below.refl w2.heap.size w2).alloc (Nat.le_refl _) (.cells #[.int .i64 0, .slice fa fn fc, .slice fa' fn' fc'] 32))
      obtain ⟨w3, hw3⟩ : ∃ W, w2.alloc (.cells #[.int .i64 0, .slice fa fn fc, .slice fa' fn' fc'] 32) = W := ⟨_, rfl⟩
      rw [hw3] at hsw
      rw [hw3]
      obtain ⟨B, hB⟩ : ∃ B, w.heap.size = B := ⟨_, rfl⟩
      rw [hB] at hsw
      rw [hB]
      clear hw3 hsw1 hb2
      go_wp2
      go_loopg [8, 40] ns.length (fun gk st i wr => ∃ (n : Nat) (s : Sh), n + gk = ns.length ∧ st = .int .i64 s.st ∧ i = .int .i64 (n : Int) ∧ Sw w wr B s ∧ 0 ≤ s.st ∧ s.st ≤ 3)
      case atStart => exact ⟨0, sh0, by omega, rfl, rfl, hsw, by decide, by decide⟩
      case round =>
        clear hsw
        obtain ⟨n, s, hn, rfl, rfl, hS, hs0, hs3⟩ := hrel
        by_cases hne : n = ns.length
        · subst hne
          have hsv := HSv.out _ hS.below
          clear HSv
          go_wp2_with (first | (go_at_call 8; refine hsv.mono ?_; clear hsv; rintro e w9 ⟨rfl, hb9⟩))
          go_ret
          exact ⟨rfl, hb9⟩
        · obtain ⟨x, hx⟩ : ∃ x, ns[n]? = some x := ⟨_, List.getElem?_eq_getElem (by omega)⟩
          obtain ⟨b, o, rfl, hb0, hc0⟩ := HI.out.at_ hx
          have hcx := (hS.below.cell (p := ⟨b, o + n, none⟩) hb0).trans hc0
          have hni : (n : Int) < (ns.length : Int) := by omega
          have hwn : IntKind.i64.wrap ((n : Int) + 1) = ((n + 1 : Nat) : Int) := wrap_to (by omega) (by omega) (by omega)
          have hcase : (x = 0 ∧ s.st = 0) ∨ (x = 0 ∧ s.st ≠ 0) ∨ (x = 1 ∧ s.st = 0) ∨ (x = 1 ∧ s.st ≠ 0) ∨ (x = 2 ∧ s.st = 1) ∨ (x = 2 ∧ s.st ≠ 1) ∨ (x = 3 ∧ s.st = 2) ∨ (x = 3 ∧ s.st ≠ 2) ∨ (x = 4 ∧ s.st = 3) ∨ (x = 4 ∧ s.st ≠ 3) ∨ (x ≠ 0 ∧ x ≠ 1 ∧ x ≠ 2 ∧ x ≠ 3 ∧ x ≠ 4) := by
            clear hx hc0 hcx
            omega
          obtain ⟨st, hst⟩ : ∃ st, s.st = st := ⟨_, rfl⟩
          rw [hst] at hcase hs0 hs3
          rw [hst]
          clear hx hc0 hb0
          rcases hcase with ⟨rfl, h1⟩ | ⟨rfl, h1⟩ | ⟨rfl, h1⟩ | ⟨rfl, h1⟩ | ⟨rfl, h1⟩ | ⟨rfl, h1⟩ | ⟨rfl, h1⟩ | ⟨rfl, h1⟩ | ⟨rfl, h1⟩ | ⟨rfl, h1⟩ | ⟨n0, n1, n2, n3, n4⟩
          · subst h1
            have hop := hS.begin_ok hst
            clear hS HE hst
            go_wp2_with (first
            | (go_at_call 15; refine hop.mono ?_; clear hop; rintro e w5 ⟨rfl, k5⟩; have hstt := k5.status)
            | (go_at_call 21; refine hstt.mono ?_; clear hstt; rintro e w6 ⟨rfl, h9⟩; subst w6))
            go_roundg (ns.length - (n + 1))
            case measure => omega
            case rel => exact ⟨n + 1, shB, by omega, rfl, rfl, k5, (by show (0 : Int) ≤ 1; decide), (by show (1 : Int) ≤ 3; decide)⟩
          · have hop := hS.begin_no (by rw [hst]; exact h1)
            have hf : ((0 : Int) == st) = false := by rw [beq_eq_false_iff_ne]; omega
            have hH : Hid (s.st = st) := hst
            clear hS HE hst
            go_wp2_with (first
            | (go_at_call 15; refine hop.mono ?_; clear hop; rintro e w5 ⟨rfl, k5⟩; have hstt := k5.status; rw [hH.out] at hstt)
            | (go_at_call 21; refine hstt.mono ?_; clear hstt; rintro e w6 ⟨rfl, h9⟩; subst w6))
            go_roundg (ns.length - (n + 1))
            case measure => omega
            case rel => exact ⟨n + 1, s, by omega, by rw [hH.out], rfl, k5, by rw [hH.out]; exact hs0, by rw [hH.out]; exact hs3⟩
          · subst h1
            have hop := hS.pull_ok hst
            clear hS HE hst
            go_wp2_with (first
            | (go_at_call 17; refine hop.mono ?_; clear hop; rintro e w5 ⟨rfl, k5⟩; have hstt := k5.status)
            | (go_at_call 21; refine hstt.mono ?_; clear hstt; rintro e w6 ⟨rfl, h9⟩; subst w6))
            go_roundg (ns.length - (n + 1))
            case measure => omega
            case rel => exact ⟨n + 1, shO 3, by omega, rfl, rfl, k5, (by show (0 : Int) ≤ 3; decide), (by show (3 : Int) ≤ 3; decide)⟩
          · have hop := hS.pull_no (by rw [hst]; exact h1)
            have hf : ((0 : Int) == st) = false := by rw [beq_eq_false_iff_ne]; omega
            have hH : Hid (s.st = st) := hst
            clear hS HE hst
            go_wp2_with (first
            | (go_at_call 17; refine hop.mono ?_; clear hop; rintro e w5 ⟨rfl, k5⟩; have hstt := k5.status; rw [hH.out] at hstt)
            | (go_at_call 21; refine hstt.mono ?_; clear hstt; rintro e w6 ⟨rfl, h9⟩; subst w6))
            go_roundg (ns.length - (n + 1))
            case measure => omega
            case rel => exact ⟨n + 1, s, by omega, by rw [hH.out], rfl, k5, by rw [hH.out]; exact hs0, by rw [hH.out]; exact hs3⟩
          · subst h1
            have hop := hS.freeze_ok hst
            clear hS HE hst
            go_wp2_with (first
            | (go_at_call 16; refine hop.mono ?_; clear hop; rintro e w5 ⟨rfl, k5⟩; have hstt := k5.status)
            | (go_at_call 21; refine hstt.mono ?_; clear hstt; rintro e w6 ⟨rfl, h9⟩; subst w6))
            go_roundg (ns.length - (n + 1))
            case measure => omega
            case rel => exact ⟨n + 1, ⟨2, s.l, s.c⟩, by omega, rfl, rfl, k5, (by show (0 : Int) ≤ 2; decide), (by show (2 : Int) ≤ 3; decide)⟩
          · have hop := hS.freeze_no (by rw [hst]; exact h1)
            have hf : ((1 : Int) == st) = false := by rw [beq_eq_false_iff_ne]; omega
            have hH : Hid (s.st = st) := hst
            clear hS HE hst
            go_wp2_with (first
            | (go_at_call 16; refine hop.mono ?_; clear hop; rintro e w5 ⟨rfl, k5⟩; have hstt := k5.status; rw [hH.out] at hstt)
            | (go_at_call 21; refine hstt.mono ?_; clear hstt; rintro e w6 ⟨rfl, h9⟩; subst w6))
            go_roundg (ns.length - (n + 1))
            case measure => omega
            case rel => exact ⟨n + 1, s, by omega, by rw [hH.out], rfl, k5, by rw [hH.out]; exact hs0, by rw [hH.out]; exact hs3⟩
          · subst h1
            have hop := hS.drop_ok hst
            clear hS HE hst
            go_wp2_with (first
            | (go_at_call 22; refine hop.mono ?_; clear hop; rintro e w5 ⟨rfl, k5⟩; have hstt := k5.status)
            | (go_at_call 21; refine hstt.mono ?_; clear hstt; rintro e w6 ⟨rfl, h9⟩; subst w6))
            go_roundg (ns.length - (n + 1))
            case measure => omega
            case rel => exact ⟨n + 1, shO 0, by omega, rfl, rfl, k5, (by show (0 : Int) ≤ 0; decide), (by show (0 : Int) ≤ 3; decide)⟩
          · have hop := hS.drop_no (by rw [hst]; exact h1)
            have hf : ((2 : Int) == st) = false := by rw [beq_eq_false_iff_ne]; omega
            have hH : Hid (s.st = st) := hst
            clear hS HE hst
            go_wp2_with (first
            | (go_at_call 22; refine hop.mono ?_; clear hop; rintro e w5 ⟨rfl, k5⟩; have hstt := k5.status; rw [hH.out] at hstt)
            | (go_at_call 21; refine hstt.mono ?_; clear hstt; rintro e w6 ⟨rfl, h9⟩; subst w6))
            go_roundg (ns.length - (n + 1))
            case measure => omega
            case rel => exact ⟨n + 1, s, by omega, by rw [hH.out], rfl, k5, by rw [hH.out]; exact hs0, by rw [hH.out]; exact hs3⟩
          · cases hl : loadC t with
            | none =>
              have hRR : R = false := by rw [← HR.out, hl]; rfl
              subst hRR
              subst h1
              have hop := hS.install_bad HE.out hst ht6 hl
              have hH : Hid (s.st = 3) := hst
              clear hS HE hst hl
              go_wp2_with (first
              | (go_at_call 18; refine hop.mono ?_; clear hop; rintro e w5 ⟨rfl, k5⟩; have hstt := k5.status; rw [hH.out] at hstt)
              | (go_at_call 21; refine hstt.mono ?_; clear hstt; rintro e w6 ⟨rfl, h9⟩; subst w6))
              go_roundg (ns.length - (n + 1))
              case measure => omega
              case rel => exact ⟨n + 1, s, by omega, by rw [hH.out], rfl, k5, by rw [hH.out]; exact hs0, by rw [hH.out]; exact hs3⟩
            | some lc =>
              obtain ⟨l, c⟩ := lc
              have hRR : R = true := by rw [← HR.out, hl]; rfl
              subst hRR
              subst h1
              have hop := hS.install_ok HE.out hst ht6 hl
              clear hS HE hst hl
              go_wp2_with (first
            | (go_at_call 18; refine hop.mono ?_; clear hop; rintro e w5 ⟨rfl, k5⟩; have hstt := k5.status)
            | (go_at_call 21; refine hstt.mono ?_; clear hstt; rintro e w6 ⟨rfl, h9⟩; subst w6))
              go_roundg (ns.length - (n + 1))
              case measure => omega
              case rel => exact ⟨n + 1, ⟨1, l, c⟩, by omega, rfl, rfl, k5, by show (0 : Int) ≤ 1; decide, by show (1 : Int) ≤ 3; decide⟩
          · have hop := hS.install_no (by rw [hst]; exact h1) t
            have hf : ((3 : Int) == st) = false := by rw [beq_eq_false_iff_ne]; omega
            have hH : Hid (s.st = st) := hst
            clear hS HE hst
            go_wp2_with (first
            | (go_at_call 18; refine hop.mono ?_; clear hop; rintro e w5 ⟨rfl, k5⟩; have hstt := k5.status; rw [hH.out] at hstt)
            | (go_at_call 21; refine hstt.mono ?_; clear hstt; rintro e w6 ⟨rfl, h9⟩; subst w6))
            go_roundg (ns.length - (n + 1))
            case measure => omega
            case rel => exact ⟨n + 1, s, by omega, by rw [hH.out], rfl, k5, by rw [hH.out]; exact hs0, by rw [hH.out]; exact hs3⟩
          · have g0 : (x == 0) = false := by simpa using n0
            have g1 : (x == 1) = false := by simpa using n1
            have g2 : (x == 2) = false := by simpa using n2
            have g3 : (x == 3) = false := by simpa using n3
            have g4 : (x == 4) = false := by simpa using n4
            have hf : ((-1 : Int) == st) = false := by rw [beq_eq_false_iff_ne]; omega
            have hstt := hS.status
            rw [hst] at hstt
            have hH : Hid (s.st = st) := hst
            have HS : Hid (Sw w wr B s) := hS
            clear HE hst hS n0 n1 n2 n3 n4
            go_wp2_with (first
            | (go_at_call 21; refine hstt.mono ?_; clear hstt; rintro e w6 ⟨rfl, h9⟩; subst w6))
            go_roundg (ns.length - (n + 1))
            case measure => omega
            case rel => exact ⟨n + 1, s, by omega, by rw [hH.out], rfl, HS.out, by rw [hH.out]; exact hs0, by rw [hH.out]; exact hs3⟩
    · have hi2 : (10000 : Int) < (t.length : Int) := by omega
      have hi1 : (ns.length : Int) ≤ 200 := by omega
      clear hI he
      go_enter Tryd.func7, Tryd.ntmps7
      go_wp2_with (first
        | (go_at_call 13; refine hN.mono ?_; clear hN; rintro e w1 ⟨rfl, k1, k2, _⟩; have hsv := HSv.out _ k2; clear HSv k1)
        | (go_at_call 8; refine hsv.mono ?_; clear hsv; rintro e w9 ⟨rfl, hb9⟩))
      go_ret
      exact ⟨rfl, hb9⟩
  · have hi1 : (200 : Int) < (ns.length : Int) := by omega
    clear hI he
    go_enter Tryd.func7, Tryd.ntmps7
    go_wp2_with (first
      | (go_at_call 13; refine hN.mono ?_; clear hN; rintro e w1 ⟨rfl, k1, k2, _⟩; have hsv := HSv.out _ k2; clear HSv k1)
      | (go_at_call 8; refine hsv.mono ?_; clear hsv; rintro e w9 ⟨rfl, hb9⟩))
    go_ret
    exact ⟨rfl, hb9⟩
end Go.Proofs.YtgmobjdjojffgaaDoor
