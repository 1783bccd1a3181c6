/- WindowBest, walked; and a slice of numbers that came in, opened. -/
import Derived.Test.YtobojfkoffhljaaWiM
import Derived.Laws.IdiomStrings
import Derived.ProofKit
import Derived.OpenShut
import Derived.SliceStrings
import Derived.ChangeSlices
namespace Go.Proofs.Ytobojfkoffhljaa
open Go.ChangeShapes Go.WideShapes Go.ChangeAt Go.RowKit Go.Maps
attribute [local go_sem ↓] Go.wp_at_zero Go.wp_at_succ

/-- v is a slice of just these numbers. -/
def Il (w : World) (v : Value) (ns : List Int) : Prop :=
  (ns = [] ∧ ∃ a c, v = .slice a 0 c) ∨ ∃ b o cap, v = .slice (some ⟨b, o, none⟩) ns.length cap ∧ b < w.heap.size ∧ ∀ (i : Nat) n, ns[i]? = some n → w.cell? ⟨b, o + i, none⟩ = some (.int .i64 n)
theorem Il.below {w w' : World} {v : Value} {ns : List Int} (h : Il w v ns) {B : Nat} (hb : Below B w w') (hB : w.heap.size ≤ B) : Il w' v ns := by
  rcases h with h | ⟨b, o, cap, rfl, hlt, h⟩
  · exact .inl h
  · exact .inr ⟨b, o, cap, rfl, Nat.lt_of_lt_of_le hlt hb.size, fun i n hn => (hb.cell (p := ⟨b, o + i, none⟩) (by show b < B; omega)).trans (h i n hn)⟩
theorem Il.slice {w : World} {v : Value} {ns : List Int} (h : Il w v ns) : ∃ a c, v = .slice a ns.length c := by
  rcases h with ⟨rfl, a, c, rfl⟩ | ⟨b, o, cap, rfl, _⟩
  · exact ⟨a, c, rfl⟩
  · exact ⟨_, _, rfl⟩
theorem Il.at {w : World} {a : Option Addr} {c : Nat} {l : List Int} (h : Il w (.slice a l.length c) l) {k : Nat} {t : Int} (hk : l[k]? = some t) : ∃ b o, a = some ⟨b, o, none⟩ ∧ b < w.heap.size ∧ w.cell? ⟨b, o + k, none⟩ = some (.int .i64 t) := by
  rcases h with ⟨rfl, _⟩ | ⟨b, o, cap, hv, hlt, h⟩
  · cases hk
  · injection hv with h1 _ _
    exact ⟨b, o, h1, hlt, h k t hk⟩

set_option maxRecDepth 100000 in
theorem open_il {H : Type} {enc : TypeId × Value → H} {W : World} {base : Nat} {v : Value} {d : DataW H} {p : List MemPlace} (hval : Value.okWide Try.prog W .any base 57 v)
    (h : ∃ fuel, DataW.trod enc Try.prog W 0 (fun _ => true) true fuel 57 v.cells.toList = some (d, p)) : ∃ ns : List Int, Il W v ns := by
  obtain ⟨a, len, cap, rfl⟩ := okWide_slice Try.underlying57 hval
  obtain ⟨fuel, hf⟩ := h
  rcases open_ints Try.underlying57 Try.underlying3 Try.cells3 hf with ⟨hcs, _⟩ | ⟨x, l, c, zs, hcs, _, hl, hm, hzz, _, hcell, _⟩
  · simp [Value.cells] at hcs
    obtain ⟨rfl, rfl, rfl⟩ := hcs
    exact ⟨[], .inl ⟨rfl, none, 0, rfl⟩⟩
  · simp [Value.cells] at hcs
    obtain ⟨rfl, rfl, rfl⟩ := hcs
    have hss : zs.length = cap := by simpa using hzz
    have hlen : (zs.take len).length = len := by simp; omega
    by_cases h00 : len = 0
    · subst h00
      exact ⟨[], .inl ⟨rfl, _, _, rfl⟩⟩
    · obtain ⟨b, off, spot⟩ := x
      have hc0 := hcell 0 (by omega)
      have hspot : spot = none := by simpa [Addr.add] using World.cell?_spot hc0
      subst hspot
      have hbb : b < W.heap.size := by simpa [Addr.add] using World.block_lt_of_cell? W _ hc0
      refine ⟨zs.take len, .inr ⟨b, off, cap, by rw [hlen], hbb, fun i n hn => ?_⟩⟩
      have hi : i < len := by have := (List.getElem?_eq_some_iff.1 hn).1; omega
      have h1 := hcell i (by omega)
      rw [List.getElem?_take_of_lt hi] at hn
      rw [List.getD_eq_getElem?_getD, hn, Addr.add_mid] at h1
      exact h1

/-- A text of one byte. -/
theorem conv_one (W : World) {g k : Nat} (hg : g = W.heap.size) (hk : k < 256) : (convert 59 9 (.slice (some ⟨g, 0, none⟩) 1 1)).run Try.prog (W.alloc (.cells #[.int .u8 (k : Int)] 5)) = .ok (.string (bs [UInt8.ofNat k])) (W.alloc (.cells #[.int .u8 (k : Int)] 5)) := by
  subst hg
  have := run_convert_bytes_back (P := Try.prog) (W.alloc (.cells #[.int .u8 (k : Int)] 5)) 59 9 5 ⟨W.heap.size, 0, none⟩ 1 [UInt8.ofNat k] Try.underlying59 Try.underlying5 Try.underlying9 (fun j hj => by
    have hj0 : j = 0 := by simp at hj; omega
    subst hj0
    have h1 := cellB (heap_alloc_new W (.cells #[.int .u8 (k : Int)] 5)) 0 _ rfl
    have h2 : (UInt8.ofNat k).toNat = k := by simp; omega
    simp only [Addr.add, List.getElem_cons_zero, h2]
    exact h1)
  exact this
/-- The window of one number, on the way. -/
structure Bs (w : World) (B : Nat) (best : Int) (a : Nat) (wr : World) : Prop where
  win : ∃ mb T, WinAt w.heap.size wr B none mb 1 1 0 [] T ∧ ((best = -1 ∧ T = []) ∨ (0 ≤ best ∧ T = [(5, best, [UInt8.ofNat a], 0)]))
  bel : Below w.heap.size w wr
theorem Bs.on {w W W' : World} {B a : Nat} {best : Int} (h : Bs w B best a W) (hb : Below W.heap.size W W') : Bs w B best a W' := by
  obtain ⟨⟨mb, T, h1, h2⟩, h3⟩ := h
  exact ⟨⟨mb, T, h1.on hb, h2⟩, h3.trans (hb.mono h3.size)⟩
/-- A best one comes. -/
theorem Bs.note {w W : World} {B a k : Nat} {best x : Int} (h : Bs w B best a W) (hx : 0 ≤ x) (hm : x ≤ 1099511627776) (hb : best < x) : Calls Try.prog 23 #[.pointer (some ⟨B, 0, none⟩), .int .i64 x, .int .i64 5, .agg #[.string (bs [UInt8.ofNat k]), .int .i64 0, .slice none 0 0]] W fun e W' => e = .returned (.tuple #[.bool true, .int .i64 0]) ∧ Bs w B x k W' := by
  obtain ⟨⟨mb, T, h1, h2⟩, h3⟩ := h
  have hE : askE 0 x 5 = 0 := by simp [askE, inB, hasW]; omega
  have hT : T.filter (fun a => !(a.1 == 5)) ++ [(5, x, [UInt8.ofNat k], 0)] = [(5, x, [UInt8.ofNat k], 0)] := by
    rcases h2 with ⟨_, rfl⟩ | ⟨_, rfl⟩ <;> simp
  have hok : (bestF T 5).2.2.2 = false ∨ ((bestF T 5).2.2.2 = true ∧ (bestF T 5).1 < x) := by
    rcases h2 with ⟨_, rfl⟩ | ⟨_, rfl⟩
    · exact .inl rfl
    · exact .inr ⟨rfl, hb⟩
  refine (Note_ok h1 (by rcases h2 with ⟨_, rfl⟩ | ⟨_, rfl⟩ <;> simp) hE hok [UInt8.ofNat k] 0).mono ?_
  rintro e W' ⟨mb', rfl, k1, k2⟩
  rw [hT] at k1
  exact ⟨rfl, ⟨⟨mb', _, k1, .inr ⟨hx, rfl⟩⟩, h3.trans (h1.bel k2 (Nat.le_refl _))⟩⟩
/-- What is no better. -/
theorem Bs.stay {w W : World} {B a : Nat} {best x : Int} (h : Bs w B best a W) (hx : 0 ≤ x) (hm : x ≤ 1099511627776) (hb : x ≤ best) (t : List UInt8) : Calls Try.prog 23 #[.pointer (some ⟨B, 0, none⟩), .int .i64 x, .int .i64 5, .agg #[.string (bs t), .int .i64 0, .slice none 0 0]] W fun e W' => e = .returned (.tuple #[.bool false, .int .i64 0]) ∧ Bs w B best a W' := by
  have hh := h
  obtain ⟨⟨mb, T, h1, h2⟩, h3⟩ := h
  have hE : askE 0 x 5 = 0 := by simp [askE, inB, hasW]; omega
  rcases h2 with ⟨h4, rfl⟩ | ⟨h4, rfl⟩
  · omega
  · refine (Note_no h1 hE rfl hb t 0).mono ?_
    rintro e W' ⟨rfl, k1⟩
    exact ⟨rfl, hh.on k1⟩
/-- What is wrong. -/
theorem Bs.bad {w W : World} {B a : Nat} {best x : Int} (h : Bs w B best a W) (hi : inB x 1099511627776 = false) (t : List UInt8) : Calls Try.prog 23 #[.pointer (some ⟨B, 0, none⟩), .int .i64 x, .int .i64 5, .agg #[.string (bs t), .int .i64 0, .slice none 0 0]] W fun e W' => e = .returned (.tuple #[.bool false, .int .i64 1]) ∧ Bs w B best a W' := by
  have hh := h
  obtain ⟨⟨mb, T, h1, h2⟩, h3⟩ := h
  have hE : askE 0 x 5 = 1 := by simp [askE, hi]
  have := Note_bad h1 (view := x) (n := 5) (by rw [hE]; decide) t 0
  rw [hE] at this
  refine this.mono ?_
  rintro e W' ⟨rfl, k1⟩
  exact ⟨rfl, hh.on k1⟩
/-- What it says. -/
theorem Bs.says {w W : World} {B a : Nat} {best : Int} (h : Bs w B best a W) (hx : 0 ≤ best) : Calls Try.prog 12 #[.pointer (some ⟨B, 0, none⟩), .int .i64 5] W fun e W' => e = .returned (.tuple #[.int .i64 best, .agg #[.string (bs [UInt8.ofNat a]), .int .i64 0, .slice none 0 0], .bool true]) ∧ Bs w B best a W' := by
  have hh := h
  obtain ⟨⟨mb, T, h1, h2⟩, h3⟩ := h
  rcases h2 with ⟨h4, rfl⟩ | ⟨h4, rfl⟩
  · omega
  · refine (Best_any h1 (n := 5) rfl).mono ?_
    rintro e W' ⟨rfl, k1⟩
    exact ⟨rfl, hh.on k1⟩
set_option maxRecDepth 20000 in
set_option maxHeartbeats 3000000 in
theorem best_any {l : List Int} {v : Value} {w : World} (hS : Il w v l) : Calls Try.prog 5 #[v] w fun e W' => e = .returned (.bool true) ∧ Below w.heap.size w W' := by
  have hN := wNew_ok (g := 1) (f := 1) rfl (by omega) w.heap.size w (Nat.le_refl _)
  have hM := fun W => moves_any W
  obtain ⟨a0, cc, rfl⟩ := hS.slice
  by_cases hl : l.length ≤ 200
  · have hl2 : (l.length : Int) ≤ 200 := by omega
    have HS : Hid (Il w (.slice a0 l.length cc) l) := hS
    clear hS
    go_enter Try.func5, Try.ntmps5
    go_wp2_with (first
      | (go_at_call 8; refine hN.mono ?_; rintro e w1 ⟨rfl, h1, hb1⟩; have HB : Hid (Bs w w.heap.size (-1) 0 w1) := ⟨⟨none, [], h1, .inl ⟨rfl, rfl⟩⟩, hb1⟩; clear h1 hb1))
    go_loopg [5, 6, 40] l.length (fun gk b a i wr => ∃ (k : Nat) (bv : Int) (an : Nat), k + gk = l.length ∧ i = .int .i64 k ∧ b = .int .i64 bv ∧ a = .int .i64 an ∧ an < 256 ∧ Hid (Bs w w.heap.size bv an wr))
    case atStart => exact ⟨0, -1, 0, by omega, rfl, rfl, rfl, by omega, HB⟩
    case round =>
      obtain ⟨k, bv, an, hkg, rfl, rfl, rfl, han, HBr⟩ := hrel
      clear HB hN
      by_cases hk : k < l.length
      · obtain ⟨x, hx⟩ : ∃ x, l[k]? = some x := ⟨_, List.getElem?_eq_getElem hk⟩
        obtain ⟨b1, o1, rfl, hb1, cx⟩ := Il.at HS.out hx
        have cx2 := (HBr.out.bel.cell (p := ⟨b1, o1 + k, none⟩) hb1).trans cx
        have wk : IntKind.u8.wrap (k : Int) = (k : Int) := by simp only [IntKind.wrap, IntKind.bits, IntKind.signed]; simp; omega
        have wa : IntKind.u8.wrap (an : Int) = (an : Int) := by simp only [IntKind.wrap, IntKind.bits, IntKind.signed]; simp; omega
        have k200 : (k : Int) < 200 := by omega
        have hcv := conv_one wr (g := wr.heap.size) (k := k) rfl (by omega)
        have HB1 : Hid (Bs w w.heap.size bv an (wr.alloc (.cells #[.int .u8 (k : Int)] 5))) := HBr.out.on ((Below.refl _ wr).alloc (Nat.le_refl _) _)
        clear cx hx
        rcases range3 x 1099511627776 with ⟨x1, xi⟩ | ⟨x1, x2, xi⟩ | ⟨x1, x2, xi⟩
        · have hn := HB1.out.bad xi [UInt8.ofNat k]
          go_wp2_with (first
            | (go_at_call 23; refine hn.mono ?_; rintro e w3 ⟨rfl, h3⟩))
          go_roundg (l.length - (k + 1))
          case measure => omega
          case rel => exact ⟨k + 1, bv, an, by omega, by go_num, rfl, rfl, han, h3⟩
        · have hn := HB1.out.bad xi [UInt8.ofNat k]
          have x3 : decide (x ≤ 1099511627776) = false := decide_eq_false (by omega)
          go_wp2_with (first
            | (go_at_call 23; refine hn.mono ?_; rintro e w3 ⟨rfl, h3⟩))
          go_roundg (l.length - (k + 1))
          case measure => omega
          case rel => exact ⟨k + 1, bv, an, by omega, by go_num, rfl, rfl, han, h3⟩
        · by_cases hbx : bv < x
          · have hn := HB1.out.note (k := k) x1 x2 hbx
            have hst := str_same [UInt8.ofNat k]
            go_wp2_with (first
              | (go_at_call 23; refine hn.mono ?_; rintro e w3 ⟨rfl, h3⟩; have hs := h3.says x1; have H3 : Hid (_) := h3; clear h3 hn)
              | (go_at_call 12; refine hs.mono ?_; rintro e w4 ⟨rfl, h4⟩; have H4 : Hid (_) := h4; have hcw := conv_one (w4.alloc (.cells #[.string (bs [UInt8.ofNat k]), .int .i64 0, .slice none 0 0] 38)) (g := w4.heap.size + 1) (k := k) (by simp) (by omega); clear h4 hs))
            go_roundg (l.length - (k + 1))
            case measure => omega
            case rel =>
              have q1 := (Below.refl w4.heap.size w4).alloc (Nat.le_refl _) (.cells #[.string (bs [UInt8.ofNat k]), .int .i64 0, .slice none 0 0] 38)
              exact ⟨k + 1, x, k, by omega, by go_num, rfl, rfl, by omega, H4.out.on (q1.alloc q1.size _)⟩
          · have hbx2 : x ≤ bv := by omega
            have hb0 : 0 ≤ bv := by omega
            have hn := HB1.out.stay x1 x2 hbx2 [UInt8.ofNat k]
            have hst := str_same [UInt8.ofNat an]
            go_wp2_with (first
              | (go_at_call 23; refine hn.mono ?_; rintro e w3 ⟨rfl, h3⟩; have hs := h3.says hb0; have H3 : Hid (_) := h3; clear h3 hn)
              | (go_at_call 12; refine hs.mono ?_; rintro e w4 ⟨rfl, h4⟩; have H4 : Hid (_) := h4; have hcw := conv_one (w4.alloc (.cells #[.string (bs [UInt8.ofNat an]), .int .i64 0, .slice none 0 0] 38)) (g := w4.heap.size + 1) (k := an) (by simp) (by omega); clear h4 hs))
            go_roundg (l.length - (k + 1))
            case measure => omega
            case rel =>
              have q1 := (Below.refl w4.heap.size w4).alloc (Nat.le_refl _) (.cells #[.string (bs [UInt8.ofNat an]), .int .i64 0, .slice none 0 0] 38)
              exact ⟨k + 1, bv, an, by omega, by go_num, rfl, rfl, by omega, H4.out.on (q1.alloc q1.size _)⟩
      · have hke : k = l.length := by omega
        clear hkg
        subst hke
        go_wp2_with (first
          | (go_at_call 10; refine (hM _).mono ?_; rintro e w7 ⟨rfl, hb7⟩))
        go_ret
        exact ⟨rfl, HBr.out.bel.trans (hb7.mono HBr.out.bel.size)⟩
  · have hl2 : 200 < (l.length : Int) := by omega
    clear hS
    go_enter Try.func5, Try.ntmps5
    go_wp2_with (first
      | (go_at_call 8; refine hN.mono ?_; rintro e w1 ⟨rfl, h1, hb1⟩; clear h1)
      | (go_at_call 10; refine (hM _).mono ?_; rintro e w7 ⟨rfl, hb7⟩))
    go_ret
    exact ⟨rfl, hb1.trans (hb7.mono hb1.size)⟩
end Go.Proofs.Ytobojfkoffhljaa
