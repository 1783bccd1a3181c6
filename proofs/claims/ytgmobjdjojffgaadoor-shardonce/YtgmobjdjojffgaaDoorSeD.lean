/- The law ShardStill, walked. -/
import Derived.Test.YtgmobjdjojffgaaDoorSeB
namespace Go.Proofs.YtgmobjdjojffgaaDoor
open Go.RowKit
attribute [local go_sem ↓] Go.wp_at_zero Go.wp_at_succ

/-- A shard that was made behind w. -/
def Sq (w W : World) (B : Nat) (s : Sh) : Prop := ∃ T v, ShAt W B s T v ∧ w.heap.size ≤ B ∧ (hasC s.st = true → w.heap.size ≤ T) ∧ Below w.heap.size w W
theorem Sq.new {w W W' : World} {B : Nat} {s : Sh} (h : Sq w W B s) (hb : Below W.heap.size W W') : Sq w W' B s := by
  obtain ⟨T, v, h1, h2, h3, h4⟩ := h
  exact ⟨T, v, h1.on hb, h2, h3, h4.trans (hb.mono h4.size)⟩
theorem Sq.alloc {w W : World} {B : Nat} {s : Sh} (h : Sq w W B s) (ob : Obj) : Sq w (W.alloc ob) B s := h.new ((Below.refl _ _).alloc (Nat.le_refl _) _)
theorem Sq.below {w W : World} {B : Nat} {s : Sh} (h : Sq w W B s) : Below w.heap.size w W := by
  obtain ⟨T, v, _, _, _, h4⟩ := h
  exact h4
theorem Sq.status {w W : World} {B : Nat} {s : Sh} (h : Sq w W B s) : Calls Tryd.prog 21 #[.pointer (some ⟨B, 0, none⟩)] W fun e W' => e = .returned (.int .i64 s.st) ∧ W' = W := by
  obtain ⟨T, v, h1, _⟩ := h
  exact Status_any h1
theorem Sq.text {w W : World} {B : Nat} {s : Sh} (he : EnvP w) (hok : OkS s) (h : Sq w W B s) : Calls Tryd.prog 11 #[.pointer (some ⟨B, 0, none⟩)] W fun e W' => e = .returned (.string (bs (textS s))) ∧ Sq w W' B s := by
  obtain ⟨T, v, h1, h2, h3, h4⟩ := id h
  refine (sText_any (he.next h4) h1 hok).mono ?_
  rintro e W' ⟨rfl, hb⟩
  exact ⟨rfl, h.new hb⟩
theorem Sq.do_bad {w W : World} {B : Nat} {s : Sh} (h : Sq w W B s) (client number kind : Int) (k vl o : List UInt8) (hn : okN client number = false) : Calls Tryd.prog 20 #[.pointer (some ⟨B, 0, none⟩), .int .i64 client, .int .i64 number, opV kind k vl o] W fun e W' => e = .returned (ansV 0 [] false 1) ∧ Sq w W' B s := by
  refine (sDo_bad _ client number kind k vl o W hn).mono ?_
  rintro e W' ⟨rfl, hb⟩
  exact ⟨rfl, h.new hb⟩
theorem Sq.do_state {w W : World} {B : Nat} {s : Sh} (h : Sq w W B s) (h1 : s.st ≠ 1) (client number kind : Int) (k vl o : List UInt8) (hn : okN client number = true) : Calls Tryd.prog 20 #[.pointer (some ⟨B, 0, none⟩), .int .i64 client, .int .i64 number, opV kind k vl o] W fun e W' => e = .returned (ansV 0 [] false 7) ∧ Sq w W' B s := by
  obtain ⟨T, v, g1, _⟩ := id h
  refine (sDo_state _ client number kind s.st k vl o W hn h1 (Status_any (g1.on (W2_below W kind k vl o)))).mono ?_
  rintro e W' ⟨rfl, hb⟩
  exact ⟨rfl, h.new hb⟩
theorem Sq.do_old {w W : World} {B : Nat} {s : Sh} (h : Sq w W B s) (h1 : s.st = 1) (n : Nat) (number kind : Int) (k vl o : List UInt8) (hn : okN n number = true) (hl : number < (s.c n).1) : Calls Tryd.prog 20 #[.pointer (some ⟨B, 0, none⟩), .int .i64 n, .int .i64 number, opV kind k vl o] W fun e W' => e = .returned (ansV 0 [] false 6) ∧ Sq w W' B s := by
  obtain ⟨T, v, g1, _⟩ := id h
  refine (sDo_old g1 h1 n number kind k vl o hn hl).mono ?_
  rintro e W' ⟨rfl, hb⟩
  exact ⟨rfl, h.new hb⟩
theorem Sq.do_same {w W : World} {B : Nat} {s : Sh} (h : Sq w W B s) (h1 : s.st = 1) (n : Nat) (number kind : Int) (k vl o : List UInt8) (hn : okN n number = true) (hl : number = (s.c n).1) : Calls Tryd.prog 20 #[.pointer (some ⟨B, 0, none⟩), .int .i64 n, .int .i64 number, opV kind k vl o] W fun e W' => e = .returned (ansV (s.c n).2.1 (s.c n).2.2 false 0) ∧ Sq w W' B s := by
  obtain ⟨T, v, g1, _⟩ := id h
  refine (sDo_same g1 h1 n number kind k vl o hn hl).mono ?_
  rintro e W' ⟨rfl, hb⟩
  exact ⟨rfl, h.new hb⟩
/-- The shard behind an operation that was done. -/
def doneS (s : Sh) (n : Nat) (number kind : Int) (k vl o : List UInt8) : Sh := ⟨1, (doR s.l kind k vl o).2.2, updC s.c n (number, (doR s.l kind k vl o).2.1, (doR s.l kind k vl o).1)⟩
theorem Sq.do_new {w W : World} {B : Nat} {s : Sh} (h : Sq w W B s) (h1 : s.st = 1) (n : Nat) (number kind : Int) (k vl o : List UInt8) (hn : okN n number = true) (hl : (s.c n).1 < number) : Calls Tryd.prog 20 #[.pointer (some ⟨B, 0, none⟩), .int .i64 n, .int .i64 number, opV kind k vl o] W fun e W' => e = .returned (ansV (doR s.l kind k vl o).2.1 (doR s.l kind k vl o).1 true 0) ∧ Sq w W' B (doneS s n number kind k vl o) := by
  obtain ⟨T, v, g1, g2, g3, g4⟩ := h
  have hT := g3 (by rw [h1]; rfl)
  refine (sDo_new g1 h1 n number kind k vl o hn hl).mono ?_
  rintro e W' ⟨rfl, v', k1, _, k3⟩
  exact ⟨rfl, T, v', k1, g2, fun _ => hT, g4.trans (k3.below g2 hT g4.size)⟩
set_option maxRecDepth 20000 in
set_option maxHeartbeats 4000000 in
theorem still_any (t : List UInt8) (client number : Int) (w : World) (he : Env w) : Calls Tryd.prog 5 #[.string (bs t), .int .i64 client, .int .i64 number] w fun e W' => e = .returned (.bool true) ∧ Below w.heap.size w W' := by
  have hts : (bs t).size = t.length := bs_size t
  have HSv : Hid (∀ W, Below w.heap.size w W → Calls Tryd.prog 8 #[] W fun e W' => e = .returned (.bool true) ∧ Below w.heap.size w W') := fun W hb => (serves_any W).mono fun e W' h => ⟨h.1, hb.trans (h.2.mono hb.size)⟩
  by_cases hlt : t.length ≤ 20000
  case neg =>
    have hl1 : (20000 : Int) < (t.length : Int) := by omega
    have hv := HSv.out _ (Below.refl _ _)
    clear he
    go_enter Tryd.func5, Tryd.ntmps5
    go_wp2_with (first | (go_at_call 8; refine hv.mono ?_; clear hv; rintro e w6 ⟨rfl, hb6⟩))
    go_ret
    exact ⟨rfl, hb6⟩
  cases hl : loadS t with
  | none =>
    have hL := sLoad_any t w (by omega) he
    rw [hl] at hL
    have hL2 : Calls Tryd.prog 9 #[.string (bs t)] w fun e W' => e = .returned (.tuple #[.pointer none, .int .i64 4]) ∧ Below w.heap.size w W' := hL
    have hl1 : (t.length : Int) ≤ 20000 := by omega
    clear hL hl he
    go_enter Tryd.func5, Tryd.ntmps5
    go_wp2_with (first
      | (go_at_call 9; refine hL2.mono ?_; clear hL2; rintro e w1 ⟨rfl, hb1⟩; have hv := HSv.out _ hb1)
      | (go_at_call 8; refine hv.mono ?_; clear hv; rintro e w6 ⟨rfl, hb6⟩))
    go_ret
    exact ⟨rfl, hb6⟩
  | some x =>
    have hL : Calls Tryd.prog 9 #[.string (bs t)] w fun e W' => ∃ B, e = .returned (.tuple #[.pointer (some ⟨B, 0, none⟩), .int .i64 0]) ∧ Sq w W' B x := by
      have := sLoad_any t w (by omega) he
      rw [hl] at this
      refine this.mono ?_
      rintro e W' ⟨B, T, v, rfl, g1, g2, g3, g4⟩
      exact ⟨B, rfl, T, v, g1, g2, g3, g4⟩
    obtain ⟨hok, _⟩ := text_loadS hl
    have HX : Hid (∀ B W, Sq w W B x → Calls Tryd.prog 11 #[.pointer (some ⟨B, 0, none⟩)] W fun e W' => e = .returned (.string (bs (textS x))) ∧ Sq w W' B x) := fun B W h => h.text he.p hok
    have HSt : Hid (∀ B W, Sq w W B x → Calls Tryd.prog 21 #[.pointer (some ⟨B, 0, none⟩)] W fun e W' => e = .returned (.int .i64 x.st) ∧ W' = W) := fun B W h => h.status
    have HX2 : Hid (∀ B W, Sq w W B x → Calls Tryd.prog 11 #[.pointer (some ⟨B, 0, none⟩)] W fun e W' => e = .returned (.string (bs (textS x))) ∧ Below w.heap.size w W') := fun B W h => (h.text he.p hok).mono fun e W' k => ⟨k.1, k.2.below⟩
    have hss := str_same (textS x)
    have hl1 : (t.length : Int) ≤ 20000 := by omega
    cases hN : okN client number with
    | false =>
      have HO : Hid (∀ B W, Sq w W B x → Calls Tryd.prog 20 #[.pointer (some ⟨B, 0, none⟩), .int .i64 client, .int .i64 number, .agg #[.int .i64 2, .string ⟨#[107]⟩, .string ⟨#[118]⟩, .string ⟨#[]⟩]] W fun e W' => e = .returned (.tuple #[.agg #[.int .i64 0, .string ⟨#[]⟩], .bool false, .int .i64 1]) ∧ Sq w W' B x) := fun B W h => h.do_bad client number 2 [107] [118] [] hN
      have hcase : (client < 0 ∨ (0 ≤ client ∧ 7 < client) ∨ (0 ≤ client ∧ client ≤ 7 ∧ number < 1) ∨ (0 ≤ client ∧ client ≤ 7 ∧ 1 ≤ number ∧ ¬ number ≤ 1099511627776)) := by
        rw [okN, Bool.and_eq_false_iff] at hN
        rcases hN with h | h
        · have := inR_f h
          omega
        · have := inR_f h
          omega
      have hst : x.st = 1 ∨ (x.st == 1) = false := by
        by_cases e : x.st = 1
        · exact .inl e
        · exact .inr (by simpa using e)
      obtain ⟨st, hstt⟩ : ∃ st, x.st = st := ⟨_, rfl⟩
      rw [hstt] at HSt hst
      clear hstt hN hl he hok
      rcases hst with rfl | hst1
      all_goals
        rcases hcase with g1 | ⟨g1, g2⟩ | ⟨g1, g2, g3⟩ | ⟨g1, g2, g3, g4⟩
        all_goals
          (try have g5 : (1099511627776 : Int) < number := by omega)
          go_enter Tryd.func5, Tryd.ntmps5
          go_wp2_with (first
      | (go_at_call 9; refine hL.mono ?_; clear hL; rintro e w1 ⟨B, rfl, hq1⟩; have hx := HX.out _ _ hq1; clear HX hq1)
      | (go_at_call 11; refine hx.mono ?_; clear hx; rintro e w2 ⟨rfl, hq2⟩; have ho := HO.out _ _ hq2; clear HO hq2)
      | (go_at_call 20; refine ho.mono ?_; clear ho; rintro e w3 ⟨rfl, hq3⟩; have hq4 := hq3.alloc (.cells #[.int .i64 0, .string ⟨#[]⟩] 47); have hst := HSt.out _ _ hq4; have hx2 := HX2.out _ _ hq4; have hv := HSv.out _ hq4.below; clear hq3 HX2 HSt)
      | (go_at_call 21; refine hst.mono ?_; clear hst; rintro e w9 ⟨rfl, h9⟩; subst w9)
      | (go_at_call 11; refine hx2.mono ?_; clear hx2 hv; rintro e w5 ⟨rfl, hb5⟩; have hv := HSv.out _ hb5)
      | (go_at_call 8; refine hv.mono ?_; clear hv; rintro e w6 ⟨rfl, hb6⟩))
          go_ret
          first
            | exact ⟨rfl, hb6⟩
            | (refine ⟨?_, hb6⟩
               show Ending.returned (.bool (!decide (number ≤ 1099511627776))) = _
               rw [decide_eq_false (by omega)]
               rfl)
    | true =>
      have hN' := hN
      rw [okN, Bool.and_eq_true] at hN'
      have x1 := inR_t hN'.1
      have x2 := inR_t hN'.2
      obtain ⟨n, rfl⟩ : ∃ n : Nat, client = n := ⟨client.toNat, by omega⟩
      have g1 : (0 : Int) ≤ (n : Int) := by omega
      have g2 : (n : Int) ≤ 7 := by omega
      have g3 : 1 ≤ number := by omega
      have g4 : number ≤ 1099511627776 := by omega
      clear x1 x2 hN'
      by_cases hs1 : x.st = 1
      case neg =>
        have HO : Hid (∀ B W, Sq w W B x → Calls Tryd.prog 20 #[.pointer (some ⟨B, 0, none⟩), .int .i64 n, .int .i64 number, .agg #[.int .i64 2, .string ⟨#[107]⟩, .string ⟨#[118]⟩, .string ⟨#[]⟩]] W fun e W' => e = .returned (.tuple #[.agg #[.int .i64 0, .string ⟨#[]⟩], .bool false, .int .i64 7]) ∧ Sq w W' B x) := fun B W h => h.do_state hs1 n number 2 [107] [118] [] hN
        have hst1 : (x.st == 1) = false := by simpa using hs1
        obtain ⟨st, hstt⟩ : ∃ st, x.st = st := ⟨_, rfl⟩
        rw [hstt] at HSt hst1
        clear hstt hN hl he hok hs1
        go_enter Tryd.func5, Tryd.ntmps5
        go_wp2_with (first
      | (go_at_call 9; refine hL.mono ?_; clear hL; rintro e w1 ⟨B, rfl, hq1⟩; have hx := HX.out _ _ hq1; clear HX hq1)
      | (go_at_call 11; refine hx.mono ?_; clear hx; rintro e w2 ⟨rfl, hq2⟩; have ho := HO.out _ _ hq2; clear HO hq2)
      | (go_at_call 20; refine ho.mono ?_; clear ho; rintro e w3 ⟨rfl, hq3⟩; have hq4 := hq3.alloc (.cells #[.int .i64 0, .string ⟨#[]⟩] 47); have hst := HSt.out _ _ hq4; have hx2 := HX2.out _ _ hq4; have hv := HSv.out _ hq4.below; clear hq3 HX2 HSt)
      | (go_at_call 21; refine hst.mono ?_; clear hst; rintro e w9 ⟨rfl, h9⟩; subst w9)
      | (go_at_call 11; refine hx2.mono ?_; clear hx2 hv; rintro e w5 ⟨rfl, hb5⟩; have hv := HSv.out _ hb5)
      | (go_at_call 8; refine hv.mono ?_; clear hv; rintro e w6 ⟨rfl, hb6⟩))
        go_ret
        exact ⟨rfl, hb6⟩
      have HSt1 := HSt
      rw [hs1] at HSt
      clear HSt1
      rcases Int.lt_trichotomy number (x.c n).1 with hlt' | heq | hgt
      · have HO : Hid (∀ B W, Sq w W B x → Calls Tryd.prog 20 #[.pointer (some ⟨B, 0, none⟩), .int .i64 n, .int .i64 number, .agg #[.int .i64 2, .string ⟨#[107]⟩, .string ⟨#[118]⟩, .string ⟨#[]⟩]] W fun e W' => e = .returned (.tuple #[.agg #[.int .i64 0, .string ⟨#[]⟩], .bool false, .int .i64 6]) ∧ Sq w W' B x) := fun B W h => h.do_old hs1 n number 2 [107] [118] [] hN hlt'
        clear hN hl he hok hs1 hlt'
        go_enter Tryd.func5, Tryd.ntmps5
        go_wp2_with (first
      | (go_at_call 9; refine hL.mono ?_; clear hL; rintro e w1 ⟨B, rfl, hq1⟩; have hx := HX.out _ _ hq1; clear HX hq1)
      | (go_at_call 11; refine hx.mono ?_; clear hx; rintro e w2 ⟨rfl, hq2⟩; have ho := HO.out _ _ hq2; clear HO hq2)
      | (go_at_call 20; refine ho.mono ?_; clear ho; rintro e w3 ⟨rfl, hq3⟩; have hq4 := hq3.alloc (.cells #[.int .i64 0, .string ⟨#[]⟩] 47); have hst := HSt.out _ _ hq4; have hx2 := HX2.out _ _ hq4; have hv := HSv.out _ hq4.below; clear hq3 HX2 HSt)
      | (go_at_call 21; refine hst.mono ?_; clear hst; rintro e w9 ⟨rfl, h9⟩; subst w9)
      | (go_at_call 11; refine hx2.mono ?_; clear hx2 hv; rintro e w5 ⟨rfl, hb5⟩; have hv := HSv.out _ hb5)
      | (go_at_call 8; refine hv.mono ?_; clear hv; rintro e w6 ⟨rfl, hb6⟩))
        go_ret
        exact ⟨rfl, hb6⟩
      · have HO : Hid (∀ B W, Sq w W B x → Calls Tryd.prog 20 #[.pointer (some ⟨B, 0, none⟩), .int .i64 n, .int .i64 number, .agg #[.int .i64 2, .string ⟨#[107]⟩, .string ⟨#[118]⟩, .string ⟨#[]⟩]] W fun e W' => e = .returned (.tuple #[.agg #[.int .i64 (x.c n).2.1, .string (bs (x.c n).2.2)], .bool false, .int .i64 0]) ∧ Sq w W' B x) := fun B W h => h.do_same hs1 n number 2 [107] [118] [] hN heq
        obtain ⟨ae, hae⟩ : ∃ a, (x.c n).2.1 = a := ⟨_, rfl⟩
        obtain ⟨at_, hat⟩ : ∃ a, bs (x.c n).2.2 = a := ⟨_, rfl⟩
        rw [hae, hat] at HO
        clear hN hl he hok hs1 heq hae hat
        go_enter Tryd.func5, Tryd.ntmps5
        go_wp2_with (first
      | (go_at_call 9; refine hL.mono ?_; clear hL; rintro e w1 ⟨B, rfl, hq1⟩; have hx := HX.out _ _ hq1; clear HX hq1)
      | (go_at_call 11; refine hx.mono ?_; clear hx; rintro e w2 ⟨rfl, hq2⟩; have ho := HO.out _ _ hq2; clear HO hq2)
      | (go_at_call 20; refine ho.mono ?_; clear ho; rintro e w3 ⟨rfl, hq3⟩; have hq4 := hq3.alloc (.cells #[.int .i64 ae, .string at_] 47); have hst := HSt.out _ _ hq4; have hx2 := HX2.out _ _ hq4; have hv := HSv.out _ hq4.below; clear hq3 HX2 HSt)
      | (go_at_call 21; refine hst.mono ?_; clear hst; rintro e w9 ⟨rfl, h9⟩; subst w9)
      | (go_at_call 11; refine hx2.mono ?_; clear hx2 hv; rintro e w5 ⟨rfl, hb5⟩; have hv := HSv.out _ hb5)
      | (go_at_call 8; refine hv.mono ?_; clear hv; rintro e w6 ⟨rfl, hb6⟩))
        go_ret
        exact ⟨rfl, hb6⟩
      · have HO : Hid (∀ B W, Sq w W B x → Calls Tryd.prog 20 #[.pointer (some ⟨B, 0, none⟩), .int .i64 n, .int .i64 number, .agg #[.int .i64 2, .string ⟨#[107]⟩, .string ⟨#[118]⟩, .string ⟨#[]⟩]] W fun e W' => e = .returned (.tuple #[.agg #[.int .i64 (doR x.l 2 [107] [118] []).2.1, .string (bs (doR x.l 2 [107] [118] []).1)], .bool true, .int .i64 0]) ∧ Sq w W' B (doneS x n number 2 [107] [118] [])) := fun B W h => h.do_new hs1 n number 2 [107] [118] [] hN hgt
        have HS3 : Hid (∀ B W, Sq w W B (doneS x n number 2 [107] [118] []) → Calls Tryd.prog 21 #[.pointer (some ⟨B, 0, none⟩)] W fun e W' => e = .returned (.int .i64 1) ∧ W' = W) := fun B W h => h.status
        obtain ⟨ae, hae⟩ : ∃ a, (doR x.l 2 [107] [118] []).2.1 = a := ⟨_, rfl⟩
        obtain ⟨at_, hat⟩ : ∃ a, bs (doR x.l 2 [107] [118] []).1 = a := ⟨_, rfl⟩
        obtain ⟨x', hx'⟩ : ∃ a, doneS x n number 2 [107] [118] [] = a := ⟨_, rfl⟩
        rw [hae, hat, hx'] at HO
        rw [hx'] at HS3
        clear hN hl he hok hs1 hgt hae hat HX2 HSt hx'
        go_enter Tryd.func5, Tryd.ntmps5
        go_wp2_with (first
      | (go_at_call 9; refine hL.mono ?_; clear hL; rintro e w1 ⟨B, rfl, hq1⟩; have hx := HX.out _ _ hq1; clear HX hq1)
      | (go_at_call 11; refine hx.mono ?_; clear hx; rintro e w2 ⟨rfl, hq2⟩; have ho := HO.out _ _ hq2; clear HO hq2)
      | (go_at_call 20; refine ho.mono ?_; clear ho; rintro e w3 ⟨rfl, hq3⟩; have hq4 := hq3.alloc (.cells #[.int .i64 ae, .string at_] 47); have hst := HS3.out _ _ hq4; have hv := HSv.out _ hq4.below; clear hq3)
      | (go_at_call 21; refine hst.mono ?_; clear hst; rintro e w9 ⟨rfl, h9⟩; subst w9)
      | (go_at_call 8; refine hv.mono ?_; clear hv; rintro e w6 ⟨rfl, hb6⟩))
        go_ret
        exact ⟨rfl, hb6⟩
end Go.Proofs.YtgmobjdjojffgaaDoor
