/- The law MarkRises, walked. -/
import Derived.Test.YtmggfkhfiggloaaDoorMkV
namespace Go.Proofs.YtmggfkhfiggloaaDoor
open Go.RowKit
attribute [local go_sem ↓] Go.wp_at_zero Go.wp_at_succ

/-- v is a slice of just these steps. -/
def Stl (w : World) (v : Value) (l : List Sp) : Prop :=
  (l = [] ∧ ∃ a c, v = .slice a 0 c) ∨ ∃ b o cap, v = .slice (some ⟨b, o, none⟩) l.length cap ∧ b < w.heap.size ∧ ∀ (i : Nat) s, l[i]? = some s → w.rangeAt b (o + i * 8) s.cells ∧ Tp w s.u s.T ∧ s.Ok
theorem Stl.slice {w : World} {v : Value} {l : List Sp} (h : Stl w v l) : ∃ a c, v = .slice a l.length c := by
  rcases h with ⟨rfl, a, c, rfl⟩ | ⟨b, o, cap, rfl, _⟩
  · exact ⟨a, c, rfl⟩
  · exact ⟨_, _, rfl⟩
/-- A step's cells in a later world. -/
theorem Stl.at {w w' : World} {a : Option Addr} {c : Nat} {l : List Sp} (h : Stl w (.slice a l.length c) l) (hb : Below w.heap.size w w') {i : Nat} {s : Sp} (hi : l[i]? = some s) :
    ∃ b o, a = some ⟨b, o, none⟩ ∧ b < w.heap.size ∧ w'.cell? ⟨b, o + i * 8, none⟩ = some (.int .i64 s.what) ∧ w'.cell? ⟨b, o + i * 8 + 1, none⟩ = some (.int .i64 s.no) ∧ w'.cell? ⟨b, o + i * 8 + 2, none⟩ = some (.int .i64 s.n) ∧ w'.cell? ⟨b, o + i * 8 + 3, none⟩ = some (.string (bs s.st)) ∧ w'.cell? ⟨b, o + i * 8 + 4, none⟩ = some (.string (bs s.tg)) ∧ w'.cell? ⟨b, o + i * 8 + 5, none⟩ = some (.string (bs s.ct)) ∧ w'.cell? ⟨b, o + i * 8 + 6, none⟩ = some (.int .i64 s.cg) ∧ w'.cell? ⟨b, o + i * 8 + 7, none⟩ = some s.u ∧ Tp w' s.u s.T ∧ s.Ok := by
  rcases h with ⟨rfl, _⟩ | ⟨b, o, cap, he, hlt, h⟩
  · cases hi
  · injection he with ha _ _
    subst ha
    obtain ⟨h1, h2, h3⟩ := h i s hi
    have hc : ∀ j v, s.cells[j]? = some v → w'.cell? ⟨b, o + i * 8 + j, none⟩ = some v := fun j v hv => (hb.cell (p := ⟨b, o + i * 8 + j, none⟩) hlt).trans (h1 j v hv)
    exact ⟨b, o, rfl, hlt, hc 0 _ rfl, hc 1 _ rfl, hc 2 _ rfl, hc 3 _ rfl, hc 4 _ rfl, hc 5 _ rfl, hc 6 _ rfl, hc 7 _ rfl, h2.on hb, h3⟩

/-- What holds of marks of group 1. -/
structure Inv (s : St) : Prop where
  z : 0 ≤ s.n
  e : s.n = 0 → s.s = [] ∧ s.t = []
  r : s.n ≠ 0 → readL s.t = some (1, s.n, s.s)
theorem inv0 : Inv st0 := ⟨by decide, fun _ => ⟨rfl, rfl⟩, fun h => absurd rfl h⟩
theorem inT_n {g n : Int} (h : inT g n = true) : 1 ≤ n ∧ n ≤ 1099511627776 := by
  simp only [inT, Bool.and_eq_true] at h
  exact inR_t h.2
theorem Inv.vote {s s' : St} {f : Nat} {no n : Int} {st tg : List UInt8} {b : Bool} {E : Int} (h : Inv s) (hR : voteR 1 f s no n st tg = (b, E, s')) : Inv s' ∧ s.n ≤ s'.n := by
  unfold voteR at hR
  split at hR
  · simp only [Prod.mk.injEq] at hR
    obtain ⟨_, _, rfl⟩ := hR
    exact ⟨h, Int.le_refl _⟩
  · rename_i hE
    have hE : tofE 1 f no n st = 0 := by simpa using hE
    split at hR
    · simp only [Prod.mk.injEq] at hR
      obtain ⟨_, _, rfl⟩ := hR
      exact ⟨h, Int.le_refl _⟩
    · split at hR
      · simp only [Prod.mk.injEq] at hR
        obtain ⟨_, _, rfl⟩ := hR
        exact ⟨h, Int.le_refl _⟩
      · split at hR
        · simp only [Prod.mk.injEq] at hR
          obtain ⟨_, _, rfl⟩ := hR
          exact ⟨⟨h.z, h.e, h.r⟩, Int.le_refl _⟩
        · rename_i hn
          simp only [Prod.mk.injEq] at hR
          obtain ⟨_, _, rfl⟩ := hR
          have hT : textE 1 n st = 0 := by
            unfold tofE at hE
            split at hE
            · exact hE
            · cases hE
          obtain ⟨h1, h2, h3⟩ := textE_zero hT
          have h4 := inT_n h1
          refine ⟨⟨by show 0 ≤ n; omega, fun h0 => ?_, fun _ => ?_⟩, by show s.n ≤ n; omega⟩
          · have h0 : n = 0 := h0
            omega
          · show readL (textV 1 n st) = some (1, n, st)
            rw [h3]
            exact readL_some.2 ⟨h1, rfl, h2⟩
theorem Inv.adopt {s s' : St} {ct : List UInt8} {cg : Int} {T : List Tg} {b : Bool} {E : Int} (h : Inv s) (hR : adoptR 1 s ct cg T = (b, E, s')) : Inv s' ∧ s.n ≤ s'.n := by
  unfold adoptR at hR
  split at hR
  · simp only [Prod.mk.injEq] at hR
    obtain ⟨_, _, rfl⟩ := hR
    exact ⟨h, Int.le_refl _⟩
  · rename_i hE
    split at hR
    · simp only [Prod.mk.injEq] at hR
      obtain ⟨_, _, rfl⟩ := hR
      exact ⟨h, Int.le_refl _⟩
    · rename_i hn
      simp only [Prod.mk.injEq] at hR
      obtain ⟨_, _, rfl⟩ := hR
      rcases hr : readL ct with _ | ⟨g, n, st⟩
      · exact absurd (.inl (by rw [(read_none hr).2]; decide)) hE
      · have hv := (read_some hr).1
        obtain ⟨h1, _, _⟩ := readL_some.1 hr
        have h4 := inT_n h1
        rw [hv] at hE hn
        have hg : g = 1 := by
          by_cases e : g = 1
          · exact e
          · exact absurd (.inr (.inl e)) hE
        subst hg
        rw [hv]
        simp only at hn ⊢
        refine ⟨⟨by show 0 ≤ n; omega, fun h0 => ?_, fun _ => hr⟩, by omega⟩
        have h0 : n = 0 := h0
        omega
set_option maxRecDepth 20000 in
set_option maxHeartbeats 4000000 in
theorem rises_any (f : Int) (l : List Sp) (v : Value) (w : World) (he : Env w) (hv : Stl w v l) : Calls Tryd.prog 6 #[.int .i64 f, v] w fun e W' => e = .returned (.bool true) ∧ Below w.heap.size w W' := by
  obtain ⟨va, vc, rfl⟩ := hv.slice
  have HO : Hid (∀ W, Below w.heap.size w W → Calls Tryd.prog 12 #[] W fun e W' => e = .returned (.bool true) ∧ Below w.heap.size w W') := by
    intro W hb
    refine (one_any W (he.next hb).p).mono ?_
    rintro e W' ⟨rfl, h⟩
    exact ⟨rfl, hb.trans (h.mono hb.size)⟩
  rcases new_cases 1 f with hno | ⟨_, f', rfl, hf3⟩
  · have hN := New_no hno w
    have hO := HO.out w (Below.refl _ _)
    clear hno hv
    go_enter Tryd.func6, Tryd.ntmps6
    go_wp2_with (first
      | (go_at_call 13; refine hN.mono ?_; rintro e w1 ⟨rfl, h9⟩; subst h9)
      | (go_at_call 12; refine hO.mono ?_; rintro e w2 ⟨rfl, hb2⟩))
    go_ret
    exact ⟨rfl, hb2⟩
  · have hN := New_ok (g := 1) rfl hf3 w
    by_cases hl : 100 < l.length
    · have hl2 : (100 : Int) < (l.length : Int) := by omega
      clear hv hl
      go_enter Tryd.func6, Tryd.ntmps6
      go_wp2_with (first
        | (go_at_call 13; refine hN.mono ?_; rintro e w1 ⟨rfl, h1, hb1⟩; have hO := HO.out w1 hb1)
        | (go_at_call 12; refine hO.mono ?_; rintro e w2 ⟨rfl, hb2⟩))
      go_ret
      exact ⟨rfl, hb2⟩
    · have hl2 : (l.length : Int) ≤ 100 := by omega
      have HV : Hid (_) := hv
      clear hv hl
      go_enter Tryd.func6, Tryd.ntmps6
      go_wp2_with (first
        | (go_at_call 13; refine hN.mono ?_; rintro e w1 ⟨rfl, h1, hb1⟩))
      go_loopg [7, 44] l.length (fun gk last i wr => ∃ (j : Nat) (s : St) (cv : Value), j + gk = l.length ∧ i = .int .i64 j ∧ last = .int .i64 s.n ∧ MarkAt wr w.heap.size 1 f' s cv ∧ Inv s ∧ Below w.heap.size w wr)
      case atStart => exact ⟨0, st0, _, by omega, rfl, rfl, h1, inv0, hb1⟩
      case round =>
        clear h1 hb1 hN
        obtain ⟨j, s, cv, hj, rfl, rfl, h, hI, hB⟩ := hrel
        by_cases hlt : j < l.length
        · obtain ⟨p, hp⟩ : ∃ p, l[j]? = some p := ⟨_, List.getElem?_eq_getElem hlt⟩
          obtain ⟨vb, vo, rfl, hvb, x0, x1, x2, x3, x4, x5, x6, x7, hT, hok⟩ := Stl.at HV.out hB hp
          obtain ⟨what, no, n, st, tg, ct, cg, T, u⟩ := p
          simp only at x0 x1 x2 x3 x4 x5 x6 x7 hT
          obtain ⟨ua, uc, rfl⟩ := hT.slice
          have hsl : st.length ≤ 140737488351232 := by have := hok.st; unfold reachBytes at this; simp only at this; omega
          have hTl : T.length * 24 ≤ 140737488355328 := by have := hok.T; unfold reachBytes at this; simp only at this; omega
          have hba := (Below.refl wr.heap.size wr).alloc (Nat.le_refl _) (.cells #[.int .i64 what, .int .i64 no, .int .i64 n, .string (bs st), .string (bs tg), .string (bs ct), .int .i64 cg, .slice ua T.length uc] 51)
          have h1 := h.on hba
          have hB1 := hB.trans (hba.mono hB.size)
          have hT1 := hT.on hba
          have j0 : (0 : Int) ≤ (j : Int) := by omega
          have j1 : (j : Int) < (l.length : Int) := by omega
          have rQ := heap_alloc_new wr (.cells #[.int .i64 what, .int .i64 no, .int .i64 n, .string (bs st), .string (bs tg), .string (bs ct), .int .i64 cg, .slice ua T.length uc] 51)
          obtain ⟨W1, hW1⟩ : ∃ W, wr.alloc (.cells #[.int .i64 what, .int .i64 no, .int .i64 n, .string (bs st), .string (bs tg), .string (bs ct), .int .i64 cg, .slice ua T.length uc] 51) = W := ⟨_, rfl⟩
          have HW : Hid (wr.alloc (.cells #[.int .i64 what, .int .i64 no, .int .i64 n, .string (bs st), .string (bs tg), .string (bs ct), .int .i64 cg, .slice ua T.length uc] 51) = W1) := hW1
          rw [hW1] at h1 hB1 hT1 rQ
          have q0 := cellB rQ 0 _ rfl
          have q1 := cellB rQ 1 _ rfl
          have q2 := cellB rQ 2 _ rfl
          have q3 := cellB rQ 3 _ rfl
          have q4 := cellB rQ 4 _ rfl
          have q5 := cellB rQ 5 _ rfl
          have q6 := cellB rQ 6 _ rfl
          have q7 := cellB rQ 7 _ rfl
          have key : ∃ s3, (Inv s3 ∧ s.n ≤ s3.n) ∧ ((what = 2 ∧ ∃ b E, Calls Tryd.prog 17 #[.pointer (some ⟨w.heap.size, 0, none⟩), .agg #[.string (bs ct), .int .i64 cg, .slice ua T.length uc]] W1 fun e W' => e = .returned (.tuple #[.bool b, .int .i64 E]) ∧ ∃ cv', MarkAt W' w.heap.size 1 f' s3 cv' ∧ Below w.heap.size w W') ∨ ((what == 2) = false ∧ ∃ b E, Calls Tryd.prog 15 #[.pointer (some ⟨w.heap.size, 0, none⟩), .int .i64 no, .int .i64 n, .string (bs st), .string (bs tg)] W1 fun e W' => e = .returned (.tuple #[.bool b, .int .i64 E]) ∧ ∃ cv', MarkAt W' w.heap.size 1 f' s3 cv' ∧ Below w.heap.size w W')) := by
            by_cases hw : what = 2
            · obtain ⟨⟨b, E, s3⟩, hR⟩ : ∃ x, adoptR 1 s ct cg T = x := ⟨_, rfl⟩
              refine ⟨s3, hI.adopt hR, .inl ⟨hw, b, E, (Adopt_any h1 ct cg T _ hT1 hTl (he.next hB1) b E s3 hR).mono ?_⟩⟩
              rintro e W' ⟨rfl, cv', k1, k2, _⟩
              exact ⟨rfl, cv', k1, hB1.trans (k2.below (Nat.le_refl _) hB1.size)⟩
            · obtain ⟨⟨b, E, s3⟩, hR⟩ : ∃ x, voteR 1 f' s no n st tg = x := ⟨_, rfl⟩
              refine ⟨s3, hI.vote hR, .inr ⟨by simpa using hw, b, E, (Vote_any h1 no n st tg hsl (he.next hB1).p b E s3 hR).mono ?_⟩⟩
              rintro e W' ⟨rfl, cv', k1, k2, _⟩
              exact ⟨rfl, cv', k1, hB1.trans (k2.below (Nat.le_refl _) hB1.size)⟩
          obtain ⟨⟨V3, n3, ss, tt, g3, T3⟩, ⟨hI3, hle⟩, hcase⟩ := key
          obtain ⟨sn, hsn⟩ : ∃ x, s.n = x := ⟨_, rfl⟩
          have hz := hI.z
          have hie := hI3.e
          have hir := hI3.r
          simp only at hle hie hir
          rw [hsn] at hle hz ⊢
          have hd : decide (n3 < sn) = false := by simp; omega
          have HI : Hid (_) := hI3
          clear hW1 h1 hB1 hT1 rQ hba hT hok hsn hI hI3 h hp hsl hTl
          rcases hcase with ⟨rfl, b, E, hC⟩ | ⟨hne, b, E, hC⟩
          all_goals
            go_upto_region 8 with fail
            rw [HW.out]
            clear HW x0 x1 x2 x3 x4 x5 x6 x7
            go_upto_region 11 with (first
              | (go_at_call 17; refine hC.mono ?_; rintro e w3 ⟨rfl, cv3, h3, hB3⟩)
              | (go_at_call 15; refine hC.mono ?_; rintro e w3 ⟨rfl, cv3, h3, hB3⟩))
            have hS := Stable_any h3
            simp only at hS
            have HX : Hid (_ ∧ _) := ⟨h3, hB3⟩
            clear h3 hB3 hC q0 q1 q2 q3 q4 q5 q6 q7
            go_upto_region 12 with (first
              | (go_at_call 20; refine hS.mono ?_; rintro e w4 ⟨v4, rfl, ho4, hb4⟩; obtain ⟨a4, c4, rfl⟩ := owns_slice ho4))
            obtain ⟨h3, hB3⟩ := HX.out
            have hba4 := (Below.refl w4.heap.size w4).alloc (Nat.le_refl _) (.cells #[.string (bs tt), .int .i64 g3, .slice a4 T3.length c4] 49)
            have r4 := heap_alloc_new w4 (.cells #[.string (bs tt), .int .i64 g3, .slice a4 T3.length c4] 49)
            have hb5 := hb4.trans (hba4.mono hb4.size)
            have h5 := h3.on hb5
            have hB5 := hB3.trans (hb5.mono hB3.size)
            obtain ⟨W5, hW5⟩ : ∃ W, w4.alloc (.cells #[.string (bs tt), .int .i64 g3, .slice a4 T3.length c4] 49) = W := ⟨_, rfl⟩
            rw [hW5] at r4 h5 hB5 ⊢
            have p0 := cellB r4 0 _ rfl
            have hRd := Read_any tt W5 (he.next hB5)
            have HY : Hid (_ ∧ _) := ⟨h5, hB5⟩
            clear HX h3 hB3 hS ho4 hb4 hba4 r4 hb5 h5 hB5 hW5
            by_cases hn3 : n3 = 0
            · obtain ⟨rfl, rfl⟩ := hie hn3
              have hbs : bs [] = (⟨#[]⟩ : ByteArray) := rfl
              rw [hbs] at p0 ⊢
              subst hn3
              clear hie hir hRd hbs
              go_wp2
              go_roundg (l.length - (j + 1))
              case measure => omega
              case rel => exact ⟨j + 1, _, _, by omega, by go_num, rfl, HY.out.1, HI.out, HY.out.2⟩
            · have hrr := hir hn3
              have hE0 : (n3 == 0) = false := by simpa using hn3
              have hpos : 0 < n3 := by omega
              rw [(read_some hrr).1, (read_some hrr).2] at hRd
              have hss := str_same ss
              clear hie hir hrr hn3
              go_wp2_with (first
                | (go_at_call 10; refine hRd.mono ?_; clear hRd; rintro e w6 ⟨rfl, hb6⟩))
              go_roundg (l.length - (j + 1))
              case measure => omega
              case rel => exact ⟨j + 1, _, _, by omega, by go_num, rfl, HY.out.1.on hb6, HI.out, HY.out.2.trans (hb6.mono HY.out.2.size)⟩
        · have hjn : j = l.length := by omega
          subst hjn
          have hO := HO.out wr hB
          clear HV
          go_wp2_with (first
            | (go_at_call 12; refine hO.mono ?_; rintro e w2 ⟨rfl, hb2⟩))
          go_ret
          exact ⟨rfl, hb2⟩
end Go.Proofs.YtmggfkhfiggloaaDoor
