/- What a certificate's Check answers. -/
import Derived.Test.YtoniohmceaflnabDoorCkB
import Derived.Test.YtoniohmceaflnabDoorCtG
namespace Go.Proofs.YtoniohmceaflnabDoor
open Go.RowKit
attribute [local go_sem ↓] Go.wp_at_zero Go.wp_at_succ

/-- The last one's number. -/
def lastNo (l : List Tg) : Int := (l.getD (l.length - 1) (-1, [])).1
theorem last_nil : lastNo [] = -1 := rfl
theorem last_at {l : List Tg} {m : Nat} (h : l.length = m + 1) : ∃ t, l[m]? = some t ∧ lastNo l = t.1 := by
  have hm : m < l.length := by omega
  refine ⟨l[m], List.getElem?_eq_getElem hm, ?_⟩
  rw [lastNo, List.getD_eq_getElem?_getD, h, Nat.add_sub_cancel, List.getElem?_eq_getElem hm]; rfl
def badN (n need : Int) : Bool := decide (n < 1) || decide (16 < n) || decide (need < 1) || decide (n < need)
/-- What a certificate's Check answers. -/
def certE (seed : Option (List UInt8)) (x : List UInt8) (g : Int) (l : List Tg) (n need : Int) : Int :=
  if badN n need = true then 1 else if faultL g l ≠ 0 then faultL g l else if n ≤ lastNo l then 41 else if ckL seed g x l ≠ 0 then ckL seed g x l else if (l.length : Int) < need then 40 else 0

set_option maxRecDepth 20000 in
set_option maxHeartbeats 4000000 in
theorem certCheck_any (x : List UInt8) (g : Int) (l : List Tg) (v : Value) (n need : Int) (r : Option Addr) (seed : Option (List UInt8)) (w : World) (he : EnvP w) (hb : EnvB w) (hr : RingAt w r seed) (ht : seed ≠ none → x.length ≤ 140737488355328) (hll : l.length ≤ 140737488355328) (hv : Tl w v l) :
    Calls Tryd.prog 14 #[.pointer r, .agg #[.string (bs x), .int .i64 g, v], .int .i64 n, .int .i64 need] w fun e W' => e = .returned (.int .i64 (certE seed x g l n need)) ∧ Below w.heap.size w W' := by
  obtain ⟨va, vc, rfl⟩ := hv.slice
  have hb1 : Below w.heap.size w (w.alloc (.cells #[.string (bs x), .int .i64 g, .slice va l.length vc] 24)) := (Below.refl _ w).alloc (Nat.le_refl _) _
  by_cases hbad : badN n need = true
  · rw [certE, if_pos hbad]
    have hcase : n < 1 ∨ 1 ≤ n ∧ (16 < n ∨ n ≤ 16 ∧ (need < 1 ∨ 1 ≤ need ∧ n < need)) := by
      simp only [badN, Bool.or_eq_true, decide_eq_true_eq] at hbad
      omega
    clear hbad
    go_enter Tryd.func14, Tryd.ntmps14
    rcases hcase with h1 | ⟨h1, h2 | ⟨h2, h3 | ⟨h3, h4⟩⟩⟩
    all_goals
      go_wp2
      go_ret
      exact ⟨rfl, hb1⟩
  · have hok : 1 ≤ n ∧ n ≤ 16 ∧ 1 ≤ need ∧ need ≤ n := by
      simp only [badN, Bool.or_eq_true, decide_eq_true_eq] at hbad
      omega
    rw [certE, if_neg hbad]
    clear hbad
    obtain ⟨n1, n2, n3, n4⟩ := hok
    have p0 : (w.alloc (.cells #[.string (bs x), .int .i64 g, .slice va l.length vc] 24)).heap[w.heap.size]? = some (.cells #[.string (bs x), .int .i64 g, .slice va l.length vc] 24) := heap_alloc_new _ _
    have hlp : w.heap.size < (w.alloc (.cells #[.string (bs x), .int .i64 g, .slice va l.length vc] 24)).heap.size := by simp
    have hF := fault_any (bs x) g l (.slice va l.length vc) (w.alloc (.cells #[.string (bs x), .int .i64 g, .slice va l.length vc] 24)) hll (hv.below hb1 (Nat.le_refl _))
    by_cases hf0 : faultL g l = 0
    · rw [if_neg (fun h => h hf0)]
      rw [hf0] at hF
      clear hf0
      have hcase : (l = [] ∧ ¬ n ≤ lastNo l) ∨ ∃ m t, l.length = m + 1 ∧ l[m]? = some t ∧ lastNo l = t.1 := by
        rcases Nat.eq_zero_or_pos l.length with h | h
        · have := List.length_eq_zero_iff.1 h
          subst this
          exact .inl ⟨rfl, by rw [last_nil]; omega⟩
        · obtain ⟨m, hm⟩ : ∃ m, l.length = m + 1 := ⟨l.length - 1, by omega⟩
          obtain ⟨t, h1, h2⟩ := last_at hm
          exact .inr ⟨m, t, hm, h1, h2⟩
      have hCk : ∀ W, Below w.heap.size w W → Calls Tryd.prog 24 #[.pointer r, .agg #[.string (bs x), .int .i64 g, .slice va l.length vc], .func (.func 25) #[] #[]] W fun e W' => e = .returned (.int .i64 (ckL seed g x l)) ∧ Below W.heap.size W W' :=
        fun W hW => checkTags_any x g l _ r seed W (he.next hW) (hb.next hW) (hr.below hW (Nat.le_refl _)) ht hll (hv.below hW (Nat.le_refl _))
      obtain ⟨C, hC⟩ : ∃ C, ckL seed g x l = C := ⟨_, rfl⟩
      rw [hC]
      rw [hC] at hCk
      clear hC
      obtain ⟨R, hR⟩ : ∃ R : Int, (if n ≤ lastNo l then 41 else if C ≠ 0 then C else if (l.length : Int) < need then 40 else 0) = R := ⟨_, rfl⟩
      rw [hR]
      have HR : Hid ((if n ≤ lastNo l then 41 else if C ≠ 0 then C else if (l.length : Int) < need then 40 else 0) = R) := hR
      have Hcase : Hid ((l = [] ∧ ¬ n ≤ lastNo l) ∨ ∃ m t, l.length = m + 1 ∧ l[m]? = some t ∧ lastNo l = t.1) := hcase
      clear hR hcase
      go_enter Tryd.func14, Tryd.ntmps14
      go_wp2_with fail
      refine hF.mono ?_
      clear hF
      rintro e w1 ⟨rfl, hb2⟩
      have hB1 := hb1.trans (hb2.mono hb1.size)
      have p1 := (hb2.block w.heap.size hlp).trans p0
      have hl1 : w.heap.size < w1.heap.size := (Array.getElem?_eq_some_iff.1 p1).1
      have x0 := cellB p1 0 (.string (bs x)) rfl
      have x1 := cellB p1 1 (.int .i64 g) rfl
      have x2 := cellB p1 2 (.slice va l.length vc) rfl
      have hCw := hCk w1 hB1
      have hv1 := hv.below hB1 (Nat.le_refl _)
      clear hb2 p0 hb1 hCk hlp
      rcases Hcase.out with ⟨rfl, hno⟩ | ⟨m, t, hm, htm, hlast⟩
      · have HR2 : Hid ((if C ≠ 0 then C else if ((([] : List Tg).length : Int)) < need then 40 else 0) = R) := by have h := HR.out; rw [if_neg (by omega)] at h; exact h
        clear hno hv1 HR Hcase
        simp only [List.length_nil] at x2 hCw p1
        go_wp2_with fail
        refine hCw.mono ?_
        clear hCw
        rintro e w2 ⟨rfl, hb3⟩
        have hB2 := hB1.trans (hb3.mono hB1.size)
        have p2 := (hb3.block w.heap.size hl1).trans p1
        have y0 := cellB p2 0 (.string (bs x)) rfl
        have y1 := cellB p2 1 (.int .i64 g) rfl
        have y2 := cellB p2 2 (.slice va 0 vc) rfl
        have hCt := Count_any (bs x) g va 0 vc w2
        by_cases hc0 : C = 0
        · subst hc0
          have HZ : Hid (R = 40) := by show R = 40; rw [← HR2.out, if_neg (fun h => h rfl), if_pos (show ((([] : List Tg).length : Int) < need) by simp; omega)]
          clear HR2
          go_wp2_with (go_at_call 19; refine hCt.mono ?_; rintro e w3 ⟨rfl, hb4⟩)
          go_ret
          rw [HZ.out]
          exact ⟨rfl, hB2.trans (hb4.mono hB2.size)⟩
        · have HZ : Hid (R = C) := by show R = C; rw [← HR2.out, if_pos hc0]
          have hq : (C != 0) = true := by simpa using hc0
          clear HR2 hc0
          go_wp2
          go_ret
          rw [HZ.out]
          exact ⟨rfl, hB2⟩
      · have HR1 : Hid ((if n ≤ t.1 then 41 else if C ≠ 0 then C else if ((m + 1 : Nat) : Int) < need then 40 else 0) = R) := by have h := HR.out; rw [hlast, hm] at h; exact h
        clear HR Hcase
        obtain ⟨z, zs⟩ := t
        obtain ⟨vb, vo, rfl, hvl⟩ := hv1.some (by omega)
        have hcl := (hv1.cells htm).1
        simp only at hcl
        obtain ⟨L, hL⟩ : ∃ L, l.length = L := ⟨_, rfl⟩
        rw [hL] at x2 hCw p1 hm hll ⊢
        subst hm
        simp only at HR1
        clear hv1 htm hlast hv hL
        by_cases hz : n ≤ z
        · have HZ : Hid (R = 41) := by show R = 41; rw [← HR1.out, if_pos hz]
          clear HR1
          go_wp2
          go_ret
          rw [HZ.out]
          exact ⟨rfl, hB1⟩
        · have HR2 : Hid ((if C ≠ 0 then C else if ((m + 1 : Nat) : Int) < need then 40 else 0) = R) := by have h := HR1.out; rw [if_neg hz] at h; exact h
          clear HR1
          go_wp2_with fail
          refine hCw.mono ?_
          clear hCw
          rintro e w2 ⟨rfl, hb3⟩
          have hB2 := hB1.trans (hb3.mono hB1.size)
          have p2 := (hb3.block w.heap.size hl1).trans p1
          have y0 := cellB p2 0 (.string (bs x)) rfl
          have y1 := cellB p2 1 (.int .i64 g) rfl
          have y2 := cellB p2 2 (.slice (some ⟨vb, vo, none⟩) (m + 1) vc) rfl
          have hCt := Count_any (bs x) g (some ⟨vb, vo, none⟩) (m + 1) vc w2
          by_cases hc0 : C = 0
          · subst hc0
            by_cases hn : ((m + 1 : Nat) : Int) < need
            · have HZ : Hid (R = 40) := by show R = 40; rw [← HR2.out, if_neg (fun h => h rfl), if_pos hn]
              clear HR2
              go_wp2_with (go_at_call 19; refine hCt.mono ?_; rintro e w3 ⟨rfl, hb4⟩)
              go_ret
              rw [HZ.out]
              exact ⟨rfl, hB2.trans (hb4.mono hB2.size)⟩
            · have HZ : Hid (R = 0) := by show R = 0; rw [← HR2.out, if_neg (fun h => h rfl), if_neg hn]
              clear HR2
              go_wp2_with (go_at_call 19; refine hCt.mono ?_; rintro e w3 ⟨rfl, hb4⟩)
              go_ret
              rw [HZ.out]
              exact ⟨rfl, hB2.trans (hb4.mono hB2.size)⟩
          · have HZ : Hid (R = C) := by show R = C; rw [← HR2.out, if_pos hc0]
            have hq : (C != 0) = true := by simpa using hc0
            clear HR2 hc0
            go_wp2
            go_ret
            rw [HZ.out]
            exact ⟨rfl, hB2⟩
    · rw [if_pos hf0]
      have hq : (faultL g l != 0) = true := by simpa using hf0
      obtain ⟨F, hF2⟩ : ∃ F, faultL g l = F := ⟨_, rfl⟩
      rw [hF2] at hF hq ⊢
      clear hF2 hf0
      go_enter Tryd.func14, Tryd.ntmps14
      go_wp2_with fail
      refine hF.mono ?_
      clear hF
      rintro e w1 ⟨rfl, hb2⟩
      go_wp2
      go_ret
      exact ⟨rfl, hb1.trans (hb2.mono hb1.size)⟩
end Go.Proofs.YtoniohmceaflnabDoor
