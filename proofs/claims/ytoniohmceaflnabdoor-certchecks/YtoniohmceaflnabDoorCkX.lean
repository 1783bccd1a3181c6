import Derived.Test.YtoniohmceaflnabDoorCkA
import Derived.Test.YtoniohmceaflnabDoorCtG
import Derived.Test.YtoniohmceaflnabDoorCtE
import Derived.Test.YtoniohmceaflnabDoorCtI
import Derived.Deep.RegionHeld3
/- Whether the tags of a certificate are right: asked one by one, and what is answered. -/
namespace Go.Proofs.YtoniohmceaflnabDoor
open Go.RowKit
attribute [local go_sem ↓] Go.wp_at_zero Go.wp_at_succ

/-- The first error of tags that are asked one by one. -/
def ckL (seed : Option (List UInt8)) (g : Int) (x : List UInt8) : List Tg → Int
  | [] => 0
  | (n, t) :: r => if checkE seed g n x t = 0 then ckL seed g x r else checkE seed g n x t

set_option maxRecDepth 20000 in
set_option maxHeartbeats 2000000 in
theorem checkTags_any (x : List UInt8) (g : Int) (l : List Tg) (v : Value) (r : Option Addr) (seed : Option (List UInt8)) (w : World) (he : EnvP w) (hb : EnvB w) (hr : RingAt w r seed) (ht : seed ≠ none → x.length ≤ 140737488355328) (hll : l.length ≤ 140737488355328) (hv : Tl w v l) :
    Calls Tryd.prog 24 #[.pointer r, .agg #[.string (bs x), .int .i64 g, v], .func (.func 25) #[] #[]] w fun e W' => e = .returned (.int .i64 (ckL seed g x l)) ∧ Below w.heap.size w W' := by
  obtain ⟨va, vc, rfl⟩ := hv.slice
  have hb1 : Below w.heap.size w (w.alloc (.cells #[.string (bs x), .int .i64 g, .slice va l.length vc] 24)) := (Below.refl _ w).alloc (Nat.le_refl _) _
  have p0 : (w.alloc (.cells #[.string (bs x), .int .i64 g, .slice va l.length vc] 24)).heap[w.heap.size]? = some (.cells #[.string (bs x), .int .i64 g, .slice va l.length vc] 24) := heap_alloc_new _ _
  obtain ⟨R, hR⟩ : ∃ R, ckL seed g x l = R := ⟨_, rfl⟩
  rw [hR]
  have HR : Hid (ckL seed g x (l.drop 0) = R) := by show ckL seed g x (l.drop 0) = R; rw [List.drop_zero]; exact hR
  clear hR
  go_enter Tryd.func24, Tryd.ntmps24
  go_wp2
  go_loopw [14] (fun i wr => ∃ (k : Nat), i = .int .i64 k ∧ k ≤ l.length ∧ Hid (ckL seed g x (l.drop k) = R) ∧ wr.heap[w.heap.size]? = some (.cells #[.string (bs x), .int .i64 g, .slice va l.length vc] 24) ∧ Below w.heap.size w wr)
    (fun i _ => l.length - (intOf i).toNat)
  case atStart => exact ⟨0, rfl, Nat.zero_le _, HR, p0, hb1⟩
  case round =>
    obtain ⟨k, rfl, hk, hF, p1, hB1⟩ := hrel
    clear p0 hb1 HR
    have x0 := cellB p1 0 (.string (bs x)) rfl
    have x1 := cellB p1 1 (.int .i64 g) rfl
    have x2 := cellB p1 2 (.slice va l.length vc) rfl
    have hl1 : w.heap.size < wr.heap.size := (Array.getElem?_eq_some_iff.1 p1).1
    by_cases hk1 : k = l.length
    · subst hk1
      have hF2 := hF.out
      rw [List.drop_length, ckL] at hF2
      go_wp2
      go_ret
      rw [← hF2]
      exact ⟨rfl, hB1⟩
    · have hk2 : k < l.length := by omega
      obtain ⟨t, ht⟩ : ∃ t, l[k]? = some t := ⟨_, List.getElem?_eq_getElem hk2⟩
      have hd : l.drop k = t :: l.drop (k + 1) := by
        rw [List.drop_eq_getElem_cons hk2]; congr 1; rw [List.getElem?_eq_getElem hk2] at ht; injection ht
      rcases hv.below hB1 (Nat.le_refl _) with ⟨rfl, _⟩ | ⟨vb, vo, vcap, hve, hvl, hvc⟩
      · cases ht
      injection hve with hva _ hvcap
      subst hva hvcap
      obtain ⟨hc1, hc2⟩ := hvc k t ht
      obtain ⟨n, s⟩ := t
      have hF2 := hF.out
      rw [hd, ckL] at hF2
      have HF : Hid ((if checkE seed g n x s = 0 then ckL seed g x (l.drop (k + 1)) else checkE seed g n x s) = R) := hF2
      clear hF hF2 hd ht hvc
      have hba : Below wr.heap.size wr (wr.alloc (.cells #[.int .i64 n, .string (bs s)] 56)) := (Below.refl _ _).alloc (Nat.le_refl _) _
      have hbb := hba.alloc hba.size (.cells #[.int .i64 g, .int .i64 n] 26)
      have hBb := hB1.trans (hbb.mono hB1.size)
      have hC := Check_any r seed g n x s ((wr.alloc (.cells #[.int .i64 n, .string (bs s)] 56)).alloc (.cells #[.int .i64 g, .int .i64 n] 26)) (he.next hBb) (hb.next hBb) (hr.below hBb (Nat.le_refl _)) ‹_›
      have p2 := (hbb.block w.heap.size hl1).trans p1
      have hl2 := Nat.lt_of_lt_of_le hl1 hbb.size
      obtain ⟨C, hC2⟩ : ∃ C, checkE seed g n x s = C := ⟨_, rfl⟩
      rw [hC2] at hC HF
      clear hC2
      by_cases h0 : C = 0
      · subst h0
        have HF2 : Hid (ckL seed g x (l.drop (k + 1)) = R) := by have h := HF.out; rw [if_pos rfl] at h; exact h
        clear HF
        go_wp2_with (go_at_call 25; refine hC.mono ?_; rintro e w3 ⟨rfl, hb3⟩; have hB3 := hBb.trans (hb3.mono hBb.size); have p3 := (hb3.block w.heap.size hl2).trans p2)
        go_roundw
        case rel => exact ⟨k + 1, by go_num, hk2, HF2, p3, hB3⟩
        case measure => simp [intOf]; omega
      · have HF2 : Hid (C = R) := by have h := HF.out; rw [if_neg h0] at h; exact h
        have hq : (C != 0) = true := by simpa using h0
        clear HF h0
        go_wp2_with (go_at_call 25; refine hC.mono ?_; rintro e w3 ⟨rfl, hb3⟩; have hB3 := hBb.trans (hb3.mono hBb.size))
        go_ret
        rw [HF2.out]
        exact ⟨rfl, hB3⟩
end Go.Proofs.YtoniohmceaflnabDoor
/- What a certificate's Check answers. -/
namespace Go.Proofs.YtoniohmceaflnabDoor
open Go.RowKit
attribute [local go_sem ↓] Go.wp_at_zero Go.wp_at_succ

/-- The last one's number. -/
def lastNo (l : List Tg) : Int := (l.getD (l.length - 1) (-1, [])).1
theorem last_nil : lastNo [] = -1 := rfl
theorem last_at {l : List Tg} {m : Nat} (h : l.length = m + 1) : ∃ t, l[m]? = some t ∧ lastNo l = t.1 := by
  have hm : m < l.length := by omega
  refine ⟨l[m], List.getElem?_eq_getElem hm, ?_⟩
  rw [lastNo, List.getD_eq_getElem?_getD, h, Nat.add_sub_cancel, List.getElem?_eq_getElem hm]; rfl
def badN (n need : Int) : Bool := decide (n < 1) || decide (16 < n) || decide (need < 1) || decide (n < need)
/-- What a certificate's Check answers. -/
def certE (seed : Option (List UInt8)) (x : List UInt8) (g : Int) (l : List Tg) (n need : Int) : Int :=
  if badN n need = true then 1 else if faultL g l ≠ 0 then faultL g l else if n ≤ lastNo l then 41 else if ckL seed g x l ≠ 0 then ckL seed g x l else if (l.length : Int) < need then 40 else 0

set_option maxRecDepth 20000 in
set_option maxHeartbeats 4000000 in
theorem certCheck_any (x : List UInt8) (g : Int) (l : List Tg) (v : Value) (n need : Int) (r : Option Addr) (seed : Option (List UInt8)) (w : World) (he : EnvP w) (hb : EnvB w) (hr : RingAt w r seed) (ht : seed ≠ none → x.length ≤ 140737488355328) (hll : l.length ≤ 140737488355328) (hv : Tl w v l) :
    Calls Tryd.prog 14 #[.pointer r, .agg #[.string (bs x), .int .i64 g, v], .int .i64 n, .int .i64 need] w fun e W' => e = .returned (.int .i64 (certE seed x g l n need)) ∧ Below w.heap.size w W' := by
  obtain ⟨va, vc, rfl⟩ := hv.slice
  have hb1 : Below w.heap.size w (w.alloc (.cells #[.string (bs x), .int .i64 g, .slice va l.length vc] 24)) := (Below.refl _ w).alloc (Nat.le_refl _) _
  by_cases hbad : badN n need = true
  · rw [certE, if_pos hbad]
    have hcase : n < 1 ∨ 1 ≤ n ∧ (16 < n ∨ n ≤ 16 ∧ (need < 1 ∨ 1 ≤ need ∧ n < need)) := by
      simp only [badN, Bool.or_eq_true, decide_eq_true_eq] at hbad
      omega
    clear hbad
    go_enter Tryd.func14, Tryd.ntmps14
    rcases hcase with h1 | ⟨h1, h2 | ⟨h2, h3 | ⟨h3, h4⟩⟩⟩
    all_goals
      go_wp2
      go_ret
      exact ⟨rfl, hb1⟩
  · have hok : 1 ≤ n ∧ n ≤ 16 ∧ 1 ≤ need ∧ need ≤ n := by
      simp only [badN, Bool.or_eq_true, decide_eq_true_eq] at hbad
      omega
    rw [certE, if_neg hbad]
    clear hbad
    obtain ⟨n1, n2, n3, n4⟩ := hok
    have p0 : (w.alloc (.cells #[.string (bs x), .int .i64 g, .slice va l.length vc] 24)).heap[w.heap.size]? = some (.cells #[.string (bs x), .int .i64 g, .slice va l.length vc] 24) := heap_alloc_new _ _
    have hlp : w.heap.size < (w.alloc (.cells #[.string (bs x), .int .i64 g, .slice va l.length vc] 24)).heap.size := by simp
    have hF := fault_any (bs x) g l (.slice va l.length vc) (w.alloc (.cells #[.string (bs x), .int .i64 g, .slice va l.length vc] 24)) hll (hv.below hb1 (Nat.le_refl _))
    by_cases hf0 : faultL g l = 0
    · rw [if_neg (fun h => h hf0)]
      rw [hf0] at hF
      clear hf0
      have hcase : (l = [] ∧ ¬ n ≤ lastNo l) ∨ ∃ m t, l.length = m + 1 ∧ l[m]? = some t ∧ lastNo l = t.1 := by
        rcases Nat.eq_zero_or_pos l.length with h | h
        · have := List.length_eq_zero_iff.1 h
          subst this
          exact .inl ⟨rfl, by rw [last_nil]; omega⟩
        · obtain ⟨m, hm⟩ : ∃ m, l.length = m + 1 := ⟨l.length - 1, by omega⟩
          obtain ⟨t, h1, h2⟩ := last_at hm
          exact .inr ⟨m, t, hm, h1, h2⟩
      have hCk : ∀ W, Below w.heap.size w W → Calls Tryd.prog 24 #[.pointer r, .agg #[.string (bs x), .int .i64 g, .slice va l.length vc], .func (.func 25) #[] #[]] W fun e W' => e = .returned (.int .i64 (ckL seed g x l)) ∧ Below W.heap.size W W' :=
        fun W hW => checkTags_any x g l _ r seed W (he.next hW) (hb.next hW) (hr.below hW (Nat.le_refl _)) ht hll (hv.below hW (Nat.le_refl _))
      obtain ⟨C, hC⟩ : ∃ C, ckL seed g x l = C := ⟨_, rfl⟩
      rw [hC]
      rw [hC] at hCk
      clear hC
      obtain ⟨R, hR⟩ : ∃ R : Int, (if n ≤ lastNo l then 41 else if C ≠ 0 then C else if (l.length : Int) < need then 40 else 0) = R := ⟨_, rfl⟩
      rw [hR]
      have HR : Hid ((if n ≤ lastNo l then 41 else if C ≠ 0 then C else if (l.length : Int) < need then 40 else 0) = R) := hR
      have Hcase : Hid ((l = [] ∧ ¬ n ≤ lastNo l) ∨ ∃ m t, l.length = m + 1 ∧ l[m]? = some t ∧ lastNo l = t.1) := hcase
      clear hR hcase
      go_enter Tryd.func14, Tryd.ntmps14
      go_wp2_with fail
      refine hF.mono ?_
      clear hF
      rintro e w1 ⟨rfl, hb2⟩
      have hB1 := hb1.trans (hb2.mono hb1.size)
      have p1 := (hb2.block w.heap.size hlp).trans p0
      have hl1 : w.heap.size < w1.heap.size := (Array.getElem?_eq_some_iff.1 p1).1
      have x0 := cellB p1 0 (.string (bs x)) rfl
      have x1 := cellB p1 1 (.int .i64 g) rfl
      have x2 := cellB p1 2 (.slice va l.length vc) rfl
      have hCw := hCk w1 hB1
      have hv1 := hv.below hB1 (Nat.le_refl _)
      clear hb2 p0 hb1 hCk hlp
      rcases Hcase.out with ⟨rfl, hno⟩ | ⟨m, t, hm, htm, hlast⟩
      · have HR2 : Hid ((if C ≠ 0 then C else if ((([] : List Tg).length : Int)) < need then 40 else 0) = R) := by have h := HR.out; rw [if_neg (by omega)] at h; exact h
        clear hno hv1 HR Hcase
        simp only [List.length_nil] at x2 hCw p1
        go_wp2_with fail
        refine hCw.mono ?_
        clear hCw
        rintro e w2 ⟨rfl, hb3⟩
        have hB2 := hB1.trans (hb3.mono hB1.size)
        have p2 := (hb3.block w.heap.size hl1).trans p1
        have y0 := cellB p2 0 (.string (bs x)) rfl
        have y1 := cellB p2 1 (.int .i64 g) rfl
        have y2 := cellB p2 2 (.slice va 0 vc) rfl
        have hCt := Count_any (bs x) g va 0 vc w2
        by_cases hc0 : C = 0
        · subst hc0
          have HZ : Hid (R = 40) := by show R = 40; rw [← HR2.out, if_neg (fun h => h rfl), if_pos (show ((([] : List Tg).length : Int) < need) by simp; omega)]
          clear HR2
          go_wp2_with (go_at_call 19; refine hCt.mono ?_; rintro e w3 ⟨rfl, hb4⟩)
          go_ret
          rw [HZ.out]
          exact ⟨rfl, hB2.trans (hb4.mono hB2.size)⟩
        · have HZ : Hid (R = C) := by show R = C; rw [← HR2.out, if_pos hc0]
          have hq : (C != 0) = true := by simpa using hc0
          clear HR2 hc0
          go_wp2
          go_ret
          rw [HZ.out]
          exact ⟨rfl, hB2⟩
      · have HR1 : Hid ((if n ≤ t.1 then 41 else if C ≠ 0 then C else if ((m + 1 : Nat) : Int) < need then 40 else 0) = R) := by have h := HR.out; rw [hlast, hm] at h; exact h
        clear HR Hcase
        obtain ⟨z, zs⟩ := t
        obtain ⟨vb, vo, rfl, hvl⟩ := hv1.some (by omega)
        have hcl := (hv1.cells htm).1
        simp only at hcl
        obtain ⟨L, hL⟩ : ∃ L, l.length = L := ⟨_, rfl⟩
        rw [hL] at x2 hCw p1 hm hll ⊢
        subst hm
        simp only at HR1
        clear hv1 htm hlast hv hL
        by_cases hz : n ≤ z
        · have HZ : Hid (R = 41) := by show R = 41; rw [← HR1.out, if_pos hz]
          clear HR1
          go_wp2
          go_ret
          rw [HZ.out]
          exact ⟨rfl, hB1⟩
        · have HR2 : Hid ((if C ≠ 0 then C else if ((m + 1 : Nat) : Int) < need then 40 else 0) = R) := by have h := HR1.out; rw [if_neg hz] at h; exact h
          clear HR1
          go_wp2_with fail
          refine hCw.mono ?_
          clear hCw
          rintro e w2 ⟨rfl, hb3⟩
          have hB2 := hB1.trans (hb3.mono hB1.size)
          have p2 := (hb3.block w.heap.size hl1).trans p1
          have y0 := cellB p2 0 (.string (bs x)) rfl
          have y1 := cellB p2 1 (.int .i64 g) rfl
          have y2 := cellB p2 2 (.slice (some ⟨vb, vo, none⟩) (m + 1) vc) rfl
          have hCt := Count_any (bs x) g (some ⟨vb, vo, none⟩) (m + 1) vc w2
          by_cases hc0 : C = 0
          · subst hc0
            by_cases hn : ((m + 1 : Nat) : Int) < need
            · have HZ : Hid (R = 40) := by show R = 40; rw [← HR2.out, if_neg (fun h => h rfl), if_pos hn]
              clear HR2
              go_wp2_with (go_at_call 19; refine hCt.mono ?_; rintro e w3 ⟨rfl, hb4⟩)
              go_ret
              rw [HZ.out]
              exact ⟨rfl, hB2.trans (hb4.mono hB2.size)⟩
            · have HZ : Hid (R = 0) := by show R = 0; rw [← HR2.out, if_neg (fun h => h rfl), if_neg hn]
              clear HR2
              go_wp2_with (go_at_call 19; refine hCt.mono ?_; rintro e w3 ⟨rfl, hb4⟩)
              go_ret
              rw [HZ.out]
              exact ⟨rfl, hB2.trans (hb4.mono hB2.size)⟩
          · have HZ : Hid (R = C) := by show R = C; rw [← HR2.out, if_pos hc0]
            have hq : (C != 0) = true := by simpa using hc0
            clear HR2 hc0
            go_wp2
            go_ret
            rw [HZ.out]
            exact ⟨rfl, hB2⟩
    · rw [if_pos hf0]
      have hq : (faultL g l != 0) = true := by simpa using hf0
      obtain ⟨F, hF2⟩ : ∃ F, faultL g l = F := ⟨_, rfl⟩
      rw [hF2] at hF hq ⊢
      clear hF2 hf0
      go_enter Tryd.func14, Tryd.ntmps14
      go_wp2_with fail
      refine hF.mono ?_
      clear hF
      rintro e w1 ⟨rfl, hb2⟩
      go_wp2
      go_ret
      exact ⟨rfl, hb1.trans (hb2.mono hb1.size)⟩
end Go.Proofs.YtoniohmceaflnabDoor
/- What the plain text of a certificate's check answers: the same. -/
namespace Go.Proofs.YtoniohmceaflnabDoor
open Go.RowKit
attribute [local go_sem ↓] Go.wp_at_zero Go.wp_at_succ

theorem last_top {l : List Tg} (h : l.Pairwise (fun a b => a.1 < b.1)) {t : Tg} (ht : t ∈ l) : t.1 ≤ lastNo l := by
  obtain ⟨i, hi, rfl⟩ := List.getElem_of_mem ht
  obtain ⟨m, hm⟩ : ∃ m, l.length = m + 1 := ⟨l.length - 1, by omega⟩
  obtain ⟨u, h1, h2⟩ := last_at hm
  rw [h2]
  rw [List.getElem?_eq_getElem (by omega)] at h1
  injection h1 with h1
  rw [← h1]
  by_cases e : i = m
  · subst e; exact Int.le_refl _
  · exact Int.le_of_lt (List.pairwise_iff_getElem.1 h i m hi (by omega) (by omega))
theorem last_low {l : List Tg} {n : Int} (hn : 1 ≤ n) (h : ∀ t ∈ l, t.1 < n) : ¬ n ≤ lastNo l := by
  rcases Nat.eq_zero_or_pos l.length with h0 | h0
  · rw [List.length_eq_zero_iff.1 h0, last_nil]; omega
  · obtain ⟨m, hm⟩ : ∃ m, l.length = m + 1 := ⟨l.length - 1, by omega⟩
    obtain ⟨u, h1, h2⟩ := last_at hm
    rw [h2]
    have := h u (List.mem_of_getElem? h1)
    omega
theorem check_30 (seed : List UInt8) (g n : Int) (x t : List UInt8) (hp : isP g n) : checkE (some seed) g n x t = 0 ∨ checkE (some seed) g n x t = 30 := by
  have e1 : tagErr (some seed) g n = 0 := by simp [tagErr, hp]
  rw [checkE, if_neg (fun h => h e1)]
  split
  · exact .inl rfl
  · exact .inr rfl

set_option maxRecDepth 20000 in
set_option maxHeartbeats 4000000 in
theorem rCheck4_any (seed x : List UInt8) (g : Int) (l : List Tg) (v : Value) (n need : Int) (w : World) (hs : seed.length ≤ 32) (hx : x.length ≤ 140737488351232) (hll : l.length ≤ 140737488355328) (hv : Tl w v l) :
    Calls Tryd.prog 15 #[.string (bs seed), .agg #[.string (bs x), .int .i64 g, v], .int .i64 n, .int .i64 need] w fun e W' => e = .returned (.int .i64 (certE (some seed) x g l n need)) ∧ Below w.heap.size w W' := by
  obtain ⟨va, vc, rfl⟩ := hv.slice
  have hb1 : Below w.heap.size w (w.alloc (.cells #[.string (bs x), .int .i64 g, .slice va l.length vc] 36)) := (Below.refl _ w).alloc (Nat.le_refl _) _
  by_cases hbad : badN n need = true
  · rw [certE, if_pos hbad]
    have hcase : n < 1 ∨ 1 ≤ n ∧ (16 < n ∨ n ≤ 16 ∧ (need < 1 ∨ 1 ≤ need ∧ n < need)) := by
      simp only [badN, Bool.or_eq_true, decide_eq_true_eq] at hbad
      omega
    clear hbad
    go_enter Tryd.func15, Tryd.ntmps15
    rcases hcase with h1 | ⟨h1, h2 | ⟨h2, h3 | ⟨h3, h4⟩⟩⟩
    all_goals
      go_wp2
      go_ret
      exact ⟨rfl, hb1⟩
  · have hok : 1 ≤ n ∧ n ≤ 16 ∧ 1 ≤ need ∧ need ≤ n := by
      simp only [badN, Bool.or_eq_true, decide_eq_true_eq] at hbad
      omega
    rw [certE, if_neg hbad]
    clear hbad
    obtain ⟨n1, n2, n3, n4⟩ := hok
    have p0 : (w.alloc (.cells #[.string (bs x), .int .i64 g, .slice va l.length vc] 36)).heap[w.heap.size]? = some (.cells #[.string (bs x), .int .i64 g, .slice va l.length vc] 36) := heap_alloc_new _ _
    have hlp : w.heap.size < (w.alloc (.cells #[.string (bs x), .int .i64 g, .slice va l.length vc] 36)).heap.size := by simp
    have hF := form_any (bs x) g l (.slice va l.length vc) (w.alloc (.cells #[.string (bs x), .int .i64 g, .slice va l.length vc] 36)) hll (hv.below hb1 (Nat.le_refl _))
    by_cases hf0 : faultL g l = 0
    · rw [if_neg (fun h => h hf0)]
      rw [hf0] at hF
      obtain ⟨g1, g2, hl16, hmem⟩ := fault_zero hf0
      have hsort : l.Pairwise (fun a b => a.1 < b.1) := by
        have h := hf0
        rw [faultL, if_neg (by omega)] at h
        exact (tags_sorted h).2
      obtain ⟨R, hR⟩ : ∃ R : Int, (if n ≤ lastNo l then 41 else if ckL (some seed) g x l ≠ 0 then ckL (some seed) g x l else if (l.length : Int) < need then 40 else 0) = R := ⟨_, rfl⟩
      rw [hR]
      have HR : Hid ((if n ≤ lastNo l then 41 else if ckL (some seed) g x l ≠ 0 then ckL (some seed) g x l else if (l.length : Int) < need then 40 else 0) = R) := hR
      have HM : Hid ((∀ t ∈ l, 0 ≤ t.1 ∧ t.1 < 16 ∧ t.2.length = 16) ∧ l.Pairwise (fun a b => a.1 < b.1)) := ⟨hmem, hsort⟩
      clear hR hf0 hmem hsort
      go_enter Tryd.func15, Tryd.ntmps15
      go_wp2_with fail
      refine hF.mono ?_
      clear hF
      rintro e w1 ⟨rfl, hb2⟩
      have hB1 := hb1.trans (hb2.mono hb1.size)
      have p1 := (hb2.block w.heap.size hlp).trans p0
      have x2 := cellB p1 2 (.slice va l.length vc) rfl
      clear hb2 p0 hb1 hlp
      go_wp2
      go_loopw [37] (fun i wr => ∃ (k : Nat), i = .int .i64 k ∧ k ≤ l.length ∧ Hid (∀ t ∈ l.take k, t.1 < n) ∧ wr.heap[w.heap.size]? = some (.cells #[.string (bs x), .int .i64 g, .slice va l.length vc] 36) ∧ Below w.heap.size w wr)
        (fun i _ => l.length - (intOf i).toNat)
      case atStart => exact ⟨0, rfl, Nat.zero_le _, (fun t ht => by simp at ht), p1, hB1⟩
      case round =>
        obtain ⟨k, rfl, hk, hlow, p2, hB2⟩ := hrel
        clear p1 hB1 x2
        have y0 := cellB p2 0 (.string (bs x)) rfl
        have y1 := cellB p2 1 (.int .i64 g) rfl
        have y2 := cellB p2 2 (.slice va l.length vc) rfl
        have hl2 : w.heap.size < wr.heap.size := (Array.getElem?_eq_some_iff.1 p2).1
        by_cases hk1 : k = l.length
        · subst hk1
          have hno := last_low n1 (by have h := hlow.out; rw [List.take_length] at h; exact h)
          have HR2 : Hid ((if ckL (some seed) g x (l.drop 0) ≠ 0 then ckL (some seed) g x (l.drop 0) else if (l.length : Int) < need then 40 else 0) = R) := by have h := HR.out; rw [if_neg hno] at h; rw [List.drop_zero]; exact h
          clear hno HR hlow
          go_wp2
          go_loopw [49] (fun i wr2 => ∃ (k : Nat), i = .int .i64 k ∧ k ≤ l.length ∧ Hid ((if ckL (some seed) g x (l.drop k) ≠ 0 then ckL (some seed) g x (l.drop k) else if (l.length : Int) < need then 40 else 0) = R) ∧ wr2.heap[w.heap.size]? = some (.cells #[.string (bs x), .int .i64 g, .slice va l.length vc] 36) ∧ Below w.heap.size w wr2)
            (fun i _ => l.length - (intOf i).toNat)
          case atStart => exact ⟨0, rfl, Nat.zero_le _, HR2, p2, hB2⟩
          case round =>
            obtain ⟨k, rfl, hk, HR3, p3, hB3⟩ := hrel
            clear p2 hB2 y0 y1 y2 HR2 hl2
            have z0 := cellB p3 0 (.string (bs x)) rfl
            have z1 := cellB p3 1 (.int .i64 g) rfl
            have z2 := cellB p3 2 (.slice va l.length vc) rfl
            have hl3 : w.heap.size < wr.heap.size := (Array.getElem?_eq_some_iff.1 p3).1
            by_cases hk1 : k = l.length
            · subst hk1
              have HR4 : Hid ((if (l.length : Int) < need then 40 else 0) = R) := by have h := HR3.out; rw [List.drop_length, ckL, if_neg (fun h => h rfl)] at h; exact h
              clear HR3
              by_cases hn : (l.length : Int) < need
              · have HZ : Hid (R = 40) := by show R = 40; rw [← HR4.out, if_pos hn]
                clear HR4
                go_wp2
                go_ret
                rw [HZ.out]
                exact ⟨rfl, hB3⟩
              · have HZ : Hid (R = 0) := by show R = 0; rw [← HR4.out, if_neg hn]
                clear HR4
                go_wp2
                go_ret
                rw [HZ.out]
                exact ⟨rfl, hB3⟩
            · have hk2 : k < l.length := by omega
              obtain ⟨t, ht⟩ : ∃ t, l[k]? = some t := ⟨_, List.getElem?_eq_getElem hk2⟩
              have hd : l.drop k = t :: l.drop (k + 1) := by
                rw [List.drop_eq_getElem_cons hk2]; congr 1; rw [List.getElem?_eq_getElem hk2] at ht; injection ht
              have hmt := HM.out.1 t (List.mem_of_getElem? ht)
              rcases hv.below hB3 (Nat.le_refl _) with ⟨rfl, _⟩ | ⟨vb, vo, vcap, hve, hvl, hvc⟩
              · cases ht
              injection hve with hva _ hvcap
              subst hva hvcap
              obtain ⟨hc1, hc2⟩ := hvc k t ht
              obtain ⟨no, s⟩ := t
              have hp : isP g no := ⟨by omega, by omega, hmt.1, by have := hmt.2.1; simp only at this; omega⟩
              have hC30 := check_30 seed g no x s hp
              have hC := fun W => rCheck_any seed g no x s W hs hx
              obtain ⟨C, hC2⟩ : ∃ C, checkE (some seed) g no x s = C := ⟨_, rfl⟩
              have h := HR3.out
              rw [hd, ckL, hC2] at h
              rw [hC2] at hC30 hC
              have HR5 : Hid ((if (if C = 0 then ckL (some seed) g x (l.drop (k + 1)) else C) ≠ 0 then (if C = 0 then ckL (some seed) g x (l.drop (k + 1)) else C) else if (l.length : Int) < need then 40 else 0) = R) := h
              clear HR3 h hd ht hvc hC2 hp hmt
              have hba : Below wr.heap.size wr (wr.alloc (.cells #[.int .i64 no, .string (bs s)] 63)) := (Below.refl _ _).alloc (Nat.le_refl _) _
              have hBa := hB3.trans (hba.mono hB3.size)
              have pa := (hba.block w.heap.size hl3).trans p3
              have hla := Nat.lt_of_lt_of_le hl3 hba.size
              rcases hC30 with rfl | rfl
              · have HR6 : Hid ((if ckL (some seed) g x (l.drop (k + 1)) ≠ 0 then ckL (some seed) g x (l.drop (k + 1)) else if (l.length : Int) < need then 40 else 0) = R) := by have h := HR5.out; rw [if_pos rfl] at h; exact h
                clear HR5
                go_wp2_with (go_at_call 26; refine (hC _).mono ?_; rintro e w4 ⟨rfl, hb4⟩; have hB4 := hBa.trans (hb4.mono hBa.size); have p4 := (hb4.block w.heap.size hla).trans pa)
                go_roundw
                case rel => exact ⟨k + 1, by go_num, hk2, HR6, p4, hB4⟩
                case measure => simp [intOf]; omega
              · have HZ : Hid (R = 30) := by show R = 30; rw [← HR5.out]; rfl
                clear HR5
                go_wp2_with (go_at_call 26; refine (hC _).mono ?_; rintro e w4 ⟨rfl, hb4⟩; have hB4 := hBa.trans (hb4.mono hBa.size))
                go_ret
                rw [HZ.out]
                exact ⟨rfl, hB4⟩
        · have hk2 : k < l.length := by omega
          obtain ⟨t, ht⟩ : ∃ t, l[k]? = some t := ⟨_, List.getElem?_eq_getElem hk2⟩
          have htk : l.take (k + 1) = l.take k ++ [t] := by
            rw [List.take_succ_eq_append_getElem hk2]; congr 2; rw [List.getElem?_eq_getElem hk2] at ht; injection ht
          have htop := last_top HM.out.2 (List.mem_of_getElem? ht)
          rcases hv.below hB2 (Nat.le_refl _) with ⟨rfl, _⟩ | ⟨vb, vo, vcap, hve, hvl, hvc⟩
          · cases ht
          injection hve with hva _ hvcap
          subst hva hvcap
          obtain ⟨hc1, hc2⟩ := hvc k t ht
          obtain ⟨no, s⟩ := t
          simp only at htop
          have hba : Below wr.heap.size wr (wr.alloc (.cells #[.int .i64 no, .string (bs s)] 63)) := (Below.refl _ _).alloc (Nat.le_refl _) _
          have hBa := hB2.trans (hba.mono hB2.size)
          have pa := (hba.block w.heap.size hl2).trans p2
          by_cases hno : n ≤ no
          · have HZ : Hid (R = 41) := by show R = 41; rw [← HR.out, if_pos (by omega)]
            clear HR htop htk ht hvc
            go_wp2
            go_ret
            rw [HZ.out]
            exact ⟨rfl, hBa⟩
          · have HL : Hid (∀ t ∈ l.take (k + 1), t.1 < n) := by
              show ∀ t ∈ l.take (k + 1), t.1 < n
              intro t h
              rw [htk] at h
              rcases List.mem_append.1 h with h | h
              · exact hlow.out t h
              · rw [List.mem_singleton.1 h]; exact Int.not_le.1 hno
            clear hlow htop htk ht hvc
            go_wp2
            go_roundw
            case rel => exact ⟨k + 1, by go_num, hk2, HL, pa, hBa⟩
            case measure => simp [intOf]; omega
    · rw [if_pos hf0]
      have hq : (faultL g l != 0) = true := by simpa using hf0
      obtain ⟨F, hF2⟩ : ∃ F, faultL g l = F := ⟨_, rfl⟩
      rw [hF2] at hF hq ⊢
      clear hF2 hf0
      go_enter Tryd.func15, Tryd.ntmps15
      go_wp2_with fail
      refine hF.mono ?_
      clear hF
      rintro e w1 ⟨rfl, hb2⟩
      go_wp2
      go_ret
      exact ⟨rfl, hb1.trans (hb2.mono hb1.size)⟩
end Go.Proofs.YtoniohmceaflnabDoor
/- The law CertChecks, walked. -/
namespace Go.Proofs.YtoniohmceaflnabDoor
open Go.RowKit
attribute [local go_sem ↓] Go.wp_at_zero Go.wp_at_succ

set_option maxRecDepth 20000 in
set_option maxHeartbeats 4000000 in
theorem checks_any (x : List UInt8) (g : Int) (l : List Tg) (v : Value) (n need : Int) (w : World) (he : EnvP w) (hb : EnvB w) (hv : Tl w v l) :
    Calls Tryd.prog 4 #[.agg #[.string (bs x), .int .i64 g, v], .int .i64 n, .int .i64 need] w fun e W' => e = .returned (.bool true) ∧ Below w.heap.size w W' := by
  obtain ⟨va, vc, rfl⟩ := hv.slice
  have hb1 : Below w.heap.size w (w.alloc (.cells #[.string (bs x), .int .i64 g, .slice va l.length vc] 24)) := (Below.refl _ w).alloc (Nat.le_refl _) _
  have p0 : (w.alloc (.cells #[.string (bs x), .int .i64 g, .slice va l.length vc] 24)).heap[w.heap.size]? = some (.cells #[.string (bs x), .int .i64 g, .slice va l.length vc] 24) := heap_alloc_new _ _
  have hlp : w.heap.size < (w.alloc (.cells #[.string (bs x), .int .i64 g, .slice va l.length vc] 24)).heap.size := by simp
  have hOne : ∀ W, Below w.heap.size w W → Calls Tryd.prog 8 #[] W fun e W' => e = .returned (.bool true) ∧ Below W.heap.size W W' := fun W hW => one4_any W (he.next hW)
  have hLg := large4_any (bs x) g va l.length vc (w.alloc (.cells #[.string (bs x), .int .i64 g, .slice va l.length vc] 24))
  by_cases hL : (decide ((40 : Int) < l.length) || decide ((20000 : Int) < (bs x).size)) = true
  · rw [hL] at hLg
    go_enter Tryd.func4, Tryd.ntmps4
    go_wp2_with fail
    refine hLg.mono ?_
    rintro e w1 ⟨rfl, hb2⟩
    have hB1 := hb1.trans (hb2.mono hb1.size)
    go_wp2_with (go_at_call 8; refine (hOne w1 hB1).mono ?_; rintro e w2 ⟨rfl, hb3⟩)
    go_ret
    exact ⟨rfl, hB1.trans (hb3.mono hB1.size)⟩
  have hL2 : (decide ((40 : Int) < l.length) || decide ((20000 : Int) < (bs x).size)) = false := by simpa using hL
  have hl40 : l.length ≤ 40 ∧ x.length ≤ 20000 := by
    have := hL2
    simp only [Bool.or_eq_false_iff, decide_eq_false_iff_not] at this
    rw [bs_size] at this
    omega
  rw [hL2] at hLg
  clear hL hL2
  obtain ⟨C, hC⟩ : ∃ C, certE (some [115]) x g l n need = C := ⟨_, rfl⟩
  go_enter Tryd.func4, Tryd.ntmps4
  go_wp2_with fail
  refine hLg.mono ?_
  clear hLg
  rintro e w1 ⟨rfl, hb2⟩
  have hB1 := hb1.trans (hb2.mono hb1.size)
  have p1 := (hb2.block w.heap.size hlp).trans p0
  have hl1 : w.heap.size < w1.heap.size := (Array.getElem?_eq_some_iff.1 p1).1
  have hb3 : Below w1.heap.size w1 (w1.alloc (.cells #[.string (bs [115])] 65)) := (Below.refl _ _).alloc (Nat.le_refl _) _
  have hR0 : RingAt (w1.alloc (.cells #[.string (bs [115])] 65)) (some ⟨w1.heap.size, 0, none⟩) (some [115]) := .inr ⟨_, _, rfl, rfl, by decide, cellB (heap_alloc_new _ _) 0 _ rfl⟩
  have hN := New_ok [115] w1 (by decide)
  clear hb2 p0 hb1 hlp
  go_wp2_with (go_at_call 13; refine hN.mono ?_; rintro e w2 ⟨rfl, h⟩; subst h)
  obtain ⟨W2, hW2⟩ : ∃ W, w1.alloc (.cells #[.string (bs [115])] 65) = W := ⟨_, rfl⟩
  rw [hW2] at hb3 hR0 ⊢
  clear hW2 hN
  have hB2 := hB1.trans (hb3.mono hB1.size)
  have p2 := (hb3.block w.heap.size hl1).trans p1
  have hl2 : w.heap.size < W2.heap.size := (Array.getElem?_eq_some_iff.1 p2).1
  have x0 := cellB p2 0 (.string (bs x)) rfl
  have x1 := cellB p2 1 (.int .i64 g) rfl
  have x2 := cellB p2 2 (.slice va l.length vc) rfl
  obtain ⟨RB, hRB⟩ : ∃ RB, w1.heap.size = RB := ⟨_, rfl⟩
  rw [hRB] at hR0 ⊢
  have hCk : ∀ W, Below W2.heap.size W2 W → Calls Tryd.prog 14 #[.pointer (some ⟨RB, 0, none⟩), .agg #[.string (bs x), .int .i64 g, .slice va l.length vc], .int .i64 n, .int .i64 need] W fun e W' => e = .returned (.int .i64 C) ∧ Below W.heap.size W W' := by
    intro W hW
    have hB := hB2.trans (hW.mono hB2.size)
    have h := certCheck_any x g l _ n need (some ⟨RB, 0, none⟩) (some [115]) W (he.next hB) (hb.next hB) (hR0.below hW (Nat.le_refl _)) (fun _ => by omega) (by omega) (hv.below hB (Nat.le_refl _))
    rw [hC] at h
    exact h
  have hRf : ∀ W, Below w.heap.size w W → Calls Tryd.prog 11 #[.agg #[.string (bs x), .int .i64 g, .slice va l.length vc]] W fun e W' => (∃ ra rc, e = .returned (.agg #[.string (bs x), .int .i64 g, .slice ra l.length rc]) ∧ Tp W' (.slice ra l.length rc) l) ∧ Below W.heap.size W W' := by
    intro W hW
    refine (ref_any (bs x) g l _ W (by omega) (hv.below hW (Nat.le_refl _))).mono ?_
    rintro e w' ⟨u, rfl, h1, h2⟩
    obtain ⟨ra, rc, rfl⟩ := h1.tl.slice
    exact ⟨⟨ra, rc, rfl, h1⟩, h2⟩
  have hrC : ∀ W ra rc, Tl W (.slice ra l.length rc) l → Calls Tryd.prog 15 #[.string (bs [115]), .agg #[.string (bs x), .int .i64 g, .slice ra l.length rc], .int .i64 n, .int .i64 need] W fun e W' => e = .returned (.int .i64 C) ∧ Below W.heap.size W W' := by
    intro W ra rc hT
    have h := rCheck4_any [115] x g l _ n need W (by decide) (by omega) (by omega) hT
    rw [hC] at h
    exact h
  clear hC hRB hR0 hb3
  go_region_held3 (fun w' => w'.cell? ⟨w.heap.size, 0, none⟩ = some (.string (bs x)) ∧ w'.cell? ⟨w.heap.size, 1, none⟩ = some (.int .i64 g) ∧ w'.cell? ⟨w.heap.size, 2, none⟩ = some (.slice va l.length vc)) (go_keep)
    (first
      | (go_at_call 14; refine (hCk W2.drew (below_drew (Below.refl _ _))).mono ?_; rintro e w3 ⟨rfl, hb4⟩; have hB3 : Below W2.heap.size W2 w3 := (below_drew (Below.refl W2.heap.size W2)).trans hb4; have hB3w := hB2.trans (hB3.mono hB2.size); have p3 := (hB3.block w.heap.size hl2).trans p2; have y0 := cellB p3 0 (.string (bs x)) rfl; have y1 := cellB p3 1 (.int .i64 g) rfl; have y2 := cellB p3 2 (.slice va l.length vc) rfl; have hl3 : w.heap.size < w3.heap.size := (Array.getElem?_eq_some_iff.1 p3).1)
      | (go_at_call 11; refine (hRf w3 hB3w).mono ?_; rintro e w4 ⟨⟨ra, rc, rfl, hT4⟩, hb5⟩; have hB4w := hB3w.trans (hb5.mono hB3w.size); have p4 := (hb5.block w.heap.size hl3).trans p3; have z0 := cellB p4 0 (.string (bs x)) rfl; have z1 := cellB p4 1 (.int .i64 g) rfl; have z2 := cellB p4 2 (.slice va l.length vc) rfl; have hl4 : w.heap.size < w4.heap.size := (Array.getElem?_eq_some_iff.1 p4).1)
      | (go_at_call 15; refine (hrC w4 ra rc hT4.tl).mono ?_; rintro e w5 ⟨rfl, hb6⟩; have hB5w := hB4w.trans (hb6.mono hB4w.size); have p5 := (hb6.block w.heap.size hl4).trans p4; have u0 := cellB p5 0 (.string (bs x)) rfl; have u1 := cellB p5 1 (.int .i64 g) rfl; have u2 := cellB p5 2 (.slice va l.length vc) rfl; have hl5 : w.heap.size < w5.heap.size := (Array.getElem?_eq_some_iff.1 p5).1)
      | (go_at_call 8; refine (hOne w5 hB5w).mono ?_; rintro e w6 ⟨rfl, hb7⟩; have hB6w := hB5w.trans (hb7.mono hB5w.size); have p6 := (hb7.block w.heap.size hl5).trans p5; have m0 := cellB p6 0 (.string (bs x)) rfl; have m1 := cellB p6 1 (.int .i64 g) rfl; have m2 := cellB p6 2 (.slice va l.length vc) rfl))
  go_wp2
  go_ret
  exact ⟨rfl, hB6w⟩
end Go.Proofs.YtoniohmceaflnabDoor
