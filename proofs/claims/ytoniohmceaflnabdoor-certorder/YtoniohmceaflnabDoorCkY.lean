import Derived.Test.YtoniohmceaflnabDoorSlE
import Derived.Test.YtoniohmceaflnabDoorCtJ
import Derived.Test.YtoniohmceaflnabDoorCtG
import Derived.Test.YtoniohmceaflnabDoorCtF
import Derived.Test.YtoniohmceaflnabDoorCtL
import Derived.Deep.RegionHeld3
import Derived.Deep.DeepCutAuto
import Derived.Test.YtoniohmceaflnabDoorCtU
import Derived.ChangeSlices
/- Whether the tags of a certificate are right: asked one by one, and what is answered. -/
namespace Go.Proofs.YtoniohmceaflnabDoor
open Go.RowKit
attribute [local go_sem ↓] Go.wp_at_zero Go.wp_at_succ

/-- The first error of tags that are asked one by one. -/
def ckL (seed : Option (List UInt8)) (g : Int) (x : List UInt8) : List Tg → Int
  | [] => 0
  | (n, t) :: r => if checkE seed g n x t = 0 then ckL seed g x r else checkE seed g n x t

set_option maxRecDepth 20000 in
set_option maxHeartbeats 2000000 in
theorem checkTags_any (x : List UInt8) (g : Int) (l : List Tg) (v : Value) (r : Option Addr) (seed : Option (List UInt8)) (w : World) (he : EnvP w) (hb : EnvB w) (hr : RingAt w r seed) (ht : seed ≠ none → x.length ≤ 140737488355328) (hll : l.length ≤ 140737488355328) (hv : Tl w v l) :
    Calls Tryd.prog 24 #[.pointer r, .agg #[.string (bs x), .int .i64 g, v], .func (.func 25) #[] #[]] w fun e W' => e = .returned (.int .i64 (ckL seed g x l)) ∧ Below w.heap.size w W' := by
  obtain ⟨va, vc, rfl⟩ := hv.slice
  have hb1 : Below w.heap.size w (w.alloc (.cells #[.string (bs x), .int .i64 g, .slice va l.length vc] 24)) := (Below.refl _ w).alloc (Nat.le_refl _) _
  have p0 : (w.alloc (.cells #[.string (bs x), .int .i64 g, .slice va l.length vc] 24)).heap[w.heap.size]? = some (.cells #[.string (bs x), .int .i64 g, .slice va l.length vc] 24) := heap_alloc_new _ _
  obtain ⟨R, hR⟩ : ∃ R, ckL seed g x l = R := ⟨_, rfl⟩
  rw [hR]
  have HR : Hid (ckL seed g x (l.drop 0) = R) := by show ckL seed g x (l.drop 0) = R; rw [List.drop_zero]; exact hR
  clear hR
  go_enter Tryd.func24, Tryd.ntmps24
  go_wp2
  go_loopw [14] (fun i wr => ∃ (k : Nat), i = .int .i64 k ∧ k ≤ l.length ∧ Hid (ckL seed g x (l.drop k) = R) ∧ wr.heap[w.heap.size]? = some (.cells #[.string (bs x), .int .i64 g, .slice va l.length vc] 24) ∧ Below w.heap.size w wr)
    (fun i _ => l.length - (intOf i).toNat)
  case atStart => exact ⟨0, rfl, Nat.zero_le _, HR, p0, hb1⟩
  case round =>
    obtain ⟨k, rfl, hk, hF, p1, hB1⟩ := hrel
    clear p0 hb1 HR
    have x0 := cellB p1 0 (.string (bs x)) rfl
    have x1 := cellB p1 1 (.int .i64 g) rfl
    have x2 := cellB p1 2 (.slice va l.length vc) rfl
    have hl1 : w.heap.size < wr.heap.size := (Array.getElem?_eq_some_iff.1 p1).1
    by_cases hk1 : k = l.length
    · subst hk1
      have hF2 := hF.out
      rw [List.drop_length, ckL] at hF2
      go_wp2
      go_ret
      rw [← hF2]
      exact ⟨rfl, hB1⟩
    · have hk2 : k < l.length := by omega
      obtain ⟨t, ht⟩ : ∃ t, l[k]? = some t := ⟨_, List.getElem?_eq_getElem hk2⟩
      have hd : l.drop k = t :: l.drop (k + 1) := by
        rw [List.drop_eq_getElem_cons hk2]; congr 1; rw [List.getElem?_eq_getElem hk2] at ht; injection ht
      rcases hv.below hB1 (Nat.le_refl _) with ⟨rfl, _⟩ | ⟨vb, vo, vcap, hve, hvl, hvc⟩
      · cases ht
      injection hve with hva _ hvcap
      subst hva hvcap
      obtain ⟨hc1, hc2⟩ := hvc k t ht
      obtain ⟨n, s⟩ := t
      have hF2 := hF.out
      rw [hd, ckL] at hF2
      have HF : Hid ((if checkE seed g n x s = 0 then ckL seed g x (l.drop (k + 1)) else checkE seed g n x s) = R) := hF2
      clear hF hF2 hd ht hvc
      have hba : Below wr.heap.size wr (wr.alloc (.cells #[.int .i64 n, .string (bs s)] 56)) := (Below.refl _ _).alloc (Nat.le_refl _) _
      have hbb := hba.alloc hba.size (.cells #[.int .i64 g, .int .i64 n] 26)
      have hBb := hB1.trans (hbb.mono hB1.size)
      have hC := Check_any r seed g n x s ((wr.alloc (.cells #[.int .i64 n, .string (bs s)] 56)).alloc (.cells #[.int .i64 g, .int .i64 n] 26)) (he.next hBb) (hb.next hBb) (hr.below hBb (Nat.le_refl _)) ‹_›
      have p2 := (hbb.block w.heap.size hl1).trans p1
      have hl2 := Nat.lt_of_lt_of_le hl1 hbb.size
      obtain ⟨C, hC2⟩ : ∃ C, checkE seed g n x s = C := ⟨_, rfl⟩
      rw [hC2] at hC HF
      clear hC2
      by_cases h0 : C = 0
      · subst h0
        have HF2 : Hid (ckL seed g x (l.drop (k + 1)) = R) := by have h := HF.out; rw [if_pos rfl] at h; exact h
        clear HF
        go_wp2_with (go_at_call 25; refine hC.mono ?_; rintro e w3 ⟨rfl, hb3⟩; have hB3 := hBb.trans (hb3.mono hBb.size); have p3 := (hb3.block w.heap.size hl2).trans p2)
        go_roundw
        case rel => exact ⟨k + 1, by go_num, hk2, HF2, p3, hB3⟩
        case measure => simp [intOf]; omega
      · have HF2 : Hid (C = R) := by have h := HF.out; rw [if_neg h0] at h; exact h
        have hq : (C != 0) = true := by simpa using h0
        clear HF h0
        go_wp2_with (go_at_call 25; refine hC.mono ?_; rintro e w3 ⟨rfl, hb3⟩; have hB3 := hBb.trans (hb3.mono hBb.size))
        go_ret
        rw [HF2.out]
        exact ⟨rfl, hB3⟩
end Go.Proofs.YtoniohmceaflnabDoor
/- What a certificate's Check answers. -/
namespace Go.Proofs.YtoniohmceaflnabDoor
open Go.RowKit
attribute [local go_sem ↓] Go.wp_at_zero Go.wp_at_succ

/-- The last one's number. -/
def lastNo (l : List Tg) : Int := (l.getD (l.length - 1) (-1, [])).1
theorem last_nil : lastNo [] = -1 := rfl
theorem last_at {l : List Tg} {m : Nat} (h : l.length = m + 1) : ∃ t, l[m]? = some t ∧ lastNo l = t.1 := by
  have hm : m < l.length := by omega
  refine ⟨l[m], List.getElem?_eq_getElem hm, ?_⟩
  rw [lastNo, List.getD_eq_getElem?_getD, h, Nat.add_sub_cancel, List.getElem?_eq_getElem hm]; rfl
def badN (n need : Int) : Bool := decide (n < 1) || decide (16 < n) || decide (need < 1) || decide (n < need)
/-- What a certificate's Check answers. -/
def certE (seed : Option (List UInt8)) (x : List UInt8) (g : Int) (l : List Tg) (n need : Int) : Int :=
  if badN n need = true then 1 else if faultL g l ≠ 0 then faultL g l else if n ≤ lastNo l then 41 else if ckL seed g x l ≠ 0 then ckL seed g x l else if (l.length : Int) < need then 40 else 0

set_option maxRecDepth 20000 in
set_option maxHeartbeats 4000000 in
theorem certCheck_any (x : List UInt8) (g : Int) (l : List Tg) (v : Value) (n need : Int) (r : Option Addr) (seed : Option (List UInt8)) (w : World) (he : EnvP w) (hb : EnvB w) (hr : RingAt w r seed) (ht : seed ≠ none → x.length ≤ 140737488355328) (hll : l.length ≤ 140737488355328) (hv : Tl w v l) :
    Calls Tryd.prog 14 #[.pointer r, .agg #[.string (bs x), .int .i64 g, v], .int .i64 n, .int .i64 need] w fun e W' => e = .returned (.int .i64 (certE seed x g l n need)) ∧ Below w.heap.size w W' := by
  obtain ⟨va, vc, rfl⟩ := hv.slice
  have hb1 : Below w.heap.size w (w.alloc (.cells #[.string (bs x), .int .i64 g, .slice va l.length vc] 24)) := (Below.refl _ w).alloc (Nat.le_refl _) _
  by_cases hbad : badN n need = true
  · rw [certE, if_pos hbad]
    have hcase : n < 1 ∨ 1 ≤ n ∧ (16 < n ∨ n ≤ 16 ∧ (need < 1 ∨ 1 ≤ need ∧ n < need)) := by
      simp only [badN, Bool.or_eq_true, decide_eq_true_eq] at hbad
      omega
    clear hbad
    go_enter Tryd.func14, Tryd.ntmps14
    rcases hcase with h1 | ⟨h1, h2 | ⟨h2, h3 | ⟨h3, h4⟩⟩⟩
    all_goals
      go_wp2
      go_ret
      exact ⟨rfl, hb1⟩
  · have hok : 1 ≤ n ∧ n ≤ 16 ∧ 1 ≤ need ∧ need ≤ n := by
      simp only [badN, Bool.or_eq_true, decide_eq_true_eq] at hbad
      omega
    rw [certE, if_neg hbad]
    clear hbad
    obtain ⟨n1, n2, n3, n4⟩ := hok
    have p0 : (w.alloc (.cells #[.string (bs x), .int .i64 g, .slice va l.length vc] 24)).heap[w.heap.size]? = some (.cells #[.string (bs x), .int .i64 g, .slice va l.length vc] 24) := heap_alloc_new _ _
    have hlp : w.heap.size < (w.alloc (.cells #[.string (bs x), .int .i64 g, .slice va l.length vc] 24)).heap.size := by simp
    have hF := fault_any (bs x) g l (.slice va l.length vc) (w.alloc (.cells #[.string (bs x), .int .i64 g, .slice va l.length vc] 24)) hll (hv.below hb1 (Nat.le_refl _))
    by_cases hf0 : faultL g l = 0
    · rw [if_neg (fun h => h hf0)]
      rw [hf0] at hF
      clear hf0
      have hcase : (l = [] ∧ ¬ n ≤ lastNo l) ∨ ∃ m t, l.length = m + 1 ∧ l[m]? = some t ∧ lastNo l = t.1 := by
        rcases Nat.eq_zero_or_pos l.length with h | h
        · have := List.length_eq_zero_iff.1 h
          subst this
          exact .inl ⟨rfl, by rw [last_nil]; omega⟩
        · obtain ⟨m, hm⟩ : ∃ m, l.length = m + 1 := ⟨l.length - 1, by omega⟩
          obtain ⟨t, h1, h2⟩ := last_at hm
          exact .inr ⟨m, t, hm, h1, h2⟩
      have hCk : ∀ W, Below w.heap.size w W → Calls Tryd.prog 24 #[.pointer r, .agg #[.string (bs x), .int .i64 g, .slice va l.length vc], .func (.func 25) #[] #[]] W fun e W' => e = .returned (.int .i64 (ckL seed g x l)) ∧ Below W.heap.size W W' :=
        fun W hW => checkTags_any x g l _ r seed W (he.next hW) (hb.next hW) (hr.below hW (Nat.le_refl _)) ht hll (hv.below hW (Nat.le_refl _))
      obtain ⟨C, hC⟩ : ∃ C, ckL seed g x l = C := ⟨_, rfl⟩
      rw [hC]
      rw [hC] at hCk
      clear hC
      obtain ⟨R, hR⟩ : ∃ R : Int, (if n ≤ lastNo l then 41 else if C ≠ 0 then C else if (l.length : Int) < need then 40 else 0) = R := ⟨_, rfl⟩
      rw [hR]
      have HR : Hid ((if n ≤ lastNo l then 41 else if C ≠ 0 then C else if (l.length : Int) < need then 40 else 0) = R) := hR
      have Hcase : Hid ((l = [] ∧ ¬ n ≤ lastNo l) ∨ ∃ m t, l.length = m + 1 ∧ l[m]? = some t ∧ lastNo l = t.1) := hcase
      clear hR hcase
      go_enter Tryd.func14, Tryd.ntmps14
      go_wp2_with fail
      refine hF.mono ?_
      clear hF
      rintro e w1 ⟨rfl, hb2⟩
      have hB1 := hb1.trans (hb2.mono hb1.size)
      have p1 := (hb2.block w.heap.size hlp).trans p0
      have hl1 : w.heap.size < w1.heap.size := (Array.getElem?_eq_some_iff.1 p1).1
      have x0 := cellB p1 0 (.string (bs x)) rfl
      have x1 := cellB p1 1 (.int .i64 g) rfl
      have x2 := cellB p1 2 (.slice va l.length vc) rfl
      have hCw := hCk w1 hB1
      have hv1 := hv.below hB1 (Nat.le_refl _)
      clear hb2 p0 hb1 hCk hlp
      rcases Hcase.out with ⟨rfl, hno⟩ | ⟨m, t, hm, htm, hlast⟩
      · have HR2 : Hid ((if C ≠ 0 then C else if ((([] : List Tg).length : Int)) < need then 40 else 0) = R) := by have h := HR.out; rw [if_neg (by omega)] at h; exact h
        clear hno hv1 HR Hcase
        simp only [List.length_nil] at x2 hCw p1
        go_wp2_with fail
        refine hCw.mono ?_
        clear hCw
        rintro e w2 ⟨rfl, hb3⟩
        have hB2 := hB1.trans (hb3.mono hB1.size)
        have p2 := (hb3.block w.heap.size hl1).trans p1
        have y0 := cellB p2 0 (.string (bs x)) rfl
        have y1 := cellB p2 1 (.int .i64 g) rfl
        have y2 := cellB p2 2 (.slice va 0 vc) rfl
        have hCt := Count_any (bs x) g va 0 vc w2
        by_cases hc0 : C = 0
        · subst hc0
          have HZ : Hid (R = 40) := by show R = 40; rw [← HR2.out, if_neg (fun h => h rfl), if_pos (show ((([] : List Tg).length : Int) < need) by simp; omega)]
          clear HR2
          go_wp2_with (go_at_call 19; refine hCt.mono ?_; rintro e w3 ⟨rfl, hb4⟩)
          go_ret
          rw [HZ.out]
          exact ⟨rfl, hB2.trans (hb4.mono hB2.size)⟩
        · have HZ : Hid (R = C) := by show R = C; rw [← HR2.out, if_pos hc0]
          have hq : (C != 0) = true := by simpa using hc0
          clear HR2 hc0
          go_wp2
          go_ret
          rw [HZ.out]
          exact ⟨rfl, hB2⟩
      · have HR1 : Hid ((if n ≤ t.1 then 41 else if C ≠ 0 then C else if ((m + 1 : Nat) : Int) < need then 40 else 0) = R) := by have h := HR.out; rw [hlast, hm] at h; exact h
        clear HR Hcase
        obtain ⟨z, zs⟩ := t
        obtain ⟨vb, vo, rfl, hvl⟩ := hv1.some (by omega)
        have hcl := (hv1.cells htm).1
        simp only at hcl
        obtain ⟨L, hL⟩ : ∃ L, l.length = L := ⟨_, rfl⟩
        rw [hL] at x2 hCw p1 hm hll ⊢
        subst hm
        simp only at HR1
        clear hv1 htm hlast hv hL
        by_cases hz : n ≤ z
        · have HZ : Hid (R = 41) := by show R = 41; rw [← HR1.out, if_pos hz]
          clear HR1
          go_wp2
          go_ret
          rw [HZ.out]
          exact ⟨rfl, hB1⟩
        · have HR2 : Hid ((if C ≠ 0 then C else if ((m + 1 : Nat) : Int) < need then 40 else 0) = R) := by have h := HR1.out; rw [if_neg hz] at h; exact h
          clear HR1
          go_wp2_with fail
          refine hCw.mono ?_
          clear hCw
          rintro e w2 ⟨rfl, hb3⟩
          have hB2 := hB1.trans (hb3.mono hB1.size)
          have p2 := (hb3.block w.heap.size hl1).trans p1
          have y0 := cellB p2 0 (.string (bs x)) rfl
          have y1 := cellB p2 1 (.int .i64 g) rfl
          have y2 := cellB p2 2 (.slice (some ⟨vb, vo, none⟩) (m + 1) vc) rfl
          have hCt := Count_any (bs x) g (some ⟨vb, vo, none⟩) (m + 1) vc w2
          by_cases hc0 : C = 0
          · subst hc0
            by_cases hn : ((m + 1 : Nat) : Int) < need
            · have HZ : Hid (R = 40) := by show R = 40; rw [← HR2.out, if_neg (fun h => h rfl), if_pos hn]
              clear HR2
              go_wp2_with (go_at_call 19; refine hCt.mono ?_; rintro e w3 ⟨rfl, hb4⟩)
              go_ret
              rw [HZ.out]
              exact ⟨rfl, hB2.trans (hb4.mono hB2.size)⟩
            · have HZ : Hid (R = 0) := by show R = 0; rw [← HR2.out, if_neg (fun h => h rfl), if_neg hn]
              clear HR2
              go_wp2_with (go_at_call 19; refine hCt.mono ?_; rintro e w3 ⟨rfl, hb4⟩)
              go_ret
              rw [HZ.out]
              exact ⟨rfl, hB2.trans (hb4.mono hB2.size)⟩
          · have HZ : Hid (R = C) := by show R = C; rw [← HR2.out, if_pos hc0]
            have hq : (C != 0) = true := by simpa using hc0
            clear HR2 hc0
            go_wp2
            go_ret
            rw [HZ.out]
            exact ⟨rfl, hB2⟩
    · rw [if_pos hf0]
      have hq : (faultL g l != 0) = true := by simpa using hf0
      obtain ⟨F, hF2⟩ : ∃ F, faultL g l = F := ⟨_, rfl⟩
      rw [hF2] at hF hq ⊢
      clear hF2 hf0
      go_enter Tryd.func14, Tryd.ntmps14
      go_wp2_with fail
      refine hF.mono ?_
      clear hF
      rintro e w1 ⟨rfl, hb2⟩
      go_wp2
      go_ret
      exact ⟨rfl, hb1.trans (hb2.mono hb1.size)⟩
end Go.Proofs.YtoniohmceaflnabDoor
/- What is gathered of tags, whatever the order: plain. -/
namespace Go.Proofs.YtoniohmceaflnabDoor
open Go.RowKit

theorem ins_cons (n : Int) (t : List UInt8) (a : Tg) (l : List Tg) : insT n t (a :: l) = if a.1 < n then a :: insT n t l else (n, t) :: a :: l := by
  unfold insT
  by_cases h : a.1 < n
  · rw [if_pos h, List.takeWhile_cons_of_pos (by simpa using h), List.dropWhile_cons_of_pos (by simpa using h)]; rfl
  · rw [if_neg h, List.takeWhile_cons_of_neg (by simpa using h), List.dropWhile_cons_of_neg (by simpa using h)]; rfl
theorem ins_mem {n : Int} {t : List UInt8} {l : List Tg} {x : Tg} : x ∈ insT n t l ↔ x = (n, t) ∨ x ∈ l := by
  have h := List.takeWhile_append_dropWhile (p := fun a : Tg => decide (a.1 < n)) (l := l)
  conv => rhs; rw [← h]
  unfold insT
  simp only [List.mem_append, List.mem_cons]
  constructor
  · rintro (h | h | h)
    · exact .inr (.inl h)
    · exact .inl h
    · exact .inr (.inr h)
  · rintro (h | h | h)
    · exact .inr (.inl h)
    · exact .inl h
    · exact .inr (.inr h)
theorem ins_sorted {n : Int} {t : List UInt8} : ∀ {l : List Tg}, l.Pairwise (fun a b => a.1 < b.1) → n ∉ l.map (·.1) → (insT n t l).Pairwise (fun a b => a.1 < b.1)
  | [], _, _ => List.pairwise_singleton _ _
  | a :: l, h, hn => by
    rw [ins_cons]
    obtain ⟨h1, h2⟩ := List.pairwise_cons.1 h
    simp only [List.map_cons, List.mem_cons, not_or] at hn
    split
    · rename_i hlt
      refine List.pairwise_cons.2 ⟨fun b hb => ?_, ins_sorted h2 hn.2⟩
      rcases ins_mem.1 hb with rfl | hb
      · exact hlt
      · exact h1 b hb
    · rename_i hge
      refine List.pairwise_cons.2 ⟨fun b hb => ?_, h⟩
      have hna : n < a.1 := by have := hn.1; omega
      rcases List.mem_cons.1 hb with rfl | hb
      · exact hna
      · have := h1 b hb; show n < b.1; omega
theorem sorted_ext : ∀ {l l' : List Tg}, l.Pairwise (fun a b => a.1 < b.1) → l'.Pairwise (fun a b => a.1 < b.1) → (∀ t, t ∈ l ↔ t ∈ l') → l = l'
  | [], [], _, _, _ => rfl
  | [], b :: l', _, _, hm => by have := (hm b).2 (by simp); cases this
  | a :: l, [], _, _, hm => by have := (hm a).1 (by simp); cases this
  | a :: l, b :: l', h, h', hm => by
    obtain ⟨h1, h2⟩ := List.pairwise_cons.1 h
    obtain ⟨h3, h4⟩ := List.pairwise_cons.1 h'
    have hab : a = b := by
      rcases List.mem_cons.1 ((hm a).1 (by simp)) with e | e
      · exact e
      · rcases List.mem_cons.1 ((hm b).2 (by simp)) with e2 | e2
        · exact e2.symm
        · have := h3 a e; have := h1 b e2; omega
    subst hab
    congr 1
    refine sorted_ext h2 h4 fun t => ⟨fun ht => ?_, fun ht => ?_⟩
    · rcases List.mem_cons.1 ((hm t).1 (by simp [ht])) with e | e
      · subst e; have := h1 t ht; omega
      · exact e
    · rcases List.mem_cons.1 ((hm t).2 (by simp [ht])) with e | e
      · subst e; have := h3 t ht; omega
      · exact e

/-- A list of tags that has just those of the numbers of S that are a replica's. -/
structure Gath (tg : Int → List UInt8) (S : List Int) (l : List Tg) : Prop where
  sorted : l.Pairwise (fun a b => a.1 < b.1)
  good : ∀ t ∈ l, 0 ≤ t.1 ∧ t.1 ≤ 15 ∧ t.2 = tg t.1
  mem : ∀ n, n ∈ l.map (·.1) ↔ (0 ≤ n ∧ n ≤ 15) ∧ n ∈ S
theorem Gath.nil (tg : Int → List UInt8) : Gath tg [] [] := ⟨List.Pairwise.nil, fun t h => (by cases h), fun n => by simp⟩
theorem Gath.skip {tg : Int → List UInt8} {S S' : List Int} {l : List Tg} {n : Int} (h : Gath tg S l) (hS : ∀ m, m ∈ S' ↔ m ∈ S ∨ m = n) (hn : ¬ (0 ≤ n ∧ n ≤ 15) ∨ n ∈ l.map (·.1)) : Gath tg S' l := by
  refine ⟨h.sorted, h.good, fun m => ?_⟩
  rw [h.mem, hS]
  constructor
  · rintro ⟨h1, h2⟩; exact ⟨h1, .inl h2⟩
  · rintro ⟨h1, h2 | rfl⟩
    · exact ⟨h1, h2⟩
    · rcases hn with hn | hn
      · exact absurd h1 hn
      · exact (h.mem m).1 hn
theorem Gath.put {tg : Int → List UInt8} {S S' : List Int} {l : List Tg} {n : Int} (h : Gath tg S l) (hS : ∀ m, m ∈ S' ↔ m ∈ S ∨ m = n) (h0 : 0 ≤ n ∧ n ≤ 15) (hn : n ∉ l.map (·.1)) : Gath tg S' (insT n (tg n) l) := by
  refine ⟨ins_sorted h.sorted hn, fun t ht => ?_, fun m => ?_⟩
  · rcases ins_mem.1 ht with rfl | ht
    · exact ⟨h0.1, h0.2, rfl⟩
    · exact h.good t ht
  · have hm : m ∈ (insT n (tg n) l).map (·.1) ↔ m = n ∨ m ∈ l.map (·.1) := by
      simp only [List.mem_map]
      constructor
      · rintro ⟨t, ht, rfl⟩
        rcases ins_mem.1 ht with rfl | ht
        · exact .inl rfl
        · exact .inr ⟨t, ht, rfl⟩
      · rintro (rfl | ⟨t, ht, rfl⟩)
        · exact ⟨_, ins_mem.2 (.inl rfl), rfl⟩
        · exact ⟨t, ins_mem.2 (.inr ht), rfl⟩
    rw [hm, h.mem, hS]
    constructor
    · rintro (rfl | ⟨h1, h2⟩)
      · exact ⟨h0, .inr rfl⟩
      · exact ⟨h1, .inl h2⟩
    · rintro ⟨h1, h2 | rfl⟩
      · exact .inr ⟨h1, h2⟩
      · exact .inl rfl
theorem Gath.eq {tg : Int → List UInt8} {S S' : List Int} {l l' : List Tg} (h : Gath tg S l) (h' : Gath tg S' l') (hS : ∀ m, m ∈ S ↔ m ∈ S') : l = l' := by
  have one : ∀ {S S' : List Int} {l l' : List Tg}, Gath tg S l → Gath tg S' l' → (∀ m, m ∈ S ↔ m ∈ S') → ∀ t, t ∈ l → t ∈ l' := by
    intro S S' l l' h h' hS t ht
    have h1 : t.1 ∈ l'.map (·.1) := (h'.mem t.1).2 (by have := (h.mem t.1).1 (List.mem_map.2 ⟨t, ht, rfl⟩); exact ⟨this.1, (hS _).1 this.2⟩)
    obtain ⟨u, hu, e⟩ := List.mem_map.1 h1
    have e2 : u = t := by
      have g1 := (h.good t ht).2.2
      have g2 := (h'.good u hu).2.2
      obtain ⟨a, b⟩ := u
      obtain ⟨c, d⟩ := t
      simp only at e g1 g2
      subst e
      rw [g1, g2]
    exact e2 ▸ hu
  exact sorted_ext h.sorted h'.sorted fun t => ⟨one h h' hS t, one h' h (fun m => (hS m).symm) t⟩
theorem tags_ok : ∀ {l : List Tg} {z : Int}, l.Pairwise (fun a b => a.1 < b.1) → (∀ t ∈ l, z < t.1 ∧ 0 ≤ t.1 ∧ t.1 ≤ 15 ∧ t.2.length = 16) → tagsF z l = 0
  | [], _, _, _ => rfl
  | (n, s) :: l, z, h, hg => by
    obtain ⟨h1, h2⟩ := List.pairwise_cons.1 h
    have h0 := hg (n, s) (by simp)
    simp only at h0
    rw [tagsF, if_neg (by omega), if_neg (by omega), if_neg (by omega)]
    exact tags_ok h2 (fun t ht => ⟨h1 t ht, (hg t (by simp [ht])).2⟩)
theorem Gath.fault {tg : Int → List UInt8} {S : List Int} {l : List Tg} (h : Gath tg S l) (ht : ∀ n, (tg n).length = 16) : faultL 1 l = 0 := by
  rw [faultL, if_neg (by decide)]
  exact tags_ok h.sorted (fun t h1 => by have := h.good t h1; exact ⟨by omega, this.1, this.2.1, by rw [this.2.2]; exact ht _⟩)
theorem Gath.len {tg : Int → List UInt8} {S : List Int} {l : List Tg} (h : Gath tg S l) (ht : ∀ n, (tg n).length = 16) : l.length ≤ 16 := (fault_zero (h.fault ht)).2.2.1
/-- What is gathered so is right. -/
theorem Gath.check {text : List UInt8} {S : List Int} {l : List Tg} (h : Gath (fun n => tagS [115] 1 n text) S l) : ckL (some [115]) 1 text l = 0 := by
  have hg := h.good
  clear h
  induction l with
  | nil => rfl
  | cons t r ih =>
    obtain ⟨n, s⟩ := t
    have h0 := hg (n, s) (by simp)
    simp only at h0
    have hp : isP 1 n := ⟨by omega, by omega, h0.1, h0.2.1⟩
    have e1 : tagErr (some [115]) 1 n = 0 := by simp [tagErr, hp]
    have e2 : checkE (some [115]) 1 n text s = 0 := by rw [checkE, if_neg (fun c => c e1), sigV, if_pos e1, Option.getD_some, if_pos h0.2.2]
    rw [ckL, if_pos e2]
    exact ih (fun t ht => hg t (by simp [ht]))
theorem Gath.certE {text : List UInt8} {S : List Int} {l : List Tg} (h : Gath (fun n => tagS [115] 1 n text) S l) (need : Int) :
    certE (some [115]) text 1 l 16 need = if need < 1 ∨ 16 < need then 1 else if (l.length : Int) < need then 40 else 0 := by
  have hf := h.fault (fun n => tagS_len _ _ _ _)
  have hb : badN 16 need = decide (need < 1 ∨ 16 < need) := by
    unfold badN
    by_cases h1 : need < 1 <;> by_cases h2 : 16 < need <;> simp [h1, h2]
  have hl : ¬ (16 : Int) ≤ lastNo l := by
    rcases Nat.eq_zero_or_pos l.length with h0 | h0
    · rw [List.length_eq_zero_iff.1 h0, last_nil]; decide
    · obtain ⟨m, hm⟩ : ∃ m, l.length = m + 1 := ⟨l.length - 1, by omega⟩
      obtain ⟨u, h1, h2⟩ := last_at hm
      rw [h2]
      have := (h.good u (List.mem_of_getElem? h1)).2.1
      omega
  unfold YtoniohmceaflnabDoor.certE
  by_cases hn : need < 1 ∨ 16 < need
  · rw [if_pos (by rw [hb]; exact decide_eq_true hn), if_pos hn]
  · rw [if_neg (by rw [hb]; simpa using hn), if_neg hn, hf, h.check, if_neg (fun c => c rfl), if_neg hl, if_neg (fun c => c rfl)]
/-- What Add answers to a replica's tag of the text. -/
theorem Gath.add {text : List UInt8} {S : List Int} {l : List Tg} (h : Gath (fun n => tagS [115] 1 n text) S l) {n : Int} (hn : 0 ≤ n ∧ n ≤ 15) :
    addE text 1 l 1 n text (tagS [115] 1 n text) = if n ∈ l.map (·.1) then 42 else 0 := by
  have hf := h.fault (fun n => tagS_len _ _ _ _)
  have hp : isP 1 n := ⟨by omega, by omega, hn.1, hn.2⟩
  have h0 : addFL text 1 l 1 n text (tagS [115] 1 n text) = 0 := by
    rw [addFL, if_neg (fun c => c hf), if_neg (fun c => c hp), if_neg (fun c => c rfl), if_neg (by rintro (c | c); exact c rfl; exact c (tagS_len _ _ _ _))]
  rw [addE, if_neg (fun c => c h0)]
end Go.Proofs.YtoniohmceaflnabDoor
/- Two certificates under way, in the law CertOrder. -/
namespace Go.Proofs.YtoniohmceaflnabDoor
open Go.RowKit
attribute [local go_sem ↓] Go.wp_at_zero Go.wp_at_succ

/-- v is a slice of just these numbers. -/
def Il (w : World) (v : Value) (ns : List Int) : Prop :=
  (ns = [] ∧ ∃ a c, v = .slice a 0 c) ∨ ∃ b o cap, v = .slice (some ⟨b, o, none⟩) ns.length cap ∧ b < w.heap.size ∧ ∀ (i : Nat) n, ns[i]? = some n → w.cell? ⟨b, o + i, none⟩ = some (.int .i64 n)
theorem Il.below {w w' : World} {v : Value} {ns : List Int} (h : Il w v ns) {B : Nat} (hb : Below B w w') (hB : w.heap.size ≤ B) : Il w' v ns := by
  rcases h with h | ⟨b, o, cap, rfl, hlt, h⟩
  · exact .inl h
  · exact .inr ⟨b, o, cap, rfl, Nat.lt_of_lt_of_le hlt hb.size, fun i n hn => (hb.cell (p := ⟨b, o + i, none⟩) (by show b < B; omega)).trans (h i n hn)⟩
theorem Il.slice {w : World} {v : Value} {ns : List Int} (h : Il w v ns) : ∃ a c, v = .slice a ns.length c := by
  rcases h with ⟨rfl, a, c, rfl⟩ | ⟨b, o, cap, rfl, _⟩
  · exact ⟨a, c, rfl⟩
  · exact ⟨_, _, rfl⟩

/-- Two certificates of a text, in two variables; the ring is there. -/
structure St (w : World) (text : List UInt8) (RB NA NB : Nat) (ua ub : Value) (la lb : List Tg) (wr : World) : Prop where
  a : wr.heap[NA]? = some (.cells #[.string (bs text), .int .i64 1, ua] 24)
  b : wr.heap[NB]? = some (.cells #[.string (bs text), .int .i64 1, ub] 24)
  ta : Tp wr ua la
  tb : Tp wr ub lb
  fa : ∀ k, ua.ownBlock = some k → la ≠ [] → k ≠ NA ∧ k ≠ NB
  fb : ∀ k, ub.ownBlock = some k → lb ≠ [] → k ≠ NA ∧ k ≠ NB
  ring : RingAt wr (some ⟨RB, 0, none⟩) (some [115])
  ra : RB ≠ NA
  rb : RB ≠ NB
  ab : NA ≠ NB
  la : w.heap.size ≤ NA
  lb : w.heap.size ≤ NB
  bel : Below w.heap.size w wr
theorem St.next {w : World} {text : List UInt8} {RB NA NB : Nat} {ua ub : Value} {la lb : List Tg} {wr wr' : World} (h : St w text RB NA NB ua ub la lb wr) (hb : Below wr.heap.size wr wr') : St w text RB NA NB ua ub la lb wr' :=
  ⟨(hb.block NA (Array.getElem?_eq_some_iff.1 h.a).1).trans h.a, (hb.block NB (Array.getElem?_eq_some_iff.1 h.b).1).trans h.b, h.ta.below hb (Nat.le_refl _), h.tb.below hb (Nat.le_refl _), h.fa, h.fb, h.ring.below hb (Nat.le_refl _), h.ra, h.rb, h.ab, h.la, h.lb, h.bel.trans (hb.mono h.bel.size)⟩
theorem ring_set {wr : World} {RB B : Nat} (h : RingAt wr (some ⟨RB, 0, none⟩) (some [115])) (hne : RB ≠ B) (j : Nat) (u : Value) : RingAt (wr.setCell ⟨B, j, none⟩ u) (some ⟨RB, 0, none⟩) (some [115]) := by
  rcases h with ⟨h, _⟩ | ⟨B', s, h1, h2, h3, h4⟩
  · cases h
  · have hB : B' = RB := by simpa using h1.symm
    subst hB
    exact .inr ⟨B', s, rfl, h2, h3, (cell_other (p := ⟨B', 0, none⟩) hne j u).trans h4⟩
theorem block_set3 {w : World} {B k : Nat} (h : k ≠ B) (u v x : Value) : (((w.setCell ⟨B, 0, none⟩ u).setCell ⟨B, 1, none⟩ v).setCell ⟨B, 2, none⟩ x).heap[k]? = w.heap[k]? := by
  rw [Below.heap_setCell _ _ _ _ h, Below.heap_setCell _ _ _ _ h, Below.heap_setCell _ _ _ _ h]
theorem St.putA {w : World} {text : List UInt8} {RB NA NB : Nat} {ua ub u : Value} {la lb l : List Tg} {wr : World} (h : St w text RB NA NB ua ub la lb wr) (hu : Tp wr u l) (hf : ∀ k, u.ownBlock = some k → l ≠ [] → k ≠ NA ∧ k ≠ NB) :
    St w text RB NA NB u ub l lb (((wr.setCell ⟨NA, 0, none⟩ (.string (bs text))).setCell ⟨NA, 1, none⟩ (.int .i64 1)).setCell ⟨NA, 2, none⟩ u) :=
  ⟨set3 h.a _ _ _, (block_set3 h.ab.symm _ _ _).trans h.b, ((hu.setB (fun k h1 h2 => (hf k h1 h2).1) 0 _).setB (fun k h1 h2 => (hf k h1 h2).1) 1 _).setB (fun k h1 h2 => (hf k h1 h2).1) 2 _,
    ((h.tb.setB (fun k h1 h2 => (h.fb k h1 h2).1) 0 _).setB (fun k h1 h2 => (h.fb k h1 h2).1) 1 _).setB (fun k h1 h2 => (h.fb k h1 h2).1) 2 _, hf, h.fb, ring_set (ring_set (ring_set h.ring h.ra _ _) h.ra _ _) h.ra _ _, h.ra, h.rb, h.ab, h.la, h.lb,
    ((h.bel.setCell (p := ⟨NA, 0, none⟩) h.la _).setCell (p := ⟨NA, 1, none⟩) h.la _).setCell (p := ⟨NA, 2, none⟩) h.la _⟩
theorem St.putB {w : World} {text : List UInt8} {RB NA NB : Nat} {ua ub u : Value} {la lb l : List Tg} {wr : World} (h : St w text RB NA NB ua ub la lb wr) (hu : Tp wr u l) (hf : ∀ k, u.ownBlock = some k → l ≠ [] → k ≠ NA ∧ k ≠ NB) :
    St w text RB NA NB ua u la l (((wr.setCell ⟨NB, 0, none⟩ (.string (bs text))).setCell ⟨NB, 1, none⟩ (.int .i64 1)).setCell ⟨NB, 2, none⟩ u) :=
  ⟨(block_set3 h.ab _ _ _).trans h.a, set3 h.b _ _ _, ((h.ta.setB (fun k h1 h2 => (h.fa k h1 h2).2) 0 _).setB (fun k h1 h2 => (h.fa k h1 h2).2) 1 _).setB (fun k h1 h2 => (h.fa k h1 h2).2) 2 _,
    ((hu.setB (fun k h1 h2 => (hf k h1 h2).2) 0 _).setB (fun k h1 h2 => (hf k h1 h2).2) 1 _).setB (fun k h1 h2 => (hf k h1 h2).2) 2 _, h.fa, hf, ring_set (ring_set (ring_set h.ring h.rb _ _) h.rb _ _) h.rb _ _, h.ra, h.rb, h.ab, h.la, h.lb,
    ((h.bel.setCell (p := ⟨NB, 0, none⟩) h.lb _).setCell (p := ⟨NB, 1, none⟩) h.lb _).setCell (p := ⟨NB, 2, none⟩) h.lb _⟩
/-- Add, of a replica's tag, to what is gathered. -/
theorem Add_gath {text : List UInt8} {S : List Int} {l : List Tg} (h : Gath (fun n => tagS [115] 1 n text) S l) {n : Int} (hn : 0 ≤ n ∧ n ≤ 15) (v : Value) (w : World) (he : EnvP w) (hv : Tp w v l) :
    Calls Tryd.prog 9 #[.agg #[.string (bs text), .int .i64 1, v], .agg #[.int .i64 1, .int .i64 n, .string (bs text), .string (bs (tagS [115] 1 n text))]] w fun e W' => ∃ X G T u E, e = .returned (.tuple #[.agg #[.string (bs X), .int .i64 G, u], .int .i64 E]) ∧
      ((E = 0 ∧ n ∉ l.map (·.1) ∧ X = text ∧ G = 1 ∧ T = insT n (tagS [115] 1 n text) l ∧ ∀ k, u.ownBlock = some k → w.heap.size ≤ k) ∨ (E = 42 ∧ n ∈ l.map (·.1))) ∧ Tp W' u T ∧ Below w.heap.size w W' := by
  have hl := h.len (fun n => tagS_len _ _ _ _)
  refine (Add_any text 1 l v 1 n text (tagS [115] 1 n text) w (by omega) he hv).mono ?_
  rw [h.add hn]
  rintro e W' ⟨X, G, T, u, rfl, hc, hT, hb⟩
  refine ⟨X, G, T, u, _, rfl, ?_, hT, hb⟩
  by_cases hm : n ∈ l.map (·.1)
  · rw [if_pos hm]; exact .inr ⟨rfl, hm⟩
  · rw [if_neg hm] at hc ⊢
    rcases hc with ⟨_, h1, h2, h3, h4⟩ | ⟨h0, _⟩
    · exact .inl ⟨rfl, hm, h1, h2, h3, h4⟩
    · exact absurd rfl h0
end Go.Proofs.YtoniohmceaflnabDoor
/- The law CertOrder, walked. -/
namespace Go.Proofs.YtoniohmceaflnabDoor
open Go.RowKit
attribute [local go_sem ↓] Go.wp_at_zero Go.wp_at_succ

theorem sign_cases (n : Int) (text : List UInt8) : ∃ G M X Y E, signV (some [115]) 1 n text = .agg #[.int .i64 G, .int .i64 M, .string (bs X), .string (bs Y)] ∧ tagErr (some [115]) 1 n = E ∧
    ((E = 0 ∧ (0 ≤ n ∧ n ≤ 15) ∧ G = 1 ∧ M = n ∧ X = text ∧ Y = tagS [115] 1 n text) ∨ (E = 1 ∧ ¬ (0 ≤ n ∧ n ≤ 15))) := by
  by_cases hp : 0 ≤ n ∧ n ≤ 15
  · have hP : isP 1 n := ⟨by omega, by omega, hp.1, hp.2⟩
    have e1 : tagErr (some [115]) 1 n = 0 := by simp [tagErr, hP]
    exact ⟨1, n, text, tagS [115] 1 n text, 0, by rw [signV, if_pos e1, sigV, if_pos e1, Option.getD_some], e1, .inl ⟨rfl, hp, rfl, rfl, rfl, rfl⟩⟩
  · have hP : ¬ isP 1 n := fun h => hp ⟨h.2.2.1, h.2.2.2⟩
    have e1 : tagErr (some [115]) 1 n = 1 := by simp only [tagErr, if_pos hP]
    exact ⟨0, 0, [], [], 1, by rw [signV, e1, if_neg (by decide)], e1, .inr ⟨rfl, hp⟩⟩
theorem take_set {ns : List Int} {k : Nat} {n : Int} (h : ns[k]? = some n) (m : Int) : m ∈ ns.take (k + 1) ↔ m ∈ ns.take k ∨ m = n := by
  obtain ⟨hk, e⟩ := List.getElem?_eq_some_iff.1 h
  rw [List.take_succ_eq_append_getElem hk, e]; simp
theorem drop_set {ns : List Int} {j : Nat} {n : Int} (h : ns[j]? = some n) (m : Int) : m ∈ ns.drop j ↔ m ∈ ns.drop (j + 1) ∨ m = n := by
  obtain ⟨hk, e⟩ := List.getElem?_eq_some_iff.1 h
  rw [List.drop_eq_getElem_cons hk, e]; simp [or_comm]

set_option maxRecDepth 20000 in
set_option maxHeartbeats 4000000 in
theorem order_any (text : List UInt8) (ns : List Int) (v : Value) (need : Int) (w : World) (he : EnvP w) (hb : EnvB w) (hv : Il w v ns) :
    Calls Tryd.prog 5 #[.string (bs text), v, .int .i64 need] w fun e W' => e = .returned (.bool true) ∧ Below w.heap.size w W' := by
  obtain ⟨va, vc, rfl⟩ := hv.slice
  have hOne : ∀ W, Below w.heap.size w W → Calls Tryd.prog 8 #[] W fun e W' => e = .returned (.bool true) ∧ Below W.heap.size W W' := fun W hW => one4_any W (he.next hW)
  by_cases hL : 5000 < text.length ∨ 40 < ns.length
  · have hcase : decide ((5000 : Int) < (bs text).size) = true ∨ decide ((5000 : Int) < (bs text).size) = false ∧ decide ((40 : Int) < ns.length) = true := by
      rw [bs_size]
      by_cases h : 5000 < text.length
      · left; simp; omega
      · right; constructor
        · simp; omega
        · simp; omega
    clear hL
    go_enter Tryd.func5, Tryd.ntmps5
    rcases hcase with h1 | ⟨h1, h2⟩
    all_goals
      go_wp2_with (go_at_call 8; refine (hOne w (Below.refl _ _)).mono ?_; rintro e w2 ⟨rfl, hb3⟩)
      go_ret
      exact ⟨rfl, hb3⟩
  have hq1 : decide ((5000 : Int) < (bs text).size) = false := by rw [bs_size]; simp; omega
  have hq2 : decide ((40 : Int) < ns.length) = false := by simp; omega
  have hn40 : ns.length ≤ 40 := by omega
  have ht5 : text.length ≤ 5000 := by omega
  clear hL
  have hN := New_ok [115] w (by decide)
  go_enter Tryd.func5, Tryd.ntmps5
  go_wp2_with (go_at_call 13; refine hN.mono ?_; rintro e w2 ⟨rfl, h⟩; subst h)
  have h0a : St w text w.heap.size (w.heap.size + 1) (w.heap.size + 1 + 1) (.slice none 0 0) (.slice none 0 0) [] [] (((w.alloc (.cells #[.string (bs [115])] 65)).alloc (.cells #[.string (bs text), .int .i64 1, .slice none 0 0] 24)).alloc (.cells #[.string (bs text), .int .i64 1, .slice none 0 0] 24)) := by
    have b1 : Below w.heap.size w (w.alloc (.cells #[.string (bs [115])] 65)) := (Below.refl _ w).alloc (Nat.le_refl _) _
    have b2 := b1.alloc b1.size (.cells #[.string (bs text), .int .i64 1, .slice none 0 0] 24)
    have b3 := b2.alloc b2.size (.cells #[.string (bs text), .int .i64 1, .slice none 0 0] 24)
    have c2 : Below (w.heap.size + 1) (w.alloc (.cells #[.string (bs [115])] 65)) ((w.alloc (.cells #[.string (bs [115])] 65)).alloc (.cells #[.string (bs text), .int .i64 1, .slice none 0 0] 24)) := (Below.refl _ _).alloc (by simp) _
    have c3 : Below (w.heap.size + 1 + 1) ((w.alloc (.cells #[.string (bs [115])] 65)).alloc (.cells #[.string (bs text), .int .i64 1, .slice none 0 0] 24)) (((w.alloc (.cells #[.string (bs [115])] 65)).alloc (.cells #[.string (bs text), .int .i64 1, .slice none 0 0] 24)).alloc (.cells #[.string (bs text), .int .i64 1, .slice none 0 0] 24)) := (Below.refl _ _).alloc (by simp) _
    have r1 : (w.alloc (.cells #[.string (bs [115])] 65)).heap[w.heap.size]? = some (.cells #[.string (bs [115])] 65) := heap_alloc_new _ _
    have r2 := heap_alloc_new (w.alloc (.cells #[.string (bs [115])] 65)) (.cells #[.string (bs text), .int .i64 1, .slice none 0 0] 24)
    have r3 := heap_alloc_new ((w.alloc (.cells #[.string (bs [115])] 65)).alloc (.cells #[.string (bs text), .int .i64 1, .slice none 0 0] 24)) (.cells #[.string (bs text), .int .i64 1, .slice none 0 0] 24)
    simp only [World.size_alloc] at r2 r3
    refine ⟨(c3.block _ (by omega)).trans r2, r3, Tp.nil _, Tp.nil _, fun k _ h => absurd rfl h, fun k _ h => absurd rfl h, ?_, by omega, by omega, by omega, by omega, by omega, b3⟩
    exact .inr ⟨_, _, rfl, rfl, by decide, cellB ((c3.block w.heap.size (by omega)).trans ((c2.block w.heap.size (by omega)).trans r1)) 0 _ rfl⟩
  obtain ⟨W3, hW3⟩ : ∃ W, (((w.alloc (.cells #[.string (bs [115])] 65)).alloc (.cells #[.string (bs text), .int .i64 1, .slice none 0 0] 24)).alloc (.cells #[.string (bs text), .int .i64 1, .slice none 0 0] 24)) = W := ⟨_, rfl⟩
  rw [hW3] at h0a ⊢
  clear hW3 hN
  obtain ⟨NB, hNB⟩ : ∃ n, w.heap.size + 1 + 1 = n := ⟨_, rfl⟩
  rw [hNB] at h0a ⊢
  clear hNB
  obtain ⟨NA, hNA⟩ : ∃ n, w.heap.size + 1 = n := ⟨_, rfl⟩
  rw [hNA] at h0a ⊢
  clear hNA
  obtain ⟨RB, hRB⟩ : ∃ n, w.heap.size = n := ⟨_, rfl⟩
  have h0 : St w text RB NA NB (.slice none 0 0) (.slice none 0 0) [] [] W3 := hRB ▸ h0a
  rw [show (⟨w.heap.size, 0, none⟩ : Addr) = ⟨RB, 0, none⟩ by rw [hRB]]
  clear h0a hRB
  go_loopg [46] ns.length (fun gk i wr => ∃ k : Nat, i = .int .i64 k ∧ k + gk = ns.length ∧ ∃ ua ub la lb, Hid (Gath (fun n => tagS [115] 1 n text) (ns.take k) la) ∧ Hid (Gath (fun n => tagS [115] 1 n text) (ns.drop (ns.length - k)) lb) ∧ St w text RB NA NB ua ub la lb wr)
  case atStart => exact ⟨0, rfl, by omega, _, _, _, _, Gath.nil _, (by rw [Nat.sub_zero, List.drop_length]; exact Gath.nil _), h0⟩
  case round =>
    obtain ⟨k, rfl, hgk, ua, ub, la, lb, hGa, hGb, hS⟩ := hrel
    clear h0
    by_cases hk : k = ns.length
    · subst hk
      have hab : la = lb := hGa.out.eq hGb.out (fun q => by rw [List.take_length, Nat.sub_self, List.drop_zero])
      subst hab
      have hl16 := hGa.out.len (fun n => tagS_len _ _ _ _)
      have hcE := hGa.out.certE need
      obtain ⟨aa, ac, rfl⟩ := hS.ta.tl.slice
      obtain ⟨ba, bc, rfl⟩ := hS.tb.tl.slice
      have a0 := cellB hS.a 0 (.string (bs text)) rfl
      have a1 := cellB hS.a 1 (.int .i64 1) rfl
      have a2 := cellB hS.a 2 (.slice aa la.length ac) rfl
      have b0 := cellB hS.b 0 (.string (bs text)) rfl
      have b1 := cellB hS.b 1 (.int .i64 1) rfl
      have b2 := cellB hS.b 2 (.slice ba la.length bc) rfl
      have hRf := (ref_any (bs text) 1 la _ wr.drew (by omega) (hS.next (below_drew (Below.refl _ _))).tb.tl)
      have hCk : ∀ W, St w text RB NA NB (.slice aa la.length ac) (.slice ba la.length bc) la la W → Calls Tryd.prog 14 #[.pointer (some ⟨RB, 0, none⟩), .agg #[.string (bs text), .int .i64 1, .slice aa la.length ac], .int .i64 16, .int .i64 need] W fun e W' => e = .returned (.int .i64 (if need < 1 ∨ 16 < need then 1 else if (la.length : Int) < need then 40 else 0)) ∧ Below W.heap.size W W' := by
        intro W hW
        have h := certCheck_any text 1 la _ 16 need (some ⟨RB, 0, none⟩) (some [115]) W (he.next hW.bel) (hb.next hW.bel) hW.ring (fun _ => by omega) (by omega) hW.ta.tl
        rw [hcE] at h
        exact h
      clear hcE hGa hGb
      go_wp2_with fail
      go_region_held3 (fun w' => w'.cell? ⟨NA, 0, none⟩ = some (.string (bs text)) ∧ w'.cell? ⟨NA, 1, none⟩ = some (.int .i64 1) ∧ w'.cell? ⟨NA, 2, none⟩ = some (.slice aa la.length ac) ∧ w'.cell? ⟨NB, 0, none⟩ = some (.string (bs text)) ∧ w'.cell? ⟨NB, 1, none⟩ = some (.int .i64 1) ∧ w'.cell? ⟨NB, 2, none⟩ = some (.slice ba la.length bc)) (go_keep)
        (first
          | (go_at_call 11; refine hRf.mono ?_; rintro e w2 ⟨ru, rfl, hT2, hb2⟩; obtain ⟨rua, ruc, rfl⟩ := hT2.tl.slice; have hS2 := hS.next ((below_drew (Below.refl wr.heap.size wr)).trans hb2); have c0 := cellB hS2.a 0 (.string (bs text)) rfl; have c1 := cellB hS2.a 1 (.int .i64 1) rfl; have c2 := cellB hS2.a 2 (.slice aa la.length ac) rfl; have c3 := cellB hS2.b 0 (.string (bs text)) rfl; have c4 := cellB hS2.b 1 (.int .i64 1) rfl; have c5 := cellB hS2.b 2 (.slice ba la.length bc) rfl)
          | (go_at_call 12; refine (same_any text 1 la _ _ w2 (by omega) hS2.ta.tl hT2.tl).mono ?_; rintro e w3 ⟨rfl, hb3⟩; have hS3 := hS2.next hb3; have d0 := cellB hS3.a 0 (.string (bs text)) rfl; have d1 := cellB hS3.a 1 (.int .i64 1) rfl; have d2 := cellB hS3.a 2 (.slice aa la.length ac) rfl; have d3 := cellB hS3.b 0 (.string (bs text)) rfl; have d4 := cellB hS3.b 1 (.int .i64 1) rfl; have d5 := cellB hS3.b 2 (.slice ba la.length bc) rfl))
      have hCw := hCk w3 hS3
      clear a0 a1 a2 b0 b1 b2 c0 c1 c2 c3 c4 c5 hRf hCk
      by_cases hnd : need < 1 ∨ 16 < need
      · rw [if_pos hnd] at hCw
        have hcase : need < 1 ∨ 1 ≤ need ∧ 16 < need := by omega
        clear hnd
        rcases hcase with h1 | ⟨h1, h2⟩
        all_goals
          go_wp2_with (first
            | (go_at_call 14; refine hCw.mono ?_; rintro e w4 ⟨rfl, hb4⟩; have hS4 := hS3.next hb4)
            | (go_at_call 8; refine (hOne w4 hS4.bel).mono ?_; rintro e w5 ⟨rfl, hb5⟩))
          go_ret
          exact ⟨rfl, hS4.bel.trans (hb5.mono hS4.bel.size)⟩
      · rw [if_neg hnd] at hCw
        have h1 : 1 ≤ need := by omega
        have h2 : need ≤ 16 := by omega
        clear hnd
        by_cases hlt : (la.length : Int) < need
        · rw [if_pos hlt] at hCw
          have hq3 : decide (need ≤ (la.length : Int)) = false := by simp; omega
          go_wp2_with fail
          refine hCw.mono ?_
          rintro e w4 ⟨rfl, hb4⟩
          have hS4 := hS3.next hb4
          have e2 := cellB hS4.a 2 (.slice aa la.length ac) rfl
          go_wp2_with (go_at_call 8; refine (hOne w4 hS4.bel).mono ?_; rintro e w5 ⟨rfl, hb5⟩)
          go_ret
          exact ⟨rfl, hS4.bel.trans (hb5.mono hS4.bel.size)⟩
        · rw [if_neg hlt] at hCw
          go_wp2_with fail
          refine hCw.mono ?_
          rintro e w4 ⟨rfl, hb4⟩
          have hS4 := hS3.next hb4
          have e2 := cellB hS4.a 2 (.slice aa la.length ac) rfl
          go_wp2_with (go_at_call 8; refine (hOne w4 hS4.bel).mono ?_; rintro e w5 ⟨rfl, hb5⟩)
          go_ret
          exact ⟨rfl, hS4.bel.trans (hb5.mono hS4.bel.size)⟩
    · have hk2 : k < ns.length := by omega
      obtain ⟨m, hm⟩ : ∃ m, k + m + 1 = ns.length := ⟨ns.length - k - 1, by omega⟩
      obtain ⟨n1, hn1⟩ : ∃ n, ns[k]? = some n := ⟨_, List.getElem?_eq_getElem hk2⟩
      obtain ⟨n2, hn2⟩ : ∃ n, ns[m]? = some n := ⟨_, List.getElem?_eq_getElem (by omega)⟩
      have HS1 : Hid (∀ q, q ∈ ns.take (k + 1) ↔ q ∈ ns.take k ∨ q = n1) := take_set hn1
      have HS2 : Hid (∀ q, q ∈ ns.drop (ns.length - (k + 1)) ↔ q ∈ ns.drop (ns.length - k) ∨ q = n2) := by
        intro q
        rw [show ns.length - (k + 1) = m by omega, show ns.length - k = m + 1 by omega]
        exact drop_set hn2 q
      rcases hv.below hS.bel (Nat.le_refl _) with ⟨rfl, _⟩ | ⟨vb, vo, vcap, hve, hvl, hvc⟩
      · cases hn1
      injection hve with hva _ hvcap
      subst hva hvcap
      have c1 := hvc k n1 hn1
      have hsl := hS.bel.size
      have hvw : vb < w.heap.size := by
        rcases hv with ⟨h, _⟩ | ⟨vb', vo', vcap', hve', hvl', _⟩
        · rw [h] at hn1; cases hn1
        · injection hve' with h1 _ _
          injection h1 with h1
          injection h1 with h1 _ _
          rw [h1]; exact hvl'
      have c2 := hvc m n2 hn2
      have hidx : ((ns.length : Int) - 1 - (k : Int)) = (m : Int) := by omega
      have hk0 : (0 : Int) ≤ (k : Int) := by omega
      have hk3 : (k : Int) < (ns.length : Int) := by omega
      have hm3 : (m : Int) < (ns.length : Int) := by omega
      have hm0 : (0 : Int) ≤ (m : Int) := by omega
      have hn41 : (ns.length : Int) ≤ 40 := by omega
      clear hvc hn1 hn2 hm
      obtain ⟨G1, M1, X1, Y1, E1, hs1, hE1, hc1⟩ := sign_cases n1 text
      obtain ⟨G2, M2, X2, Y2, E2, hs2, hE2, hc2⟩ := sign_cases n2 text
      have hSg1 := Sign_any (some ⟨RB, 0, none⟩) (some [115]) 1 n1 text wr (he.next hS.bel) (hb.next hS.bel) hS.ring (fun _ => by omega)
      rw [hs1, hE1] at hSg1
      have hSg2 : ∀ W, Below wr.heap.size wr W → Calls Tryd.prog 16 #[.pointer (some ⟨RB, 0, none⟩), .agg #[.int .i64 1, .int .i64 n2], .string (bs text)] W fun e W' => e = .returned (.tuple #[.agg #[.int .i64 G2, .int .i64 M2, .string (bs X2), .string (bs Y2)], .int .i64 E2]) ∧ Below W.heap.size W W' := by
        intro W hW
        have hS' := hS.next hW
        have h := Sign_any (some ⟨RB, 0, none⟩) (some [115]) 1 n2 text W (he.next hS'.bel) (hb.next hS'.bel) hS'.ring (fun _ => by omega)
        rw [hs2, hE2] at h
        exact h
      clear hs1 hE1 hs2 hE2
      go_upto_if 76 with (first
        | (go_at_call 16; have hg := hB1; refine (hSg2 _ hB1).mono ?_; rintro e w3 ⟨rfl, hb3⟩)
        | (go_at_call 16; refine hSg1.mono ?_; rintro e w2 ⟨rfl, hb2⟩; have hB1 := hb2.alloc hb2.size (.cells #[.int .i64 G1, .int .i64 M1, .string (bs X1), .string (bs Y1)] 28); have d2 := (hb2.cell (p := ⟨vb, vo + m, none⟩) (by show vb < wr.heap.size; omega)).trans c2; have hvl2 : vb < w2.heap.size := Nat.lt_of_lt_of_le (by show vb < wr.heap.size; omega) hb2.size))
      have hB3 := hB1.trans (hb3.mono hB1.size)
      have r3 := (hb3.block w2.heap.size (by simp)).trans (heap_alloc_new w2 (.cells #[.int .i64 G1, .int .i64 M1, .string (bs X1), .string (bs Y1)] 28))
      have hls : w2.heap.size < w3.heap.size := (Array.getElem?_eq_some_iff.1 r3).1
      have hb5 : Below w3.heap.size w3 (w3.alloc (.cells #[.int .i64 G2, .int .i64 M2, .string (bs X2), .string (bs Y2)] 28)) := (Below.refl _ _).alloc (Nat.le_refl _) _
      have rt : (w3.alloc (.cells #[.int .i64 G2, .int .i64 M2, .string (bs X2), .string (bs Y2)] 28)).heap[w3.heap.size]? = some (.cells #[.int .i64 G2, .int .i64 M2, .string (bs X2), .string (bs Y2)] 28) := heap_alloc_new _ _
      obtain ⟨W5, hW5⟩ : ∃ W, w3.alloc (.cells #[.int .i64 G2, .int .i64 M2, .string (bs X2), .string (bs Y2)] 28) = W := ⟨_, rfl⟩
      rw [hW5] at hb5 rt ⊢
      have hS5 := hS.next (hB3.trans (hb5.mono hB3.size))
      have rs := (hb5.block w2.heap.size hls).trans r3
      have hla : NA < wr.heap.size := (Array.getElem?_eq_some_iff.1 hS.a).1
      have hlb : NB < wr.heap.size := (Array.getElem?_eq_some_iff.1 hS.b).1
      have hTA : w3.heap.size ≠ NA := by have := hB3.size; omega
      have hTB : w3.heap.size ≠ NB := by have := hB3.size; omega
      obtain ⟨SB, hSB⟩ : ∃ x, w2.heap.size = x := ⟨_, rfl⟩
      obtain ⟨TB, hTBe⟩ : ∃ x, w3.heap.size = x := ⟨_, rfl⟩
      rw [hTBe] at rt hTA hTB ⊢
      rw [hSB] at rs ⊢
      clear hW5 hb5 r3 hls hSg1 hSg2 hB1 hb2 hb3 hB3 c1 c2 d2 hvl2 hSB hTBe hS hvl hidx
      go_cut [17] (fun _ wx => ∃ ua' la', Hid (Gath (fun n => tagS [115] 1 n text) (ns.take (k + 1)) la') ∧ St w text RB NA NB ua' ub la' lb wx ∧ wx.heap[TB]? = some (.cells #[.int .i64 G2, .int .i64 M2, .string (bs X2), .string (bs Y2)] 28))
      case first =>
        have y0 := cellB rs 0 (.int .i64 G1) rfl
        have y1 := cellB rs 1 (.int .i64 M1) rfl
        have y2 := cellB rs 2 (.string (bs X1)) rfl
        have y3 := cellB rs 3 (.string (bs Y1)) rfl
        obtain ⟨aa, ac, rfl⟩ := hS5.ta.tl.slice
        have a0 := cellB hS5.a 0 (.string (bs text)) rfl
        have a1 := cellB hS5.a 1 (.int .i64 1) rfl
        have a2 := cellB hS5.a 2 (.slice aa la.length ac) rfl
        rcases hc1 with ⟨rfl, hn15, rfl, rfl, rfl, rfl⟩ | ⟨rfl, hn15⟩
        · have hAdd := Add_gath hGa.out hn15 _ W5 (he.next hS5.bel) hS5.ta
          have HN : Hid (0 ≤ M1 ∧ M1 ≤ 15) := hn15
          clear hn15
          go_wp2_with fail
          refine hAdd.mono ?_
          clear hAdd
          rintro e w6 ⟨X, G, T, u, E, rfl, hc, hT, hb6⟩
          obtain ⟨xa, xc, rfl⟩ := hT.tl.slice
          have hS6 := hS5.next hb6
          have rt6 := (hb6.block TB (Array.getElem?_eq_some_iff.1 rt).1).trans rt
          have hb7 : Below w6.heap.size w6 (w6.alloc (.cells #[.string (bs X), .int .i64 G, .slice xa T.length xc] 24)) := (Below.refl _ _).alloc (Nat.le_refl _) _
          have rx : (w6.alloc (.cells #[.string (bs X), .int .i64 G, .slice xa T.length xc] 24)).heap[w6.heap.size]? = some (.cells #[.string (bs X), .int .i64 G, .slice xa T.length xc] 24) := heap_alloc_new _ _
          go_upto_region 15 with fail
          obtain ⟨W7, hW7⟩ : ∃ W, w6.alloc (.cells #[.string (bs X), .int .i64 G, .slice xa T.length xc] 24) = W := ⟨_, rfl⟩
          rw [hW7] at hb7 rx ⊢
          clear hW7
          have hS7 := hS6.next hb7
          have rt7 := (hb7.block TB (Array.getElem?_eq_some_iff.1 rt6).1).trans rt6
          have hT7 := hT.below hb7 (Nat.le_refl _)
          have hl5a : NA < W5.heap.size := (Array.getElem?_eq_some_iff.1 hS5.a).1
          have hl5b : NB < W5.heap.size := (Array.getElem?_eq_some_iff.1 hS5.b).1
          have z0 := cellB rx 0 (.string (bs X)) rfl
          have z1 := cellB rx 1 (.int .i64 G) rfl
          have z2 := cellB rx 2 (.slice xa T.length xc) rfl
          have f0 := frozenB hS7.a 0
          have f1 := frozenB hS7.a 1
          have f2 := frozenB hS7.a 2
          have b0 := cellB hS7.a 0 (.string (bs X1)) rfl
          have b1 := cellB hS7.a 1 (.int .i64 1) rfl
          have b2 := cellB hS7.a 2 (.slice aa la.length ac) rfl
          clear a0 a1 a2 y0 y1 y2 y3 rs rt
          rcases hc with ⟨rfl, hnm, rfl, rfl, hTe, hfr⟩ | ⟨rfl, hnm⟩
          · have HG : Hid (Gath (fun n => tagS [115] 1 n X) (ns.take (k + 1)) T) := by show Gath _ _ T; rw [hTe]; exact hGa.out.put HS1.out HN.out hnm
            clear hTe hnm
            go_wp2
            go_meet
            case rel => exact ⟨_, _, HG, hS7.putA hT7 (fun q h1 _ => by have := hfr q h1; omega), (block_set3 hTA _ _ _).trans rt7⟩
          · have HG : Hid (Gath (fun n => tagS [115] 1 n X1) (ns.take (k + 1)) la) := hGa.out.skip HS1.out (.inr hnm)
            clear hnm
            go_wp2
            go_meet
            case rel => exact ⟨_, _, HG, hS7, rt7⟩
        · have HG : Hid (Gath (fun n => tagS [115] 1 n text) (ns.take (k + 1)) la) := hGa.out.skip HS1.out (.inl hn15)
          clear hn15
          go_wp2
          go_meet
          case rel => exact ⟨_, _, HG, hS5, rt⟩
      case rest =>
        rename World => W9
        obtain ⟨ua2, la2, hGa2, hS9, rt9⟩ := hcut
        clear hGa hS5 rs rt hc1
        have y0 := cellB rt9 0 (.int .i64 G2) rfl
        have y1 := cellB rt9 1 (.int .i64 M2) rfl
        have y2 := cellB rt9 2 (.string (bs X2)) rfl
        have y3 := cellB rt9 3 (.string (bs Y2)) rfl
        obtain ⟨aa, ac, rfl⟩ := hS9.tb.tl.slice
        have a0 := cellB hS9.b 0 (.string (bs text)) rfl
        have a1 := cellB hS9.b 1 (.int .i64 1) rfl
        have a2 := cellB hS9.b 2 (.slice aa lb.length ac) rfl
        rcases hc2 with ⟨rfl, hn15, rfl, rfl, rfl, rfl⟩ | ⟨rfl, hn15⟩
        · have hAdd := Add_gath hGb.out hn15 _ W9 (he.next hS9.bel) hS9.tb
          have HN : Hid (0 ≤ M2 ∧ M2 ≤ 15) := hn15
          clear hn15
          go_wp2_with fail
          refine hAdd.mono ?_
          clear hAdd
          rintro e w6 ⟨X, G, T, u, E, rfl, hc, hT, hb6⟩
          obtain ⟨xa, xc, rfl⟩ := hT.tl.slice
          have hS6 := hS9.next hb6
          have hb7 : Below w6.heap.size w6 (w6.alloc (.cells #[.string (bs X), .int .i64 G, .slice xa T.length xc] 24)) := (Below.refl _ _).alloc (Nat.le_refl _) _
          have rx : (w6.alloc (.cells #[.string (bs X), .int .i64 G, .slice xa T.length xc] 24)).heap[w6.heap.size]? = some (.cells #[.string (bs X), .int .i64 G, .slice xa T.length xc] 24) := heap_alloc_new _ _
          go_upto_region 21 with fail
          obtain ⟨W7, hW7⟩ : ∃ W, w6.alloc (.cells #[.string (bs X), .int .i64 G, .slice xa T.length xc] 24) = W := ⟨_, rfl⟩
          rw [hW7] at hb7 rx ⊢
          clear hW7
          have hS7 := hS6.next hb7
          have hT7 := hT.below hb7 (Nat.le_refl _)
          have hl5a : NA < W9.heap.size := (Array.getElem?_eq_some_iff.1 hS9.a).1
          have hl5b : NB < W9.heap.size := (Array.getElem?_eq_some_iff.1 hS9.b).1
          have z0 := cellB rx 0 (.string (bs X)) rfl
          have z1 := cellB rx 1 (.int .i64 G) rfl
          have z2 := cellB rx 2 (.slice xa T.length xc) rfl
          have f0 := frozenB hS7.b 0
          have f1 := frozenB hS7.b 1
          have f2 := frozenB hS7.b 2
          have b0 := cellB hS7.b 0 (.string (bs X2)) rfl
          have b1 := cellB hS7.b 1 (.int .i64 1) rfl
          have b2 := cellB hS7.b 2 (.slice aa lb.length ac) rfl
          clear a0 a1 a2 y0 y1 y2 y3 rt9
          rcases hc with ⟨rfl, hnm, rfl, rfl, hTe, hfr⟩ | ⟨rfl, hnm⟩
          · have HG : Hid (Gath (fun n => tagS [115] 1 n X) (ns.drop (ns.length - (k + 1))) T) := by show Gath _ _ T; rw [hTe]; exact hGb.out.put HS2.out HN.out hnm
            clear hTe hnm
            go_wp2
            go_roundg (ns.length - (k + 1))
            case measure => omega
            case rel => exact ⟨k + 1, by go_num, by omega, _, _, _, _, hGa2, HG, hS7.putB hT7 (fun q h1 _ => by have := hfr q h1; omega)⟩
          · have HG : Hid (Gath (fun n => tagS [115] 1 n X2) (ns.drop (ns.length - (k + 1))) lb) := hGb.out.skip HS2.out (.inr hnm)
            clear hnm
            go_wp2
            go_roundg (ns.length - (k + 1))
            case measure => omega
            case rel => exact ⟨k + 1, by go_num, by omega, _, _, _, _, hGa2, HG, hS7⟩
        · have HG : Hid (Gath (fun n => tagS [115] 1 n text) (ns.drop (ns.length - (k + 1))) lb) := hGb.out.skip HS2.out (.inl hn15)
          clear hn15
          go_wp2
          go_roundg (ns.length - (k + 1))
          case measure => omega
          case rel => exact ⟨k + 1, by go_num, by omega, _, _, _, _, hGa2, HG, hS9⟩
end Go.Proofs.YtoniohmceaflnabDoor
/- A slice of numbers that came in, opened. -/
namespace Go.Proofs.YtoniohmceaflnabDoor
open Go.ChangeShapes Go.WideShapes Go.ChangeAt Go.RowKit

set_option maxRecDepth 100000 in
theorem open_il {H : Type} {enc : TypeId × Value → H} {W : World} {base : Nat} {v : Value} {d : DataW H} {p : List MemPlace} (hval : Value.okWide Tryd.prog W .any base 48 v)
    (h : ∃ fuel, DataW.trod enc Tryd.prog W 0 (fun _ => true) true fuel 48 v.cells.toList = some (d, p)) : ∃ ns : List Int, Il W v ns := by
  obtain ⟨a, len, cap, rfl⟩ := okWide_slice Tryd.underlying48 hval
  obtain ⟨fuel, hf⟩ := h
  rcases open_ints Tryd.underlying48 Tryd.underlying3 Tryd.cells3 hf with ⟨hcs, _⟩ | ⟨x, l, c, zs, hcs, _, hl, hm, hzz, _, hcell, _⟩
  · simp [Value.cells] at hcs
    obtain ⟨rfl, rfl, rfl⟩ := hcs
    exact ⟨[], .inl ⟨rfl, none, 0, rfl⟩⟩
  · simp [Value.cells] at hcs
    obtain ⟨rfl, rfl, rfl⟩ := hcs
    have hss : zs.length = cap := by simpa using hzz
    have hlen : (zs.take len).length = len := by simp; omega
    by_cases h00 : len = 0
    · subst h00
      exact ⟨[], .inl ⟨rfl, _, _, rfl⟩⟩
    · obtain ⟨b, off, spot⟩ := x
      have hc0 := hcell 0 (by omega)
      have hspot : spot = none := by simpa [Addr.add] using World.cell?_spot hc0
      subst hspot
      have hbb : b < W.heap.size := by simpa [Addr.add] using World.block_lt_of_cell? W _ hc0
      refine ⟨zs.take len, .inr ⟨b, off, cap, by rw [hlen], hbb, fun i n hn => ?_⟩⟩
      have hi : i < len := by have := (List.getElem?_eq_some_iff.1 hn).1; omega
      have h1 := hcell i (by omega)
      rw [List.getElem?_take_of_lt hi] at hn
      rw [List.getD_eq_getElem?_getD, hn, Addr.add_mid] at h1
      exact h1
end Go.Proofs.YtoniohmceaflnabDoor
