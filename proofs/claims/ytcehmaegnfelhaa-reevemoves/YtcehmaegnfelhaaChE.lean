/- Chains: MinFunc, MaxFunc, fewest, most, walked. -/
import Derived.Test.YtcehmaegnfelhaaChD
namespace Go.Proofs.Ytcehmaegnfelhaa
open Go.RowKit
attribute [local go_sem ↓] Go.wp_at_zero Go.wp_at_succ

/-- The first of the groups that has fewest. -/
def fewSt (f : Nat → Nat) (m x : Nat) : Nat := if f x < f m then x else m
def fewF (f : Nat → Nat) : List Nat → Nat
  | [] => 0
  | g :: r => r.foldl (fewSt f) g
theorem fewG_eq (gs o : List Nat) : fewG gs o = fewF (cnt o) gs := by cases gs <;> rfl
set_option maxRecDepth 20000 in
set_option maxHeartbeats 2000000 in
theorem MinFunc_any (f : Nat → Nat) (gs : List Nat) (hg : ∀ x ∈ gs, x ≤ 4) (hl : 0 < gs.length) (hl2 : gs.length ≤ 1000) (gv : Value) (w : World) (hu : Il w gv (zi gs)) :
    Calls Try.prog 68 #[gv, .func (.func 67) #[.agg (lds f)] #[]] w fun e W' => e = .returned (.int .i64 (fewF f gs)) ∧ Below w.heap.size w W' := by
  obtain ⟨pa, pc, rfl⟩ := hu.slice
  obtain ⟨n, hn⟩ : ∃ n, gs[0]? = some n := ⟨_, List.getElem?_eq_getElem hl⟩
  obtain ⟨b1, o1, rfl, hb1, x1⟩ := hu.at (zi_at gs 0 n hn)
  have HZ : Hid (fewF f gs = (gs.drop 1).foldl (fewSt f) n) := by
    show _ = _
    cases gs with
    | nil => simp at hl
    | cons a r => simp at hn; subst hn; rfl
  have n4 : n ≤ 4 := hg n (List.mem_of_getElem? hn)
  have hl3 : ¬ gs.length < 1 := by omega
  rw [zi_len]
  rw [zi_len] at hu
  rw [Nat.add_zero] at x1
  clear hn
  go_enter Try.func68, Try.ntmps68
  go_upto_region 4 with fail
  go_wp2_with fail
  go_loopg [5, 6] (gs.length - 1) (fun gk mv i wr => ∃ k m : Nat, k + gk = gs.length ∧ 1 ≤ k ∧ i = .int .i64 k ∧ mv = .int .i64 m ∧ m ≤ 4 ∧ Below w.heap.size w wr ∧ fewF f gs = (gs.drop k).foldl (fewSt f) m)
  case atStart => exact ⟨1, n, by omega, by omega, rfl, rfl, n4, Below.refl _ _, HZ.out⟩
  case round =>
    obtain ⟨k, m, hk, hk1, rfl, rfl, hm, hB, hfo⟩ := hrel
    clear HZ x1 n4
    by_cases hlt : k < gs.length
    · obtain ⟨t, ht⟩ : ∃ t, gs[k]? = some t := ⟨_, List.getElem?_eq_getElem hlt⟩
      have hu1 := hu.next hB
      have x1 : wr.cell? ⟨b1, o1 + k, none⟩ = some (.int .i64 t) := by
        rcases hu1 with ⟨h0, _⟩ | ⟨b2, o2, cap, hv, _, h⟩
        · have h9 : (zi gs).length = 0 := by rw [h0]; rfl
          rw [zi_len] at h9; omega
        · injection hv with h1 _ _; injection h1 with h1; injection h1 with h1 h2 _; subst h1; subst h2; exact h k t (zi_at gs k t ht)
      have t4 : t ≤ 4 := hg t (List.mem_of_getElem? ht)
      have hdr : gs.drop k = t :: gs.drop (k + 1) := by
        rw [List.drop_eq_getElem_cons hlt]; congr 1
        rw [List.getElem?_eq_getElem hlt] at ht; exact Option.some.inj ht
      have HS : Hid (fewF f gs = (gs.drop (k + 1)).foldl (fewSt f) (fewSt f m t)) := by show _ = _; rw [hfo, hdr]; rfl
      have hC := fun W => compare_any f t m t4 hm W
      have k0 : (0 : Int) ≤ (k : Int) := by omega
      have k1 : (k : Int) < (gs.length : Int) := by omega
      have Hu : Hid (Il w (.slice (some ⟨b1, o1, none⟩) gs.length pc) (zi gs)) := hu
      clear hdr hfo hu hu1 ht hg
      by_cases hcm : f t < f m
      · have hq : cmpN (f t) (f m) = -1 := by simp [cmpN, hcm]
        rw [hq] at hC
        have HT : Hid (fewSt f m t = t) := by show _ = _; simp [fewSt, hcm]
        clear hq hcm
        go_wp2_with (first | (go_at_call 67; refine (hC _).mono ?_; rintro e w1 ⟨rfl, hb1'⟩; have y1 := (hb1'.cell (p := ⟨b1, o1 + k, none⟩) (Nat.lt_of_lt_of_le hb1 hB.size)).trans x1))
        go_roundg (gs.length - (k + 1))
        case measure => omega
        case rel => exact ⟨k + 1, t, by omega, by omega, by go_num, rfl, t4, hB.trans (hb1'.mono hB.size), by rw [HS.out, HT.out]⟩
      · have hq : 0 ≤ (cmpN (f t) (f m)) := by unfold cmpN; split <;> (try split) <;> first | omega | decide
        obtain ⟨z, hz⟩ : ∃ z, cmpN (f t) (f m) = z := ⟨_, rfl⟩
        rw [hz] at hC hq
        have HT : Hid (fewSt f m t = m) := by show _ = _; simp [fewSt, hcm]
        clear hz hcm
        go_wp2_with (first | (go_at_call 67; refine (hC _).mono ?_; rintro e w1 ⟨rfl, hb1'⟩))
        go_roundg (gs.length - (k + 1))
        case measure => omega
        case rel => exact ⟨k + 1, m, by omega, by omega, by go_num, rfl, hm, hB.trans (hb1'.mono hB.size), by rw [HS.out, HT.out]⟩
    · have hkl : k = gs.length := by omega
      have HT : Hid (fewF f gs = m) := by show _ = _; rw [hfo, hkl, List.drop_length]; rfl
      clear hfo
      subst hkl
      go_wp2
      go_ret
      exact ⟨by rw [HT.out]; rfl, hB⟩
set_option maxHeartbeats 1000000 in
theorem fewest_any (f : Nat → Nat) (gs : List Nat) (hg : ∀ x ∈ gs, x ≤ 4) (hl : 0 < gs.length) (hl2 : gs.length ≤ 1000) (gv : Value) (w : World) (hu : Il w gv (zi gs)) :
    Calls Try.prog 54 #[.agg (lds f), gv] w fun e W' => e = .returned (.int .i64 (fewF f gs)) ∧ Below w.heap.size w W' := by
  have hb0 : Below w.heap.size w (w.alloc (.cells (lds f) 91)) := (Below.refl _ w).alloc (Nat.le_refl _) _
  have r0 := heap_alloc_new w (.cells (lds f) 91)
  have hM := MinFunc_any f gs hg hl hl2 gv _ (hu.next hb0)
  obtain ⟨W0, hW0⟩ : ∃ W, w.alloc (.cells (lds f) 91) = W := ⟨_, rfl⟩
  rw [hW0] at hb0 r0 hM
  have HW : Hid (w.alloc (.cells (lds f) 91) = W0) := hW0
  have K1 : Hid (W0.rangeAt w.heap.size 0 (lds f).toList) := blk_range (L := (lds f).toList) r0
  obtain ⟨pa, pc, rfl⟩ := hu.slice
  obtain ⟨R, hR⟩ : ∃ R, fewF f gs = R := ⟨_, rfl⟩
  rw [hR] at hM ⊢
  clear r0 hW0 hu hg hl hl2 hR
  go_enter Try.func54, Try.ntmps54
  go_upto_region 1 with fail
  rw [HW.out]
  clear HW
  go_wp2_with (first
    | (refine wpList_load_mid rfl 91 _ rfl w.heap.size 0 rfl (lds f).toList _ K1.out Try.underlying91 rfl Try.size91 ?_)
    | (go_at_call 68; refine hM.mono ?_; rintro e w1 ⟨rfl, hb1⟩))
  go_ret
  exact ⟨rfl, hb0.trans (hb1.mono hb0.size)⟩

/-- The first of the groups that has most. -/
def manySt (f : Nat → Nat) (m x : Nat) : Nat := if f m < f x then x else m
def manyF (f : Nat → Nat) : List Nat → Nat
  | [] => 0
  | g :: r => r.foldl (manySt f) g
theorem manyG_eq (gs o : List Nat) : manyG gs o = manyF (cnt o) gs := by cases gs <;> rfl
set_option maxRecDepth 20000 in
set_option maxHeartbeats 2000000 in
theorem MaxFunc_any (f : Nat → Nat) (gs : List Nat) (hg : ∀ x ∈ gs, x ≤ 4) (hl : 0 < gs.length) (hl2 : gs.length ≤ 1000) (gv : Value) (w : World) (hu : Il w gv (zi gs)) :
    Calls Try.prog 66 #[gv, .func (.func 67) #[.agg (lds f)] #[]] w fun e W' => e = .returned (.int .i64 (manyF f gs)) ∧ Below w.heap.size w W' := by
  obtain ⟨pa, pc, rfl⟩ := hu.slice
  obtain ⟨n, hn⟩ : ∃ n, gs[0]? = some n := ⟨_, List.getElem?_eq_getElem hl⟩
  obtain ⟨b1, o1, rfl, hb1, x1⟩ := hu.at (zi_at gs 0 n hn)
  have HZ : Hid (manyF f gs = (gs.drop 1).foldl (manySt f) n) := by
    show _ = _
    cases gs with
    | nil => simp at hl
    | cons a r => simp at hn; subst hn; rfl
  have n4 : n ≤ 4 := hg n (List.mem_of_getElem? hn)
  have hl3 : ¬ gs.length < 1 := by omega
  rw [zi_len]
  rw [zi_len] at hu
  rw [Nat.add_zero] at x1
  clear hn
  go_enter Try.func66, Try.ntmps66
  go_upto_region 4 with fail
  go_wp2_with fail
  go_loopg [5, 6] (gs.length - 1) (fun gk mv i wr => ∃ k m : Nat, k + gk = gs.length ∧ 1 ≤ k ∧ i = .int .i64 k ∧ mv = .int .i64 m ∧ m ≤ 4 ∧ Below w.heap.size w wr ∧ manyF f gs = (gs.drop k).foldl (manySt f) m)
  case atStart => exact ⟨1, n, by omega, by omega, rfl, rfl, n4, Below.refl _ _, HZ.out⟩
  case round =>
    obtain ⟨k, m, hk, hk1, rfl, rfl, hm, hB, hfo⟩ := hrel
    clear HZ x1 n4
    by_cases hlt : k < gs.length
    · obtain ⟨t, ht⟩ : ∃ t, gs[k]? = some t := ⟨_, List.getElem?_eq_getElem hlt⟩
      have hu1 := hu.next hB
      have x1 : wr.cell? ⟨b1, o1 + k, none⟩ = some (.int .i64 t) := by
        rcases hu1 with ⟨h0, _⟩ | ⟨b2, o2, cap, hv, _, h⟩
        · have h9 : (zi gs).length = 0 := by rw [h0]; rfl
          rw [zi_len] at h9; omega
        · injection hv with h1 _ _; injection h1 with h1; injection h1 with h1 h2 _; subst h1; subst h2; exact h k t (zi_at gs k t ht)
      have t4 : t ≤ 4 := hg t (List.mem_of_getElem? ht)
      have hdr : gs.drop k = t :: gs.drop (k + 1) := by
        rw [List.drop_eq_getElem_cons hlt]; congr 1
        rw [List.getElem?_eq_getElem hlt] at ht; exact Option.some.inj ht
      have HS : Hid (manyF f gs = (gs.drop (k + 1)).foldl (manySt f) (manySt f m t)) := by show _ = _; rw [hfo, hdr]; rfl
      have hC := fun W => compare_any f t m t4 hm W
      have k0 : (0 : Int) ≤ (k : Int) := by omega
      have k1 : (k : Int) < (gs.length : Int) := by omega
      have Hu : Hid (Il w (.slice (some ⟨b1, o1, none⟩) gs.length pc) (zi gs)) := hu
      clear hdr hfo hu hu1 ht hg
      by_cases hcm : f m < f t
      · have hq : cmpN (f t) (f m) = 1 := by simp [cmpN, hcm, Nat.not_lt.2 (Nat.le_of_lt hcm)]
        rw [hq] at hC
        have HT : Hid (manySt f m t = t) := by show _ = _; simp [manySt, hcm]
        clear hq hcm
        go_wp2_with (first | (go_at_call 67; refine (hC _).mono ?_; rintro e w1 ⟨rfl, hb1'⟩; have y1 := (hb1'.cell (p := ⟨b1, o1 + k, none⟩) (Nat.lt_of_lt_of_le hb1 hB.size)).trans x1))
        go_roundg (gs.length - (k + 1))
        case measure => omega
        case rel => exact ⟨k + 1, t, by omega, by omega, by go_num, rfl, t4, hB.trans (hb1'.mono hB.size), by rw [HS.out, HT.out]⟩
      · have hq : 0 ≥ (cmpN (f t) (f m)) := by unfold cmpN; split <;> (try split) <;> first | omega | decide
        obtain ⟨z, hz⟩ : ∃ z, cmpN (f t) (f m) = z := ⟨_, rfl⟩
        rw [hz] at hC hq
        have HT : Hid (manySt f m t = m) := by show _ = _; simp [manySt, hcm]
        clear hz hcm
        go_wp2_with (first | (go_at_call 67; refine (hC _).mono ?_; rintro e w1 ⟨rfl, hb1'⟩))
        go_roundg (gs.length - (k + 1))
        case measure => omega
        case rel => exact ⟨k + 1, m, by omega, by omega, by go_num, rfl, hm, hB.trans (hb1'.mono hB.size), by rw [HS.out, HT.out]⟩
    · have hkl : k = gs.length := by omega
      have HT : Hid (manyF f gs = m) := by show _ = _; rw [hfo, hkl, List.drop_length]; rfl
      clear hfo
      subst hkl
      go_wp2
      go_ret
      exact ⟨by rw [HT.out]; rfl, hB⟩
set_option maxHeartbeats 1000000 in
theorem most_any (f : Nat → Nat) (gs : List Nat) (hg : ∀ x ∈ gs, x ≤ 4) (hl : 0 < gs.length) (hl2 : gs.length ≤ 1000) (gv : Value) (w : World) (hu : Il w gv (zi gs)) :
    Calls Try.prog 53 #[.agg (lds f), gv] w fun e W' => e = .returned (.int .i64 (manyF f gs)) ∧ Below w.heap.size w W' := by
  have hb0 : Below w.heap.size w (w.alloc (.cells (lds f) 91)) := (Below.refl _ w).alloc (Nat.le_refl _) _
  have r0 := heap_alloc_new w (.cells (lds f) 91)
  have hM := MaxFunc_any f gs hg hl hl2 gv _ (hu.next hb0)
  obtain ⟨W0, hW0⟩ : ∃ W, w.alloc (.cells (lds f) 91) = W := ⟨_, rfl⟩
  rw [hW0] at hb0 r0 hM
  have HW : Hid (w.alloc (.cells (lds f) 91) = W0) := hW0
  have K1 : Hid (W0.rangeAt w.heap.size 0 (lds f).toList) := blk_range (L := (lds f).toList) r0
  obtain ⟨pa, pc, rfl⟩ := hu.slice
  obtain ⟨R, hR⟩ : ∃ R, manyF f gs = R := ⟨_, rfl⟩
  rw [hR] at hM ⊢
  clear r0 hW0 hu hg hl hl2 hR
  go_enter Try.func53, Try.ntmps53
  go_upto_region 1 with fail
  rw [HW.out]
  clear HW
  go_wp2_with (first
    | (refine wpList_load_mid rfl 91 _ rfl w.heap.size 0 rfl (lds f).toList _ K1.out Try.underlying91 rfl Try.size91 ?_)
    | (go_at_call 66; refine hM.mono ?_; rintro e w1 ⟨rfl, hb1⟩))
  go_ret
  exact ⟨rfl, hb0.trans (hb1.mono hb0.size)⟩
end Go.Proofs.Ytcehmaegnfelhaa
