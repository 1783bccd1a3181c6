/- Chains: Check, isCommand, fits, walked. -/
import Derived.Test.YtcehmaegnfelhaaChA
namespace Go.Proofs.Ytcehmaegnfelhaa
open Go.RowKit
attribute [local go_sem ↓] Go.wp_at_zero Go.wp_at_succ

/-- A configuration's cells. -/
abbrev cf (num : Int) (gv : Value) (a b c d : Int) : Array Value := #[.int .i64 num, gv, .int .i64 a, .int .i64 b, .int .i64 c, .int .i64 d]
theorem cf_at (num : Int) (gv : Value) (a b c d : Int) (k : Nat) (t : Int) (h : [a, b, c, d][k]? = some t) : (cf num gv a b c d)[2 + k]? = some (.int .i64 t) := by
  rcases k with _ | _ | _ | _ | k <;> simp at h <;> subst h <;> rfl
/-- Is it a configuration? -/
def okC (num : Int) (ns os : List Int) : Bool := (wi num 0 1099511627776 && rise 0 ns) && os.all (ownB ns)
set_option maxHeartbeats 2000000 in
theorem Check_any (num : Int) (gv : Value) (ns : List Int) (a b c d : Int) (w : World) (hu : Il w gv ns) (hl : ns.length ≤ 1000) :
    Calls Try.prog 29 #[.agg (cf num gv a b c d)] w fun e W' => e = .returned (.int .i64 (if okC num ns [a, b, c, d] = true then 0 else 4)) ∧ Below w.heap.size w W' := by
  have hb0 : Below w.heap.size w (w.alloc (.cells (cf num gv a b c d) 50)) := (Below.refl _ w).alloc (Nat.le_refl _) _
  have r0 := heap_alloc_new w (.cells (cf num gv a b c d) 50)
  obtain ⟨W0, hW0⟩ : ∃ W, w.alloc (.cells (cf num gv a b c d) 50) = W := ⟨_, rfl⟩
  have hu0 := hu.next hb0
  rw [hW0] at hb0 r0 hu0
  have hcell : ∀ W', Below W0.heap.size W0 W' → ∀ (k : Nat) t, [a, b, c, d][k]? = some t → W'.cell? ⟨w.heap.size, 2 + k, none⟩ = some (.int .i64 t) := by
    intro W' h k t ht
    have r' := (h.block w.heap.size (Array.getElem?_eq_some_iff.1 r0).1).trans r0
    exact cellB r' _ _ (cf_at num gv a b c d k t ht)
  have hcg : ∀ W', Below W0.heap.size W0 W' → W'.cell? ⟨w.heap.size, 1, none⟩ = some gv := by
    intro W' h
    have r' := (h.block w.heap.size (Array.getElem?_eq_some_iff.1 r0).1).trans r0
    exact cellB r' 1 _ rfl
  have c0 : W0.cell? ⟨w.heap.size, 0, none⟩ = some (.int .i64 num) := cellB r0 0 _ rfl
  have c1 := hcg W0 (Below.refl _ _)
  have hA := areGroups_any ns gv W0 hu0 hl
  have HC : Hid (∀ W', Below W0.heap.size W0 W' → ∀ (k : Nat) t, [a, b, c, d][k]? = some t → W'.cell? ⟨w.heap.size, 2 + k, none⟩ = some (.int .i64 t)) := hcell
  have HG : Hid (∀ W', Below W0.heap.size W0 W' → W'.cell? ⟨w.heap.size, 1, none⟩ = some gv) := hcg
  have HW : Hid (w.alloc (.cells (cf num gv a b c d) 50) = W0) := hW0
  clear r0 hcell hcg hW0
  by_cases h1 : wi num 0 1099511627776 = true
  · by_cases h2 : rise 0 ns = true
    · rw [show okC num ns [a, b, c, d] = [a, b, c, d].all (ownB ns) by simp only [okC, h1, h2, Bool.true_and]]
      obtain ⟨os, ho⟩ : ∃ os, [a, b, c, d] = os := ⟨_, rfl⟩
      have hol : os.length = 4 := by rw [← ho]; rfl
      rw [ho] at HC ⊢
      rw [h2] at hA
      obtain ⟨pa, pc, rfl⟩ := hu.slice
      obtain ⟨R, hR⟩ : ∃ R : Int, (if os.all (ownB ns) = true then 0 else 4) = R := ⟨_, rfl⟩
      rw [hR]
      have HZ : Hid ((if os.all (ownB ns) = true then (0 : Int) else 4) = R) := hR
      clear ho h2 hR
      go_enter Try.func29, Try.ntmps29
      go_upto_region 1 with fail
      rw [HW.out]
      clear HW
      go_upto_region 4 with (first
        | (go_at_call 36; refine (within_any _ _ _ _).mono ?_; rintro e w1 ⟨rfl, h9⟩; subst w1)
        | (go_at_call 37; refine hA.mono ?_; rintro e w2 ⟨rfl, h9⟩; subst w2))
      clear hA
      go_loopg [14] 4 (fun gk i wr => ∃ k : Nat, k + gk = 4 ∧ i = .int .i64 k ∧ Below W0.heap.size W0 wr ∧ os.all (ownB ns) = (os.drop k).all (ownB ns))
      case atStart => exact ⟨0, by omega, rfl, Below.refl _ _, rfl⟩
      case round =>
        obtain ⟨k, hk, rfl, hB, hall⟩ := hrel
        have HA : Hid (os.all (ownB ns) = (os.drop k).all (ownB ns)) := hall
        clear hall c0 c1
        by_cases hlt : k < 4
        · obtain ⟨t, ht⟩ : ∃ t, os[k]? = some t := ⟨_, List.getElem?_eq_getElem (by omega)⟩
          have x1 := HC.out _ hB k t ht
          have x2 := HG.out _ hB
          have hM := fun n => mayOwn_any ns t _ (wr.drewN n) (hu0.next (below_drewN hB n)) hl
          have hdr : os.drop k = t :: os.drop (k + 1) := by
            rw [List.drop_eq_getElem_cons (by omega)]; congr 1
            rw [List.getElem?_eq_getElem (by omega)] at ht; exact Option.some.inj ht
          have HS : Hid (os.all (ownB ns) = (ownB ns t && (os.drop (k + 1)).all (ownB ns))) := by show _ = _; rw [HA.out, hdr, List.all_cons]
          have k0 : (0 : Int) ≤ (k : Int) := by omega
          have k1 : (k : Int) < 4 := by omega
          have k2 : k < 4 := hlt
          clear hdr ht HA hu0 hu hol
          by_cases hq : ownB ns t = true
          · rw [hq] at hM
            have HT : Hid (os.all (ownB ns) = (os.drop (k + 1)).all (ownB ns)) := by show _ = _; rw [HS.out, hq, Bool.true_and]
            clear HS hq
            go_upto_region 6 with fail
            go_quiet (first | (go_at_call 38; refine Calls.quiet_of_same (hM _)))
            go_wp2
            go_roundg (4 - (k + 1))
            case measure => omega
            case rel => exact ⟨k + 1, by omega, by go_num, below_drewN hB _, HT.out⟩
          · have hq' : ownB ns t = false := by simpa using hq
            rw [hq'] at hM
            have HT : Hid (os.all (ownB ns) = false) := by show _ = _; rw [HS.out, hq', Bool.false_and]
            clear HS hq hq'
            go_upto_region 6 with fail
            go_quiet (first | (go_at_call 38; refine Calls.quiet_of_same (hM _)))
            go_wp2
            go_ret
            exact ⟨by rw [← HZ.out, HT.out]; rfl, hb0.trans ((below_drewN hB _).mono hb0.size)⟩
        · have hkl : k = 4 := by omega
          have HT : Hid (os.all (ownB ns) = true) := by show _ = _; rw [HA.out, hkl, ← hol, List.drop_length]; rfl
          clear HA
          subst hkl
          go_wp2
          go_ret
          exact ⟨by rw [← HZ.out, HT.out]; rfl, hb0.trans (hB.mono hb0.size)⟩
    · have h2' : rise 0 ns = false := by simpa using h2
      rw [show okC num ns [a, b, c, d] = false by simp only [okC, h1, h2', Bool.true_and, Bool.false_and]]
      rw [h2'] at hA
      obtain ⟨pa, pc, rfl⟩ := hu.slice
      clear h2 h2'
      go_enter Try.func29, Try.ntmps29
      go_upto_region 1 with fail
      rw [HW.out]
      clear HW
      go_wp2_with (first
        | (go_at_call 36; refine (within_any _ _ _ _).mono ?_; rintro e w1 ⟨rfl, h9⟩; subst w1)
        | (go_at_call 37; refine hA.mono ?_; rintro e w2 ⟨rfl, h9⟩; subst w2))
      go_ret
      exact ⟨rfl, hb0⟩
  · have h1' : wi num 0 1099511627776 = false := by simpa using h1
    rw [show okC num ns [a, b, c, d] = false by simp only [okC, h1', Bool.false_and]]
    obtain ⟨pa, pc, rfl⟩ := hu.slice
    clear h1
    go_enter Try.func29, Try.ntmps29
    go_upto_region 1 with fail
    rw [HW.out]
    clear HW
    go_wp2_with (first
      | (go_at_call 36; refine (within_any _ _ _ _).mono ?_; rintro e w1 ⟨rfl, h9⟩; subst w1))
    go_ret
    exact ⟨rfl, hb0⟩
/-- Is it a command by itself? -/
def isCmd (k g s : Int) : Bool := (wi k 1 3 && wi g 1 4) && wi s 0 (if k = 3 then 3 else 0)
set_option maxHeartbeats 2000000 in
theorem isCommand_any (k g s : Int) (w : World) : Calls Try.prog 31 #[.agg #[.int .i64 k, .int .i64 g, .int .i64 s]] w fun e W' => e = .returned (.bool (isCmd k g s)) ∧ Below w.heap.size w W' := by
  have hb0 : Below w.heap.size w (w.alloc (.cells #[.int .i64 k, .int .i64 g, .int .i64 s] 42)) := (Below.refl _ w).alloc (Nat.le_refl _) _
  by_cases hk : k = 3
  · subst hk
    cases h2 : wi g 1 4
    · rw [show isCmd 3 g s = false by simp [isCmd, h2]]
      go_enter Try.func31, Try.ntmps31
      go_wp2_with (go_at_call 36; refine (within_any _ _ _ _).mono ?_; rintro e w1 ⟨rfl, rfl⟩)
      go_ret
      exact ⟨rfl, hb0⟩
    · rw [show isCmd 3 g s = wi s 0 3 by simp [isCmd, h2, show wi 3 1 3 = true from rfl]]
      go_enter Try.func31, Try.ntmps31
      go_wp2_with (go_at_call 36; refine (within_any _ _ _ _).mono ?_; rintro e w1 ⟨rfl, rfl⟩)
      go_ret
      exact ⟨rfl, hb0⟩
  · have hq : (k == 3) = false := by simp [hk]
    cases h1 : wi k 1 3
    · rw [show isCmd k g s = false by simp [isCmd, h1]]
      go_enter Try.func31, Try.ntmps31
      go_wp2_with (go_at_call 36; refine (within_any _ _ _ _).mono ?_; rintro e w1 ⟨rfl, rfl⟩)
      go_ret
      exact ⟨rfl, hb0⟩
    · cases h2 : wi g 1 4
      · rw [show isCmd k g s = false by simp [isCmd, h1, h2]]
        go_enter Try.func31, Try.ntmps31
        go_wp2_with (go_at_call 36; refine (within_any _ _ _ _).mono ?_; rintro e w1 ⟨rfl, rfl⟩)
        go_ret
        exact ⟨rfl, hb0⟩
      · rw [show isCmd k g s = wi s 0 0 by simp [isCmd, h1, h2, hk]]
        go_enter Try.func31, Try.ntmps31
        go_wp2_with (go_at_call 36; refine (within_any _ _ _ _).mono ?_; rintro e w1 ⟨rfl, rfl⟩)
        go_ret
        exact ⟨rfl, hb0⟩
end Go.Proofs.Ytcehmaegnfelhaa
