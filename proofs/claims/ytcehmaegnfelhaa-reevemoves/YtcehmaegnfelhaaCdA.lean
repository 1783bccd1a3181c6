/- Chains, the document's side: in, Check, Load, few, many, walked. -/
import Derived.Test.YtcehmaegnfelhaaRvK
namespace Go.Proofs.Ytcehmaegnfelhaa
open Go.RowKit
attribute [local go_sem ↓] Go.wp_at_zero Go.wp_at_succ

theorem isIn_at {ns : List Int} {x : Int} {k : Nat} (h : ns[k]? = some x) : isIn ns x = true := by
  unfold isIn
  rw [List.contains_iff_mem]
  exact List.mem_of_getElem? h
theorem isIn_no {ns : List Int} {x : Int} (h : ∀ (i : Nat) t, ns[i]? = some t → x ≠ t) : isIn ns x = false := by
  unfold isIn
  cases hc : ns.contains x with
  | false => rfl
  | true =>
    rw [List.contains_iff_mem] at hc
    obtain ⟨i, hi, he⟩ := List.mem_iff_getElem.1 hc
    exact absurd he.symm (h i _ (List.getElem?_eq_getElem hi))
set_option maxHeartbeats 1000000 in
theorem rIn_any (ns : List Int) (x : Int) (u : Value) (w : World) (hu : Il w u ns) (hl : ns.length ≤ 1000) :
    Calls Try.prog 39 #[u, .int .i64 x] w fun e W' => e = .returned (.bool (isIn ns x)) ∧ W' = w := by
  obtain ⟨a, c, rfl⟩ := hu.slice
  obtain ⟨R, hR⟩ : ∃ R, isIn ns x = R := ⟨_, rfl⟩
  have HR : Hid (isIn ns x = R) := hR
  rw [hR]
  clear hR
  go_enter Try.func39, Try.ntmps39
  go_wp2_with fail
  go_loopg [9] ns.length (fun gk i wr => ∃ k : Nat, k + gk = ns.length ∧ i = .int .i64 k ∧ wr = w ∧ ∀ i t, i < k → ns[i]? = some t → x ≠ t)
  case atStart => exact ⟨0, by omega, rfl, rfl, fun i t hi => by omega⟩
  case round =>
    obtain ⟨k, hk, rfl, hwr, hno⟩ := hrel
    subst wr
    have HNO : Hid (∀ i t, i < k → ns[i]? = some t → x ≠ t) := hno
    clear hno
    by_cases hlt : k < ns.length
    · obtain ⟨t, ht⟩ : ∃ t, ns[k]? = some t := ⟨_, List.getElem?_eq_getElem hlt⟩
      obtain ⟨b, o, rfl, hb, x1⟩ := hu.at ht
      have k0 : (0 : Int) ≤ (k : Int) := by omega
      have k1 : (k : Int) < (ns.length : Int) := by omega
      by_cases he : t = x
      · subst he
        have HT : Hid (R = true) := by show _ = _; rw [← HR.out]; exact isIn_at ht
        clear ht
        go_wp2
        go_ret
        exact ⟨by rw [HT.out]; rfl, rfl⟩
      · have hne : (t == x) = false := by simpa using he
        have HT : Hid (∀ i t, i < k + 1 → ns[i]? = some t → x ≠ t) := fun i t' hi ht' => by
          by_cases e : i = k
          · subst e; rw [ht] at ht'; injection ht' with ht'; subst ht'; exact fun h => he h.symm
          · exact HNO.out i t' (by omega) ht'
        clear ht
        go_wp2
        go_roundg (ns.length - (k + 1))
        case measure => omega
        case rel => exact ⟨k + 1, by omega, by go_num, rfl, HT.out⟩
    · have hkl : k = ns.length := by omega
      have HT : Hid (R = false) := by
        show _ = _
        rw [← HR.out]
        exact isIn_no (fun i t ht => HNO.out i t (by rw [hkl]; exact (List.getElem?_eq_some_iff.1 ht).1) ht)
      subst hkl
      go_wp2
      go_ret
      exact ⟨by rw [HT.out]; rfl, rfl⟩
theorem idx23 (a b c d : Int) (k : Nat) (t : Int) (h : [a, b, c, d][k]? = some t) (W : World) : (Instr.index 48 (.agg #[.int .i64 a, .int .i64 b, .int .i64 c, .int .i64 d]) (.int .i64 (k : Int))).run Try.prog W = .ok (.int .i64 t) W := by
  rcases k with _ | _ | _ | _ | k <;> simp at h <;> subst h <;> kernel_rfl
/-- The last group ahead of number k; 0: there is none. -/
def prevG (ns : List Int) (k : Nat) : Int := if k = 0 then 0 else (ns[k - 1]?).getD 0
set_option maxRecDepth 20000 in
set_option maxHeartbeats 2000000 in
theorem rCheck_empty (num : Int) (pa : Option Addr) (pc : Nat) (a b c d : Int) (w : World) :
    Calls Try.prog 30 #[.agg (cf num (.slice pa 0 pc) a b c d)] w fun e W' => e = .returned (.int .i64 (if okC num [] [a, b, c, d] = true then 0 else 4)) ∧ Below w.heap.size w W' := by
  have hb0 : Below w.heap.size w (w.alloc (.cells (cf num (.slice pa 0 pc) a b c d) 55)) := (Below.refl _ w).alloc (Nat.le_refl _) _
  have r0 := heap_alloc_new w (.cells (cf num (.slice pa 0 pc) a b c d) 55)
  obtain ⟨W0, hW0⟩ : ∃ W, w.alloc (.cells (cf num (.slice pa 0 pc) a b c d) 55) = W := ⟨_, rfl⟩
  rw [hW0] at hb0 r0
  have HV : Hid (w.alloc (.cells (cf num (.slice pa 0 pc) a b c d) 55) = W0) := hW0
  have x0 := cellB r0 0 _ rfl
  have x1 := cellB r0 1 _ rfl
  have x2 := cellB r0 2 _ rfl
  have x3 := cellB r0 3 _ rfl
  have x4 := cellB r0 4 _ rfl
  have x5 := cellB r0 5 _ rfl
  obtain ⟨R, hR⟩ : ∃ R : Int, (if okC num [] [a, b, c, d] = true then 0 else 4) = R := ⟨_, rfl⟩
  have HR : Hid ((if okC num [] [a, b, c, d] = true then (0 : Int) else 4) = R) := hR
  rw [hR]
  have hI := fun x => rIn_any [] x (.slice pa 0 pc) W0 (.inl ⟨rfl, pa, pc, rfl⟩) (by decide)
  have hif : ∀ x, isIn [] x = false := fun x => rfl
  simp only [hif] at hI
  have HX : Hid (∀ (k : Nat) (t : Int), [a, b, c, d][k]? = some t → ∀ W, (Instr.index 48 (.agg #[.int .i64 a, .int .i64 b, .int .i64 c, .int .i64 d]) (.int .i64 (k : Int))).run Try.prog W = .ok (.int .i64 t) W) := idx23 a b c d
  clear hW0 r0 hR hif
  by_cases hw : wi num 0 1099511627776 = true
  · obtain ⟨n0, n1⟩ := wi_t hw
    have HR3 : Hid ((if [a, b, c, d].all (ownB []) = true then (0 : Int) else 4) = R) := by
      show _ = _
      rw [← HR.out]
      simp only [okC, hw, Bool.true_and, rise]
    obtain ⟨os, ho⟩ : ∃ os, [a, b, c, d] = os := ⟨_, rfl⟩
    have hol : os.length = 4 := by rw [← ho]; rfl
    rw [ho] at HR3 HX
    have d0 : ¬ num < 0 := by omega
    have d1 : ¬ (1099511627776 : Int) < num := by omega
    clear hw ho HR n0 n1
    go_enter Try.func30, Try.ntmps30
    go_upto_region 1 with fail
    rw [HV.out]
    clear HV
    go_wp2_with fail
    clear x0 d0 d1
    go_loopg [18] 0 (fun gk i wr => gk = 0 ∧ i = .int .i64 0 ∧ wr = W0)
    case atStart => exact ⟨rfl, rfl, rfl⟩
    case round =>
      obtain ⟨_, rfl, hwr⟩ := hrel
      subst wr
      go_wp2_with fail
      go_loopg [46] 4 (fun gk i wr => ∃ k : Nat, k + gk = 4 ∧ i = .int .i64 k ∧ wr = W0 ∧ os.all (ownB []) = (os.drop k).all (ownB []))
      case atStart => exact ⟨0, by omega, rfl, rfl, rfl⟩
      case round =>
        obtain ⟨j, hj, rfl, hwr, hall⟩ := hrel
        subst wr
        have HA : Hid (os.all (ownB []) = (os.drop j).all (ownB [])) := hall
        clear hall
        by_cases hlt : j < 4
        · obtain ⟨t, ht⟩ : ∃ t, os[j]? = some t := ⟨_, List.getElem?_eq_getElem (by omega)⟩
          have hix := HX.out j t ht
          have hdr : os.drop j = t :: os.drop (j + 1) := by
            rw [List.drop_eq_getElem_cons (by omega)]; congr 1
            rw [List.getElem?_eq_getElem (by omega)] at ht; exact Option.some.inj ht
          have HS : Hid (os.all (ownB []) = ((t == 0) && (os.drop (j + 1)).all (ownB []))) := by show _ = _; rw [HA.out, hdr, List.all_cons]; rfl
          have j0 : (0 : Int) ≤ (j : Int) := by omega
          have j1 : (j : Int) < 4 := by omega
          have hIt := hI t
          clear hdr ht HA
          by_cases ht0 : t = 0
          · subst ht0
            have HT : Hid (os.all (ownB []) = (os.drop (j + 1)).all (ownB [])) := by show _ = _; rw [HS.out]; rfl
            clear HS
            go_wp2
            go_roundg (4 - (j + 1))
            case measure => omega
            case rel => exact ⟨j + 1, by omega, by go_num, rfl, HT.out⟩
          · have hne : (t == 0) = false := by simpa using ht0
            have HF : Hid (R = 4) := by show _ = _; rw [← HR3.out, HS.out, hne]; rfl
            clear HS ht0
            go_wp2_with (first
              | (go_at_call 39; refine hIt.mono ?_; rintro e w2 ⟨rfl, h9⟩; subst w2))
            go_ret
            exact ⟨by rw [HF.out]; rfl, hb0⟩
        · have hkl : j = 4 := by omega
          have HF : Hid (R = 0) := by show _ = _; rw [← HR3.out, HA.out, hkl, ← hol, List.drop_length]; rfl
          subst hkl
          go_wp2
          go_ret
          exact ⟨by rw [HF.out]; rfl, hb0⟩
  · have hw' : wi num 0 1099511627776 = false := by simpa using hw
    have HR3 : Hid (R = 4) := by show _ = _; rw [← HR.out]; simp only [okC, hw', Bool.false_and]; rfl
    rcases wi_f hw' with h | h
    · clear hw
      go_enter Try.func30, Try.ntmps30
      go_upto_region 1 with fail
      rw [HV.out]
      clear HV
      go_wp2
      go_ret
      exact ⟨by rw [HR3.out]; rfl, hb0⟩
    · have h2 : ¬ num < 0 := by omega
      clear hw
      go_enter Try.func30, Try.ntmps30
      go_upto_region 1 with fail
      rw [HV.out]
      clear HV
      go_wp2
      go_ret
      exact ⟨by rw [HR3.out]; rfl, hb0⟩
set_option maxRecDepth 20000 in
set_option maxHeartbeats 2000000 in
theorem rCheck_more (num : Int) (gv : Value) (ns : List Int) (a b c d : Int) (w : World) (hu : Il w gv ns) (hl : ns.length ≤ 1000) (hn0 : ns.length ≠ 0) :
    Calls Try.prog 30 #[.agg (cf num gv a b c d)] w fun e W' => e = .returned (.int .i64 (if okC num ns [a, b, c, d] = true then 0 else 4)) ∧ Below w.heap.size w W' := by
  have hb0 : Below w.heap.size w (w.alloc (.cells (cf num gv a b c d) 55)) := (Below.refl _ w).alloc (Nat.le_refl _) _
  have r0 := heap_alloc_new w (.cells (cf num gv a b c d) 55)
  obtain ⟨W0, hW0⟩ : ∃ W, w.alloc (.cells (cf num gv a b c d) 55) = W := ⟨_, rfl⟩
  have hu0 := hu.next hb0
  rw [hW0] at hb0 r0 hu0
  have HV : Hid (w.alloc (.cells (cf num gv a b c d) 55) = W0) := hW0
  have x0 := cellB r0 0 _ rfl
  have x1 := cellB r0 1 _ rfl
  have x2 := cellB r0 2 _ rfl
  have x3 := cellB r0 3 _ rfl
  have x4 := cellB r0 4 _ rfl
  have x5 := cellB r0 5 _ rfl
  obtain ⟨R, hR⟩ : ∃ R : Int, (if okC num ns [a, b, c, d] = true then 0 else 4) = R := ⟨_, rfl⟩
  have HR : Hid ((if okC num ns [a, b, c, d] = true then (0 : Int) else 4) = R) := hR
  rw [hR]
  obtain ⟨pa, pc, rfl⟩ := hu.slice
  have hI := fun x => rIn_any ns x (.slice pa ns.length pc) W0 hu0 hl
  have HX : Hid (∀ (k : Nat) (t : Int), [a, b, c, d][k]? = some t → ∀ W, (Instr.index 48 (.agg #[.int .i64 a, .int .i64 b, .int .i64 c, .int .i64 d]) (.int .i64 (k : Int))).run Try.prog W = .ok (.int .i64 t) W) := idx23 a b c d
  have HU : Hid (Il W0 (.slice pa ns.length pc) ns) := hu0
  clear hW0 r0 hR hu hu0
  by_cases hw : wi num 0 1099511627776 = true
  · obtain ⟨n0, n1⟩ := wi_t hw
    have HR2 : Hid ((if (rise 0 ns && [a, b, c, d].all (ownB ns)) = true then (0 : Int) else 4) = R) := by
      show _ = _
      rw [← HR.out]
      simp only [okC, hw, Bool.true_and]
    obtain ⟨os, ho⟩ : ∃ os, [a, b, c, d] = os := ⟨_, rfl⟩
    have hol : os.length = 4 := by rw [← ho]; rfl
    rw [ho] at HR2 HX
    have d0 : ¬ num < 0 := by omega
    have d1 : ¬ (1099511627776 : Int) < num := by omega
    clear hw ho HR n0 n1
    go_enter Try.func30, Try.ntmps30
    go_upto_region 1 with fail
    rw [HV.out]
    clear HV
    go_wp2_with fail
    clear x0 d0 d1
    go_loopg [18] ns.length (fun gk i wr => ∃ k : Nat, k + gk = ns.length ∧ i = .int .i64 k ∧ wr = W0 ∧ rise 0 ns = rise (prevG ns k) (ns.drop k) ∧ 0 ≤ prevG ns k)
    case atStart => exact ⟨0, by omega, rfl, rfl, rfl, by simp [prevG]⟩
    case round =>
      obtain ⟨k, hk, rfl, hwr, hri, hp0⟩ := hrel
      subst wr
      have HRI : Hid (rise 0 ns = rise (prevG ns k) (ns.drop k)) := hri
      clear hri
      by_cases hlt : k < ns.length
      · obtain ⟨t, ht⟩ : ∃ t, ns[k]? = some t := ⟨_, List.getElem?_eq_getElem hlt⟩
        obtain ⟨bb, oo, hpa, _, y1⟩ := HU.out.at ht
        subst hpa
        have hdr : ns.drop k = t :: ns.drop (k + 1) := by
          rw [List.drop_eq_getElem_cons hlt]; congr 1
          rw [List.getElem?_eq_getElem hlt] at ht; exact Option.some.inj ht
        have HRS : Hid (rise 0 ns = ((decide (prevG ns k < t) && decide (t ≤ 4)) && rise t (ns.drop (k + 1)))) := by show _ = _; rw [HRI.out, hdr]; rfl
        have hpn : prevG ns (k + 1) = t := by unfold prevG; rw [if_neg (by omega)]; simp [ht]
        have k0 : (0 : Int) ≤ (k : Int) := by omega
        have k1 : (k : Int) < (ns.length : Int) := by omega
        by_cases hbad : prevG ns k < t ∧ t ≤ 4
        · have HNX : Hid (rise 0 ns = rise (prevG ns (k + 1)) (ns.drop (k + 1)) ∧ 0 ≤ prevG ns (k + 1)) := by
            refine ⟨?_, by rw [hpn]; omega⟩
            rw [HRS.out, hpn, decide_eq_true hbad.1, decide_eq_true hbad.2]; rfl
          have t1 : ¬ t < 1 := by omega
          have t2 : ¬ (4 : Int) < t := by omega
          clear HRI HRS hdr hpn
          by_cases hk0 : k = 0
          · subst hk0
            have y1' : W0.cell? ⟨bb, oo, none⟩ = some (.int .i64 t) := by simpa using y1
            clear ht hbad hp0 y1
            go_wp2
            go_roundg (ns.length - (0 + 1))
            case measure => omega
            case rel => exact ⟨0 + 1, by omega, by go_num, rfl, HNX.out⟩
          · obtain ⟨m, rfl⟩ : ∃ m, k = m + 1 := ⟨k - 1, by omega⟩
            obtain ⟨u, hu⟩ : ∃ u, ns[m]? = some u := ⟨_, List.getElem?_eq_getElem (by omega)⟩
            obtain ⟨b2, o2, hpa, _, y2⟩ := HU.out.at hu
            injection hpa with hpa
            injection hpa with e1 e2 _
            subst e1 e2
            have hpv : prevG ns (m + 1) = u := by unfold prevG; rw [if_neg (by omega)]; simp [hu]
            rw [hpv] at hbad
            have t3 : ¬ t ≤ u := by omega
            have m0 : (0 : Int) ≤ (m : Int) := by omega
            have m1 : (m : Int) < (ns.length : Int) := by omega
            have kp : (0 : Int) < ((m + 1 : Nat) : Int) := by omega
            have e1 : IntKind.i64.wrap (((m + 1 : Nat) : Int) - 1) = (m : Int) := by simp [IntKind.wrap, IntKind.bits, IntKind.signed]; omega
            obtain ⟨K, hK⟩ : ∃ K : Nat, m + 1 = K := ⟨_, rfl⟩
            have e2 : (K : Int) - 1 = (m : Int) := by omega
            rw [hK] at e1 kp k0 k1 y1 ⊢
            have HK : Hid (m + 1 = K) := hK
            rw [hK] at HNX
            clear ht hbad hp0 hu hpv hK
            go_wp2
            go_roundg (ns.length - (K + 1))
            case measure => omega
            case rel => exact ⟨K + 1, by have := HK.out; omega, by go_num, rfl, HNX.out⟩
        · have HF : Hid (R = 4) := by
            show _ = _
            have hf : (decide (prevG ns k < t) && decide (t ≤ 4)) = false := by simp; omega
            rw [← HR2.out, HRS.out, hf]
            rfl
          clear HRI HRS hdr hpn
          by_cases t1 : t < 1
          · by_cases hk0 : k = 0
            · subst hk0
              have y1' : W0.cell? ⟨bb, oo, none⟩ = some (.int .i64 t) := by simpa using y1
              clear ht hbad hp0 y1
              go_wp2
              go_ret
              exact ⟨by rw [HF.out]; rfl, hb0⟩
            · clear ht hbad hp0
              go_wp2
              go_ret
              exact ⟨by rw [HF.out]; rfl, hb0⟩
          · by_cases t2 : 4 < t
            · by_cases hk0 : k = 0
              · subst hk0
                have y1' : W0.cell? ⟨bb, oo, none⟩ = some (.int .i64 t) := by simpa using y1
                clear ht hbad hp0 y1
                go_wp2
                go_ret
                exact ⟨by rw [HF.out]; rfl, hb0⟩
              · clear ht hbad hp0
                go_wp2
                go_ret
                exact ⟨by rw [HF.out]; rfl, hb0⟩
            · have hk0 : k ≠ 0 := by
                rintro rfl
                have : prevG ns 0 = 0 := rfl
                omega
              obtain ⟨m, rfl⟩ : ∃ m, k = m + 1 := ⟨k - 1, by omega⟩
              obtain ⟨u, hu⟩ : ∃ u, ns[m]? = some u := ⟨_, List.getElem?_eq_getElem (by omega)⟩
              obtain ⟨b2, o2, hpa, _, y2⟩ := HU.out.at hu
              injection hpa with hpa
              injection hpa with e1 e2 _
              subst e1 e2
              have hpv : prevG ns (m + 1) = u := by unfold prevG; rw [if_neg (by omega)]; simp [hu]
              rw [hpv] at hbad
              have t3 : t ≤ u := by omega
              have m0 : (0 : Int) ≤ (m : Int) := by omega
              have m1 : (m : Int) < (ns.length : Int) := by omega
              have kp : (0 : Int) < ((m + 1 : Nat) : Int) := by omega
              have e1 : IntKind.i64.wrap (((m + 1 : Nat) : Int) - 1) = (m : Int) := by simp [IntKind.wrap, IntKind.bits, IntKind.signed]; omega
              obtain ⟨K, hK⟩ : ∃ K : Nat, m + 1 = K := ⟨_, rfl⟩
              have e2 : (K : Int) - 1 = (m : Int) := by omega
              rw [hK] at e1 kp k0 k1 y1 ⊢
              clear ht hbad hp0 hu hpv hK hk0
              go_wp2
              go_ret
              exact ⟨by rw [HF.out]; rfl, hb0⟩
      · have hkl : k = ns.length := by omega
        have HRT : Hid (rise 0 ns = true) := by show _ = _; rw [HRI.out, hkl, List.drop_length]; rfl
        have HR3 : Hid ((if os.all (ownB ns) = true then (0 : Int) else 4) = R) := by show _ = _; rw [← HR2.out, HRT.out, Bool.true_and]
        subst hkl
        clear HRI hp0 HRT HR2
        go_wp2_with fail
        go_loopg [46] 4 (fun gk i wr => ∃ k : Nat, k + gk = 4 ∧ i = .int .i64 k ∧ wr = W0 ∧ os.all (ownB ns) = (os.drop k).all (ownB ns))
        case atStart => exact ⟨0, by omega, rfl, rfl, rfl⟩
        case round =>
          obtain ⟨j, hj, rfl, hwr, hall⟩ := hrel
          subst wr
          have HA : Hid (os.all (ownB ns) = (os.drop j).all (ownB ns)) := hall
          clear hall
          by_cases hlt : j < 4
          · obtain ⟨t, ht⟩ : ∃ t, os[j]? = some t := ⟨_, List.getElem?_eq_getElem (by omega)⟩
            have hix := HX.out j t ht
            have hdr : os.drop j = t :: os.drop (j + 1) := by
              rw [List.drop_eq_getElem_cons (by omega)]; congr 1
              rw [List.getElem?_eq_getElem (by omega)] at ht; exact Option.some.inj ht
            have HS : Hid (os.all (ownB ns) = (ownB ns t && (os.drop (j + 1)).all (ownB ns))) := by show _ = _; rw [HA.out, hdr, List.all_cons]
            have j0 : (0 : Int) ≤ (j : Int) := by omega
            have j1 : (j : Int) < 4 := by omega
            have hIt := hI t
            clear hdr ht HA
            have ho1 : ownB ns t = isIn ns t := by unfold ownB; rw [if_neg hn0]
            rw [ho1] at HS
            have hq0 : ((ns.length : Int) == 0) = false := by rw [beq_eq_false_iff_ne]; omega
            obtain ⟨B, hB⟩ : ∃ B, isIn ns t = B := ⟨_, rfl⟩
            rw [hB] at hIt HS
            clear hB ho1
            cases B with
            | true =>
              have HT : Hid (os.all (ownB ns) = (os.drop (j + 1)).all (ownB ns)) := by show _ = _; rw [HS.out]; rfl
              clear HS
              go_wp2_with (first
                | (go_at_call 39; refine hIt.mono ?_; rintro e w2 ⟨rfl, h9⟩; subst w2))
              go_roundg (4 - (j + 1))
              case measure => omega
              case rel => exact ⟨j + 1, by omega, by go_num, rfl, HT.out⟩
            | false =>
              have HF : Hid (R = 4) := by show _ = _; rw [← HR3.out, HS.out]; rfl
              clear HS
              go_wp2_with (first
                | (go_at_call 39; refine hIt.mono ?_; rintro e w2 ⟨rfl, h9⟩; subst w2))
              go_ret
              exact ⟨by rw [HF.out]; rfl, hb0⟩
          · have hkl : j = 4 := by omega
            have HF : Hid (R = 0) := by show _ = _; rw [← HR3.out, HA.out, hkl, ← hol, List.drop_length]; rfl
            subst hkl
            go_wp2
            go_ret
            exact ⟨by rw [HF.out]; rfl, hb0⟩
  · have hw' : wi num 0 1099511627776 = false := by simpa using hw
    have HR3 : Hid (R = 4) := by show _ = _; rw [← HR.out]; simp only [okC, hw', Bool.false_and]; rfl
    rcases wi_f hw' with h | h
    · clear hw
      go_enter Try.func30, Try.ntmps30
      go_upto_region 1 with fail
      rw [HV.out]
      clear HV
      go_wp2
      go_ret
      exact ⟨by rw [HR3.out]; rfl, hb0⟩
    · have h2 : ¬ num < 0 := by omega
      clear hw
      go_enter Try.func30, Try.ntmps30
      go_upto_region 1 with fail
      rw [HV.out]
      clear HV
      go_wp2
      go_ret
      exact ⟨by rw [HR3.out]; rfl, hb0⟩
theorem rCheck_any (num : Int) (gv : Value) (ns : List Int) (a b c d : Int) (w : World) (hu : Il w gv ns) (hl : ns.length ≤ 1000) :
    Calls Try.prog 30 #[.agg (cf num gv a b c d)] w fun e W' => e = .returned (.int .i64 (if okC num ns [a, b, c, d] = true then 0 else 4)) ∧ Below w.heap.size w W' := by
  by_cases h0 : ns.length = 0
  · have := List.length_eq_zero_iff.1 h0
    subst this
    obtain ⟨pa, pc, rfl⟩ := hu.slice
    exact rCheck_empty num pa pc a b c d w
  · exact rCheck_more num gv ns a b c d w hu hl h0
end Go.Proofs.Ytcehmaegnfelhaa
