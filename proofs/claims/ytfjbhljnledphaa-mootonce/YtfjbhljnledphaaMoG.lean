/- Moots: MootOnce, walked. -/
import Derived.Test.YtfjbhljnledphaaMoF
namespace Go.Proofs.Ytfjbhljnledphaa
open Go.RowKit
attribute [local go_sem ↓] Go.wp_at_zero Go.wp_at_succ

set_option maxRecDepth 20000 in
set_option maxHeartbeats 4000000 in
theorem once_any (l : List S5) (v : Value) (w : World) (h : Ss w v l) :
    Calls Try.prog 4 #[v] w fun e W' => e = .returned (.bool true) ∧ Below w.heap.size w W' := by
  have hO := fun W => one_any W
  have hN := MNew_any w
  obtain ⟨va, vc, rfl⟩ := h.slice
  have HS : Hid (Ss w (.slice va l.length vc) l) := h
  clear h
  by_cases hbig : 80 < l.length
  · have hq : (80 : Int) < (l.length : Int) := by omega
    go_enter Try.func4, Try.ntmps4
    go_wp2_with (first
      | (go_at_call 5; refine hN.mono ?_; rintro e w1 ⟨M, B, rfl, hM0, hb1⟩; clear hM0)
      | (go_at_call 6; refine (hO _).mono ?_; rintro e w5 ⟨rfl, hb5⟩; have hB5 := hb1.trans (hb5.mono hb1.size)))
    go_ret
    exact ⟨rfl, hB5⟩
  have hq : ¬ (80 : Int) < (l.length : Int) := by omega
  obtain ⟨i0, hi, hz0, hz1, hz2⟩ := info_parts (show (Try.prog.info? 33).map (fun i => (i.zero, i.size, i.bytes)) = some (some (.agg #[.int .i64 0, .int .i64 0, .int .i64 0, .int .i64 0, .int .i64 0]), 5, 40) by kernel_rfl)
  have HINF : Hid (Try.prog.info? 33 = some i0 ∧ i0.zero = some (.agg #[.int .i64 0, .int .i64 0, .int .i64 0, .int .i64 0, .int .i64 0]) ∧ i0.size = 5 ∧ i0.bytes = 40) := ⟨hi, hz0, hz1, hz2⟩
  clear hi hz0 hz1 hz2
  have HLN : Hid (l.length ≤ 80) := by show _ ≤ _; omega
  clear hbig
  go_enter Try.func4, Try.ntmps4
  go_upto_region 2 with (first
    | (go_at_call 5; refine hN.mono ?_; rintro e w1 ⟨M, B, rfl, hM0, hb1⟩; have HR0 : Hid (Ro w M B (.slice none 0 0) (.slice none 0 0) [] [] zK (.slice none 0 0) [] w1) := ⟨hM0, hb1, World.ownsRow_nil _ _ _ _, (fun k hk => by cases hk)⟩; clear hM0 hb1))
  clear hN
  go_wp2_with fail
  clear hq
  go_loopg [4, 30] l.length (fun gk u i wr => ∃ (j : Nat) (vv ut : Value) (L : List Rc) (T : List C3) (cl : List Kn) (D : List S5), j + gk = l.length ∧ i = .int .i64 j ∧ Ro w M B vv ut L T cl u D wr ∧ Inv D cl ∧ D.length ≤ j)
  case atStart => exact ⟨0, _, _, [], [], zK, [], by omega, rfl, HR0.out, (fun d hd => by cases hd), Nat.le_refl _⟩
  case round =>
    obtain ⟨j, vv, ut, L, T, cl, D, hj, rfl, hR, hInv, hDj⟩ := hrel
    clear HR0
    by_cases hlt : j < l.length
    · obtain ⟨x, hx⟩ : ∃ x, l[j]? = some x := ⟨_, List.getElem?_eq_getElem hlt⟩
      obtain ⟨c1, n1, k1, g1, s1⟩ := x
      obtain ⟨cb, co, hva, y0, y1, y2, y3, y4⟩ := (HS.out.next hR.bel).at hx
      subst hva
      obtain ⟨ra, rc, rfl⟩ := owns_slice hR.row
      have hbA := (Below.refl wr.heap.size wr).alloc (Nat.le_refl _) (.cells #[.int .i64 c1, .int .i64 n1, .int .i64 k1, .int .i64 g1, .int .i64 s1] 33)
      have hRA := hR.next hbA
      have rD := heap_alloc_new wr (.cells #[.int .i64 c1, .int .i64 n1, .int .i64 k1, .int .i64 g1, .int .i64 s1] 33)
      have hnD : ¬ MOwn M B vv ut L wr.heap.size := fun e => by have := (hR.mt.own_lt e).2; omega
      obtain ⟨⟨a, b, E⟩, hr⟩ : ∃ r, moR (cls L) cl c1 n1 k1 g1 s1 = r := ⟨_, rfl⟩
      have hDo := MDo_told hRA.mt rfl hr
      obtain ⟨WA, hWA⟩ : ∃ W, wr.alloc (.cells #[.int .i64 c1, .int .i64 n1, .int .i64 k1, .int .i64 g1, .int .i64 s1] 33) = W := ⟨_, rfl⟩
      have hDs : wr.heap.size < WA.heap.size := by rw [← hWA]; simp
      rw [hWA] at rD hRA hDo
      obtain ⟨Dk, hD⟩ : ∃ D, wr.heap.size = D := ⟨_, rfl⟩
      have HV : Hid (wr.alloc (.cells #[.int .i64 c1, .int .i64 n1, .int .i64 k1, .int .i64 g1, .int .i64 s1] 33) = WA) := hWA
      have HD : Hid (wr.heap.size = Dk) := hD
      rw [hD] at rD hnD hDs
      have f0 := cellB rD 0 _ rfl
      have f1 := cellB rD 1 _ rfl
      have f2 := cellB rD 2 _ rfl
      have f3 := cellB rD 3 _ rfl
      have f4 := cellB rD 4 _ rfl
      have HRA : Hid (Ro w M B vv ut L T cl (.slice ra D.length rc) D WA) := hRA
      have HRD : Hid (WA.heap[Dk]? = some (.cells #[.int .i64 c1, .int .i64 n1, .int .i64 k1, .int .i64 g1, .int .i64 s1] 33) ∧ ¬ MOwn M B vv ut L Dk ∧ Dk < WA.heap.size) := ⟨rD, hnD, hDs⟩
      have HINV : Hid (Inv D cl ∧ D.length ≤ j ∧ moR (cls L) cl c1 n1 k1 g1 s1 = (a, b, E)) := ⟨hInv, hDj, hr⟩
      have j0 : (0 : Int) ≤ (j : Int) := by omega
      have j1 : (j : Int) < (l.length : Int) := by omega
      have hgk : gk = l.length - j := by omega
      subst hgk
      clear hx hR hbA hRA rD hnD hWA hDs hD hInv hDj hr
      go_upto_region 8 with fail
      rw [HV.out, HD.out]
      clear HV y0 y1 y2 y3 y4 HD
      go_upto_region 9 with (first
        | (go_at_call 8; refine hDo.mono ?_; rintro e w2 ⟨rfl, v2, ut2, L2, T2, d1, d2, d3⟩; have rD2 : w2.heap[Dk]? = some (.cells #[.int .i64 c1, .int .i64 n1, .int .i64 k1, .int .i64 g1, .int .i64 s1] 33) := (d3.block Dk HRD.out.2.2 HRD.out.2.1).trans HRD.out.1; have HR2 : Hid (Ro w M B v2 ut2 L2 T2 (moC (cls L) cl c1 n1 k1 g1 s1) (.slice ra D.length rc) D w2) := HRA.out.did d2 d3; have HD2 : Hid (w2.heap[Dk]? = some (.cells #[.int .i64 c1, .int .i64 n1, .int .i64 k1, .int .i64 g1, .int .i64 s1] 33) ∧ ¬ MOwn M B v2 ut2 L2 Dk) := ⟨rD2, fun e => (d3.new Dk e).elim HRD.out.2.1 (fun q => by have := HRD.out.2.2; omega)⟩; clear rD2 d1 d2 d3))
      clear hDo f0 f1 f2 f3 f4
      have hcl8 : cl.length = 8 := HRA.out.mt.len
      have hInv2 := HINV.out.1.keep hcl8 (cls L) c1 n1 k1 g1 s1
      have HI2 : Hid (Inv D (moC (cls L) cl c1 n1 k1 g1 s1)) := hInv2
      obtain ⟨CL, hCL⟩ : ∃ CL, moC (cls L) cl c1 n1 k1 g1 s1 = CL := ⟨_, rfl⟩
      have HAG : Hid (E = 0 → isA c1 n1 = true ∧ n1 = ((kn CL c1).1 : Int) ∧ ∀ cs' k' g' s', moR cs' CL c1 n1 k' g' s' = (a, false, 0) ∧ moN CL c1 n1 = false) := by
        intro e0
        obtain ⟨q1, _, q3, q4⟩ := mo_again hcl8 (by rw [HINV.out.2.2, e0] : moR (cls L) cl c1 n1 k1 g1 s1 = (a, b, 0))
        rw [hCL] at q3 q4
        exact ⟨q1, q3, q4⟩
      rw [hCL] at HR2 HI2
      clear hInv2 hcl8 hCL HRA HRD
      obtain ⟨WB, rfl⟩ : ∃ WB, WB = wr := ⟨_, rfl⟩
      by_cases hE1 : E = 1
      · subst hE1
        go_wp2_with fail
        go_roundg (l.length - (j + 1))
        case measure => omega
        case rel => exact ⟨j + 1, v2, ut2, L2, T2, CL, D, by omega, by go_num, HR2.out, HI2.out, by have := HINV.out.2.1; omega⟩
      have hE1' : (E == 1) = false := by rw [beq_eq_false_iff_ne]; exact hE1
      have HE1 : Hid (E ≠ 1) := hE1
      clear hE1
      go_wp2_with fail
      go_loopg [50] D.length (fun gk i wr => ∃ p : Nat, p + gk = D.length ∧ i = .int .i64 p ∧ Below w2.heap.size w2 wr)
      case atStart => exact ⟨0, by omega, rfl, Below.refl _ _⟩
      case round =>
        obtain ⟨p, hp, rfl, hB⟩ := hrel
        have rS := (hB.block Dk (Array.getElem?_eq_some_iff.1 HD2.out.1).1).trans HD2.out.1
        by_cases hpl : p < D.length
        · obtain ⟨y, hy⟩ : ∃ y, D[p]? = some y := ⟨_, List.getElem?_eq_getElem hpl⟩
          have hyD : y ∈ D := List.mem_of_getElem? hy
          obtain ⟨hy1, hy2⟩ := HINV.out.1 y hyD
          obtain ⟨dc, dn, dk, dg, ds⟩ := y
          obtain ⟨ub, uo, hua, z0, z1, z2, z3, z4⟩ := ((Ss_owns HR2.out.row).next hB).at hy
          subst hua
          have hbC := (Below.refl wr.heap.size wr).alloc (Nat.le_refl _) (.cells #[.int .i64 dc, .int .i64 dn, .int .i64 dk, .int .i64 dg, .int .i64 ds] 33)
          have rC := heap_alloc_new wr (.cells #[.int .i64 dc, .int .i64 dn, .int .i64 dk, .int .i64 dg, .int .i64 ds] 33)
          have rSC := (hbC.block Dk (Array.getElem?_eq_some_iff.1 rS).1).trans rS
          have hBC := hB.trans (hbC.mono hB.size)
          obtain ⟨WC, hWC⟩ : ∃ W, wr.alloc (.cells #[.int .i64 dc, .int .i64 dn, .int .i64 dk, .int .i64 dg, .int .i64 ds] 33) = W := ⟨_, rfl⟩
          rw [hWC] at rC rSC hBC
          have HV : Hid (wr.alloc (.cells #[.int .i64 dc, .int .i64 dn, .int .i64 dk, .int .i64 dg, .int .i64 ds] 33) = WC) := hWC
          have HBC : Hid (Below w2.heap.size w2 WC) := hBC
          have e0 := cellB rC 0 _ rfl
          have e1 := cellB rC 1 _ rfl
          have f0 := cellB rSC 0 _ rfl
          have f1 := cellB rSC 1 _ rfl
          have p0 : (0 : Int) ≤ (p : Int) := by omega
          have p1 : (p : Int) < (D.length : Int) := by omega
          have hc : dc ≠ c1 ∨ dc = c1 ∧ (dn < n1 ∨ (dn = n1 ∧ E = 6) ∨ (dn = n1 ∧ E = 0 ∧ b = false) ∨ (n1 < dn ∧ E = 6)) := by
            by_cases e : dc = c1
            · subst e
              exact .inr ⟨rfl, mo_done HINV.out.2.2 HE1.out hy2⟩
            · exact .inl e
          have hgk2 : gk = D.length - p := by omega
          have hD80 : D.length ≤ 80 := by have := HLN.out; have := HINV.out.2.1; omega
          subst hgk2
          clear hy hyD hy1 hy2 hbC rC rSC hBC hWC hB rS
          go_upto_region 13 with fail
          rw [HV.out]
          clear HV z0 z1 z2 z3 z4
          rcases hc with hc | ⟨rfl, hc | ⟨rfl, rfl⟩ | ⟨rfl, rfl, rfl⟩ | ⟨hc, rfl⟩⟩
          · have q1 : (dc == c1) = false := by rw [beq_eq_false_iff_ne]; exact hc
            go_wp2_with fail
            go_roundg (D.length - (p + 1))
            case measure => omega
            case rel => exact ⟨p + 1, by omega, by go_num, HBC.out⟩
          · have q1 : (dn == n1) = false := by rw [beq_eq_false_iff_ne]; omega
            have q2 : ¬ n1 < dn := by omega
            go_wp2_with fail
            go_roundg (D.length - (p + 1))
            case measure => omega
            case rel => exact ⟨p + 1, by omega, by go_num, HBC.out⟩
          · cases b
            · go_wp2_with fail
              go_roundg (D.length - (p + 1))
              case measure => omega
              case rel => exact ⟨p + 1, by omega, by go_num, HBC.out⟩
            · go_wp2_with fail
              go_roundg (D.length - (p + 1))
              case measure => omega
              case rel => exact ⟨p + 1, by omega, by go_num, HBC.out⟩
          · go_wp2_with fail
            go_roundg (D.length - (p + 1))
            case measure => omega
            case rel => exact ⟨p + 1, by omega, by go_num, HBC.out⟩
          · have q1 : (dn == n1) = false := by rw [beq_eq_false_iff_ne]; omega
            go_wp2_with fail
            go_roundg (D.length - (p + 1))
            case measure => omega
            case rel => exact ⟨p + 1, by omega, by go_num, HBC.out⟩
        · have hpD : p = D.length := by omega
          subst hpD
          obtain ⟨WC, rfl⟩ : ∃ WC, WC = wr := ⟨_, rfl⟩
          by_cases hE0 : E = 0
          · subst hE0
            have hRC := HR2.out.next hB
            obtain ⟨hA, hkn, hag⟩ := HAG.out rfl
            have hDo2 := MDo_told hRC.mt rfl (hag (cls L2) 3 1 1).1
            have hmc : moC (cls L2) CL c1 n1 3 1 1 = CL := by unfold moC; rw [(hag (cls L2) 3 1 1).2]; rfl
            rw [hmc] at hDo2
            have HRC : Hid (Ro w M B v2 ut2 L2 T2 CL (.slice ra D.length rc) D WC) := hRC
            have HA : Hid (isA c1 n1 = true ∧ n1 = ((kn CL c1).1 : Int)) := ⟨hA, hkn⟩
            have HRS : Hid (WC.heap[Dk]? = some (.cells #[.int .i64 c1, .int .i64 n1, .int .i64 k1, .int .i64 g1, .int .i64 s1] 33)) := rS
            have f0 := cellB rS 0 _ rfl
            have f1 := cellB rS 1 _ rfl
            clear hRC hA hkn hag hmc rS hB HAG
            go_upto_region 18 with (first
              | (go_at_call 8; refine hDo2.mono ?_; rintro e w4 ⟨rfl, v4, ut4, L4, T4, d1, d2, d3⟩; have HR4 : Hid (Ro w M B v4 ut4 L4 T4 CL (.slice ra D.length rc) D w4) := HRC.out.did d2 d3; have rD4 := (d3.block Dk (Array.getElem?_eq_some_iff.1 HRS.out).1 HD2.out.2).trans HRS.out; have f0 := cellB rD4 0 _ rfl; have f1 := cellB rD4 1 _ rfl; have f2 := cellB rD4 2 _ rfl; have f3 := cellB rD4 3 _ rfl; have f4 := cellB rD4 4 _ rfl; clear rD4 d1 d2 d3))
            clear hDo2
            have hml : D.length + 1 ≤ maxLen := by unfold maxLen; have := HLN.out; have := HINV.out.2.1; omega
            have hkb : (D.length + 1) * 40 ≤ 140737488355328 := by have := HLN.out; have := HINV.out.2.1; omega
            have hws := HR4.out.bel.size
            have HDJ : Hid (D.length ≤ j) := HINV.out.2.1
            clear HINV
            go_wp2_with (first
              | (at_builtin; refine wpList_append_lies _ rfl _ _ 22 rfl w.heap.size 33 i0 (.agg #[.int .i64 0, .int .i64 0, .int .i64 0, .int .i64 0, .int .i64 0]) 5 40 (show Try.prog.underlying 22 = some (.slice 33) by kernel_rfl) HINF.out.1 HINF.out.2.1 HINF.out.2.2.1 HINF.out.2.2.2 rfl (by decide) (.slice ra D.length rc) D.length (scs D) rfl (HR4.out.row.alloc _) _ 1 1 [.int .i64 c1, .int .i64 n1, .int .i64 k1, .int .i64 g1, .int .i64 s1] rfl rfl (World.news_of_block (heap_alloc_new _ _)) (by simp [Value.oneCell']) (by decide) hml hkb (by simp; omega) _ rfl ?_; intro gb cap w5 i1 i2 i3 i4; have HK : Hid (Ro w M B v4 ut4 L4 T4 CL (.slice (some ⟨gb, 0, none⟩) (D.length + 1) cap) (D ++ [(c1, n1, k1, g1, s1)]) w5) := HR4.out.push (x := (c1, n1, k1, g1, s1)) i1 i2 i3; clear i1 i2 i3 i4))
            go_roundg (l.length - (j + 1))
            case measure => omega
            case rel =>
              refine ⟨j + 1, v4, ut4, L4, T4, CL, D ++ [(c1, n1, k1, g1, s1)], by omega, by go_num, HK.out, fun d hd => ?_, ?_⟩
              · rcases List.mem_append.1 hd with hd | hd
                · exact HI2.out d hd
                · have : d = (c1, n1, k1, g1, s1) := by simpa using hd
                  subst this
                  exact ⟨HA.out.1, Int.le_of_eq HA.out.2⟩
              · have := HDJ.out; simp; omega
          · have hE0' : (E == 0) = false := by rw [beq_eq_false_iff_ne]; exact hE0
            have HRC : Hid (Ro w M B v2 ut2 L2 T2 CL (.slice ra D.length rc) D WC) := HR2.out.next hB
            clear hE0 rS hB
            go_wp2_with fail
            go_roundg (l.length - (j + 1))
            case measure => omega
            case rel => exact ⟨j + 1, v2, ut2, L2, T2, CL, D, by omega, by go_num, HRC.out, HI2.out, by have := HINV.out.2.1; omega⟩
    · have hkl : j = l.length := by omega
      subst hkl
      have hO1 := hO wr
      have hbel := hR.bel
      obtain ⟨ra, rc, rfl⟩ := owns_slice hR.row
      clear hR hInv hDj
      go_wp2_with (first
        | (go_at_call 6; refine hO1.mono ?_; rintro e w5 ⟨rfl, hb5⟩; have hB5 := hbel.trans (hb5.mono hbel.size)))
      go_ret
      exact ⟨rfl, hB5⟩
end Go.Proofs.Ytfjbhljnledphaa
