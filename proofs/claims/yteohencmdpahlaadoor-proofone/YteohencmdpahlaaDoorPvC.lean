/- The law ProofOne, walked. -/
import Derived.Test.YteohencmdpahlaaDoorPvB
import Derived.Test.YteohencmdpahlaaDoorPrT
namespace Go.Proofs.YteohencmdpahlaaDoor
open Go.RowKit Go.Maps
attribute [local go_sem ↓] Go.wp_at_zero Go.wp_at_succ

set_option maxRecDepth 20000 in
set_option maxHeartbeats 4000000 in
theorem one_any (l : List Opr) (x : Int) (v : Value) (w : World) (hv : SlF ocs 4 w v l) (hk : ∀ o ∈ l, o.k.length ≤ 140737488351232) (he : EnvK w) : Calls Tryd.prog 6 #[v, .int .i64 x] w fun e W' => e = .returned (.bool true) ∧ Below w.heap.size w W' := by
  obtain ⟨va, vc, rfl⟩ := hv.slice
  by_cases hlen : 100 < l.length
  · have d1 : (100 : Int) < (l.length : Int) := by omega
    have hR := reads_any w he
    clear hlen hv hk he
    go_enter Tryd.func6, Tryd.ntmps6
    go_wp2_with (go_at_call 7; refine hR.mono ?_; clear hR; rintro e w1 ⟨rfl, hb1⟩)
    go_ret
    exact ⟨rfl, hb1⟩
  have d1 : ¬ (100 : Int) < (l.length : Int) := by omega
  have hl1 : l.length ≤ 100 := by omega
  have HLl : Hid (l.length ≤ 100) := hl1
  obtain ⟨N, hN⟩ : ∃ N, w.heap.size = N := ⟨_, rfl⟩
  have HO : Hid (∀ W, Below N w W → Calls Tryd.prog 14 #[.slice va l.length vc] W fun e W' => ∃ u, e = .returned u ∧ SlF ocs 4 W' u l ∧ Below W.heap.size W W') := fun W hW => (ops_any l _ W (hv.on hW (by omega)) (by omega)).mono fun e W' hh => by
    obtain ⟨u, h1, h2, h3⟩ := hh
    exact ⟨u, h1, SlF.of_owns ocs_len h2, h3⟩
  have HR : Hid (∀ W u, SlF ocs 4 W u l → Calls Tryd.prog 13 #[u] W fun e W' => ∃ u', e = .returned u' ∧ SlF acs 2 W' u' (repl (fun _ => []) l) ∧ Below W.heap.size W W') := fun W u hu => (rReplay_any l u W hu (by omega) hk).mono fun e W' hh => by
    obtain ⟨u', h1, h2, h3⟩ := hh
    rw [alike_repl alike_nil] at h2
    exact ⟨u', h1, SlF.of_owns acs_len (by rw [repl_len]; exact h2), h3⟩
  have HS : Hid (∀ W, Below N w W → Calls Tryd.prog 7 #[] W fun e W' => e = .returned (.bool true) ∧ Below N w W') := fun W hW => (reads_any W (he.below hW (by have := he.size; omega))).mono fun e W' hh => ⟨hh.1, hW.trans (hh.2.mono (by have := hW.size; omega))⟩
  have HE : Hid (∀ W, Below N w W → EnvK W) := fun W hW => he.below hW (by have := he.size; omega)
  have HN : Hid (w.heap.size = N) := hN
  have HV : Hid (∀ W, Below N w W → SlF ocs 4 W (.slice va l.length vc) l) := fun W hW => hv.on hW (by omega)
  clear hv hk he hN hlen hl1
  go_enter Tryd.func6, Tryd.ntmps6
  go_wp2_with fail
  go_loopg [23] l.length (fun gk j wr => ∃ n : Nat, n + gk = l.length ∧ j = .int .i64 n ∧ (∀ i o, i < n → l[i]? = some o → chk o.kind o.k o.v o.o = 0) ∧ Below N w wr)
  case atStart => exact ⟨0, by omega, rfl, fun i o hi => by omega, by rw [← HN.out]; exact Below.refl _ _⟩
  case round =>
    obtain ⟨n, hnn, rfl, hP, hB⟩ := hrel
    by_cases hn1 : n < l.length
    · obtain ⟨o, ho⟩ : ∃ o, l[n]? = some o := ⟨_, List.getElem?_eq_getElem hn1⟩
      have hcal := fun W => Check_any o.kind o.k o.v o.o W
      have hPn : chk o.kind o.k o.v o.o = 0 → ∀ i o, i < n + 1 → l[i]? = some o → chk o.kind o.k o.v o.o = 0 := fun h i o' hi ho' => by
        by_cases e : i = n
        · subst e; rw [ho] at ho'; injection ho' with ho'; subst ho'; exact h
        · exact hP i o' (by omega) ho'
      obtain ⟨C, hC⟩ : ∃ C, chk o.kind o.k o.v o.o = C := ⟨_, rfl⟩
      rw [hC] at hcal hPn
      obtain ⟨kind, k, vl, od⟩ := o
      obtain ⟨g, e', hg', y0, y1, y2, y3⟩ := (HV.out _ hB).at4 ho
      subst hg'
      have hcal' : ∀ W, Calls Tryd.prog 17 #[.agg #[.int .i64 kind, .string (bs k), .string (bs vl), .string (bs od)]] W fun e W' => e = .returned (.int .i64 C) ∧ Below W.heap.size W W' := hcal
      have HC : Hid (∀ W, Below wr.heap.size wr W → Calls Tryd.prog 17 #[.agg #[.int .i64 kind, .string (bs k), .string (bs vl), .string (bs od)]] W fun e W' => e = .returned (.int .i64 C) ∧ Below N w W') := fun W hW => (hcal' W).mono fun e W' hh => ⟨hh.1, hB.trans ((hW.trans (hh.2.mono hW.size)).mono (by have := hB.size; have := HN.out; omega))⟩
      have HPn : Hid (_) := hPn
      have d2 : (0 : Int) ≤ (n : Int) := by omega
      have d3 : (n : Int) < (l.length : Int) := by omega
      obtain ⟨D, hD⟩ : ∃ D, wr.heap.size = D := ⟨_, rfl⟩
      have rD := heap_alloc_new wr (.cells #[.int .i64 kind, .string (bs k), .string (bs vl), .string (bs od)] 51)
      have hbA := (Below.refl wr.heap.size wr).alloc (Nat.le_refl _) (.cells #[.int .i64 kind, .string (bs k), .string (bs vl), .string (bs od)] 51)
      obtain ⟨WA, hWA⟩ : ∃ W, wr.alloc (.cells #[.int .i64 kind, .string (bs k), .string (bs vl), .string (bs od)] 51) = W := ⟨_, rfl⟩
      rw [hWA] at rD hbA
      have HbA : Hid (Below wr.heap.size wr WA) := hbA
      have HWA : Hid (wr.alloc (.cells #[.int .i64 kind, .string (bs k), .string (bs vl), .string (bs od)] 51) = WA) := hWA
      have HD : Hid (wr.heap.size = D) := hD
      rw [hD] at rD
      have x0 := cellB rD 0 _ rfl
      have x1 := cellB rD 1 _ rfl
      have x2 := cellB rD 2 _ rfl
      have x3 := cellB rD 3 _ rfl
      clear hbA hWA rD hD ho hP hPn hcal hcal' hC hB
      go_upto_region 6 with fail
      rw [HWA.out]
      try rw [HD.out]
      clear y0 y1 y2 y3 HWA HD
      by_cases hc0 : C = 0
      · subst hc0
        go_wp2_with (go_at_call 17; refine (HC.out _ HbA.out).mono ?_; rintro e w4 ⟨rfl, hB4⟩)
        go_roundg (l.length - (n + 1))
        case measure => omega
        case rel => exact ⟨n + 1, by omega, by go_num, HPn.out (by trivial), hB4⟩
      · go_wp2_with (first
          | (go_at_call 17; refine (HC.out _ HbA.out).mono ?_; rintro e w4 ⟨rfl, hB4⟩; have hR4 := HS.out _ hB4)
          | (go_at_call 7; refine hR4.mono ?_; rintro e w5 ⟨rfl, hB5⟩))
        go_ret
        exact ⟨rfl, by rw [HN.out]; exact hB5⟩
    obtain rfl : n = l.length := by omega
    have hOK : ∀ o ∈ l, chk o.kind o.k o.v o.o = 0 := fun o ho => by
      obtain ⟨i, hi⟩ := List.getElem?_of_mem ho
      exact hP i o ((List.getElem?_eq_some_iff.1 hi).1) hi
    have hsm := repl_small hOK (fun _ => [])
    have hsh := repl_short hOK alike_nil
    have hAl := repl_len (fun _ => []) l
    have HCK : Hid (∀ A, A = repl (fun _ => []) l → chkG (oneC l A x l.length) (oneP A x l.length) = if 0 ≤ x ∧ x < (l.length : Int) then (4, x) else (0, 0)) := fun A hA => one_chk hOK (by have := HLl.out; omega) hA
    obtain ⟨A, hA⟩ : ∃ A, repl (fun _ => []) l = A := ⟨_, rfl⟩
    have HCK2 : Hid (_) := HCK.out A hA.symm
    rw [hA] at HR hAl hsm hsh
    have HAl : Hid (A.length = l.length) := hAl
    have HSm : Hid (∀ a ∈ A, 0 ≤ a.2 ∧ a.2 < 1000) := hsm
    have HSh : Hid (∀ a ∈ A, a.1.length ≤ 64) := hsh
    have HB : Hid (Below N w wr) := hB
    clear hOK hsm hsh hAl hA hP hB hn1 HCK
    go_upto_region 10 with (first
      | (go_at_call 14; refine (HO.out _ HB.out).mono ?_; rintro e w2 ⟨u2, rfl, hu2, hb2⟩)
      | (go_at_call 13; refine (HR.out _ _ hu2).mono ?_; rintro e w3 ⟨u3, rfl, hu3, hb3⟩))
    have hb4 : Below N w w3 := HB.out.trans ((hb2.trans (hb3.mono hb2.size)).mono (by have := HB.out.size; have := HN.out; omega))
    obtain ⟨a3, c3, rfl⟩ := hu3.slice
    obtain ⟨M, hM⟩ : ∃ M, w3.heap.size = M := ⟨_, rfl⟩
    have H3 : Hid (SlF acs 2 w3 (.slice a3 A.length c3) A ∧ Below N w w3 ∧ N ≤ M ∧ w3.heap.size = M) := ⟨hu3, hb4, by have := hb4.size; have := HN.out; omega, hM⟩
    clear hu2 hb2 hu3 hb3 hb4 HO HR hM HB
    have hlA : (A.length : Int) = (l.length : Int) := by rw [HAl.out]
    obtain ⟨i53, hi53, hz53, hs53, hb53⟩ := info_parts Tryd.info53
    obtain ⟨i56, hi56, hz56, hs56, hb56⟩ := info_parts Tryd.info56
    go_wp2_with fail
    go_loopg [8, 9, 37] l.length (fun gk xs ys j wr => ∃ n : Nat, n + gk = l.length ∧ j = .int .i64 n ∧ OW M (oneC l A x n) (oneP A x n) xs ys wr ∧ Below M w3 wr)
    case atStart => exact ⟨0, by omega, rfl, ⟨World.ownsRow_nil _ _ _ _, World.ownsRow_nil _ _ _ _, fun q hq => by cases hq⟩, by rw [← H3.out.2.2.2]; exact Below.refl _ _⟩
    case round =>
      obtain ⟨n, hnn, rfl, hOW, hB⟩ := hrel
      obtain ⟨xa, xc, rfl⟩ := owns_slice hOW.rc
      obtain ⟨ya, yc, rfl⟩ := owns_slice hOW.rp
      by_cases hn1 : n < l.length
      · obtain ⟨o, ho⟩ : ∃ o, l[n]? = some o := ⟨_, List.getElem?_eq_getElem hn1⟩
        obtain ⟨a, ha⟩ : ∃ a, A[n]? = some a := ⟨_, List.getElem?_eq_getElem (by rw [HAl.out]; exact hn1)⟩
        have hTl := HSh.out a (List.mem_of_getElem? ha)
        obtain ⟨hE0, hE1⟩ := HSm.out a (List.mem_of_getElem? ha)
        have hBN : Below N w wr := H3.out.2.1.trans (hB.mono H3.out.2.2.1)
        have hcs : oneC l A x (n + 1) = oneC l A x n ++ [fC l A x n] := oneC_succ l A x n
        have hps : oneP A x (n + 1) = oneP A x n ++ [fP A x n] := oneP_succ A x n
        have hq8 : ((n % 8 : Nat) : Int) = (n : Int) % 8 := by omega
        have hfC : fC l A x n = ⟨(n : Int) % 8, (n : Int) + 1, o, 3 * (n : Int), 3 * (n : Int) + 2, bAn A x n⟩ := by rw [fC, ho, hq8]; rfl
        have hfP : fP A x n = ⟨3 * (n : Int) + 1, (n : Int) % 8, (n : Int) + 1, bAn A x n⟩ := by rw [fP, hq8]
        have hbA : bAn A x n = (if (n : Int) = x then a.1 ++ [33] else a.1, a.2) := by rw [bAn, ha]; rfl
        rw [hfC] at hcs
        rw [hfP] at hps
        obtain ⟨T, E⟩ := a
        obtain ⟨kind, k, vl, od⟩ := o
        obtain ⟨en, rfl⟩ : ∃ en : Nat, E = en := ⟨E.toNat, by have : 0 ≤ E := hE0; omega⟩
        have hTs : ¬ 9223372036854775807 < (bs T).size + 1 := by
          have h1 : (bs T).size = T.length := by simp [bs, ByteArray.size]
          have h2 : T.length ≤ 64 := hTl
          omega
        have hen : en < 1000 := by have : (en : Int) < 1000 := hE1; omega
        obtain ⟨D, hD⟩ : ∃ D, wr.heap.size = D := ⟨_, rfl⟩
        have hMD : M ≤ D := by have := hB.size; rw [H3.out.2.2.2] at this; omega
        obtain ⟨g2, e2, hg2, y0, y1, y2, y3⟩ := (HV.out _ hBN).at4 ho
        subst hg2
        have hTo : ∀ W, Below D wr W → ∃ g e', a3 = some ⟨g, e', none⟩ ∧ W.cell? ⟨g, e' + n * 2, none⟩ = some (.int .i64 en) ∧ W.cell? ⟨g, e' + n * 2 + 1, none⟩ = some (.string (bs T)) := fun W hW => by
          obtain ⟨g, e', hg', -, y⟩ := (H3.out.1.on (hB.trans (hW.mono hMD)) (by rw [H3.out.2.2.2]; exact Nat.le_refl _)).at ha
          exact ⟨g, e', hg', y 0 _ rfl, y 1 _ rfl⟩
        obtain ⟨g, e', hg', -, -⟩ := hTo wr (Below.refl _ _)
        subst hg'
        have hTo' : ∀ W, Below D wr W → W.cell? ⟨g, e' + n * 2, none⟩ = some (.int .i64 en) ∧ W.cell? ⟨g, e' + n * 2 + 1, none⟩ = some (.string (bs T)) := fun W hW => by
          obtain ⟨g', e'', hgg, z0, z1⟩ := hTo W hW
          cases hgg
          exact ⟨z0, z1⟩
        have HTo : Hid (∀ W, Below D wr W → W.cell? ⟨g, e' + n * 2, none⟩ = some (.int .i64 en) ∧ W.cell? ⟨g, e' + n * 2 + 1, none⟩ = some (.string (bs T))) := hTo'
        have d2 : (0 : Int) ≤ (n : Int) := by omega
        have d3 : (n : Int) < (l.length : Int) := by omega
        have rD := heap_alloc_new wr (.cells #[.int .i64 kind, .string (bs k), .string (bs vl), .string (bs od)] 51)
        have hb1 := (Below.refl wr.heap.size wr).alloc (Nat.le_refl _) (.cells #[.int .i64 kind, .string (bs k), .string (bs vl), .string (bs od)] 51)
        obtain ⟨W1, hW1⟩ : ∃ W, wr.alloc (.cells #[.int .i64 kind, .string (bs k), .string (bs vl), .string (bs od)] 51) = W := ⟨_, rfl⟩
        have hz1 : W1.heap.size = D + 1 := by rw [← hW1, World.size_alloc, hD]
        rw [hW1] at rD hb1
        rw [hD] at rD hb1
        have rE := heap_alloc_new W1 (.cells #[.int .i64 0, .string (bs T)] 48)
        have hb2 := (Below.refl W1.heap.size W1).alloc (Nat.le_refl _) (.cells #[.int .i64 0, .string (bs T)] 48)
        obtain ⟨W2, hW2⟩ : ∃ W, W1.alloc (.cells #[.int .i64 0, .string (bs T)] 48) = W := ⟨_, rfl⟩
        rw [hW2] at rE hb2
        rw [hz1] at rE hb2
        have hb12 : Below D wr W2 := hb1.trans (hb2.mono (by omega))
        have hz2 : W2.heap.size = D + 2 := by rw [← hW2, World.size_alloc, hz1]
        have HX : Hid (OW M (oneC l A x n) (oneP A x n) (.slice xa (oneC l A x n).length xc) (.slice ya (oneP A x n).length yc) wr ∧ Below M w3 wr ∧ Below N w wr ∧ M ≤ D ∧ wr.heap.size = D) := ⟨hOW, hB, hBN, hMD, hD⟩
        have H2 : Hid (W2.heap[D + 1]? = some (.cells #[.int .i64 0, .string (bs T)] 48) ∧ Below D wr W2 ∧ W2.heap[D]? = some (.cells #[.int .i64 kind, .string (bs k), .string (bs vl), .string (bs od)] 51) ∧ W2.heap.size = D + 2) := ⟨rE, hb12, (hb2.block D (by omega)).trans rD, hz2⟩
        have HC : Hid (_) := hcs
        have HP : Hid (_) := hps
        have HbA : Hid (_) := hbA
        have HW1 : Hid (wr.alloc (.cells #[.int .i64 kind, .string (bs k), .string (bs vl), .string (bs od)] 51) = W1) := hW1
        have HW2 : Hid (W1.alloc (.cells #[.int .i64 0, .string (bs T)] 48) = W2) := hW2
        have HD : Hid (wr.heap.size = D) := hD
        have HZ1 : Hid (W1.heap.size = D + 1) := hz1
        obtain ⟨-, t1⟩ := HTo.out W1 hb1
        have Hen : Hid (en < 1000) := hen
        clear hOW hB hBN hMD hD hTo hTo' rD hb1 hW1 hz1 rE hb2 hW2 hb12 hz2 hcs hps hbA hq8 hfC hfP ho ha hE0 hE1 hen hTl
        go_upto_region 15 with fail
        rw [HW1.out]
        try rw [HD.out]
        clear y0 y1 y2 y3
        go_upto_region 16 with fail
        rw [HW2.out]
        try rw [HZ1.out]
        clear t1
        go_wp2_with fail
        go_loopg [13] en (fun gk j wr => ∃ k : Nat, k + gk = en ∧ j = .int .i64 k ∧ wr.heap[D + 1]? = some (.cells #[.int .i64 k, .string (bs T)] 48) ∧ Below (D + 1) W2 wr)
        case atStart => exact ⟨0, by omega, rfl, H2.out.1, Below.refl _ _⟩
        case round =>
          obtain ⟨m, hm, rfl, hE, hB2⟩ := hrel
          have hB3 := H2.out.2.1.trans (hB2.mono (by omega))
          obtain ⟨t0, -⟩ := HTo.out _ hB3
          have c0 := cellB hE 0 _ rfl
          have c1 := cellB hE 1 _ rfl
          have f0 := frozenB hE 0
          have f1 := frozenB hE 1
          by_cases hm1 : m < en
          · have m1 : (m : Int) < (en : Int) := by omega
            have m2 : (m : Int) < 1000 := by have := Hen.out; omega
            have hE' := setB hE 0 (.int .i64 ((m : Int) + 1))
            have HE : Hid (_) := hE'
            have HB2 : Hid (_) := hB2
            clear hE hB2 hB3 hE'
            go_wp2
            go_roundg (en - (m + 1))
            case measure => omega
            case rel => exact ⟨m + 1, by omega, by go_num, HE.out, HB2.out.setCell (p := ⟨D + 1, 0, none⟩) (Nat.le_refl _) _⟩
          · obtain rfl : m = en := by omega
            have hex : ∃ (T' : List UInt8) (W3 : World), bAn A x n = (T', (m : Int)) := ⟨_, wr, HbA.out⟩
            clear hex
            have HE : Hid (_) := hE
            have HB2 : Hid (_) := hB2
            clear hE hB2 hB3
            by_cases ex : (n : Int) = x
            · have ex2 : ((n : Int) == x) = true := by simpa using ex
              have EX : Hid (_) := ex
              clear ex
              go_upto_region 22 with fail
              obtain ⟨W3, hW3⟩ : ∃ W, wr.setCell ⟨D + 1, 1, none⟩ (.string (bs T ++ ⟨#[33]⟩)) = W := ⟨_, rfl⟩
              have hs := setB HE.out 1 (.string (bs T ++ ⟨#[33]⟩))
              have hbs := HB2.out.setCell (p := ⟨D + 1, 1, none⟩) (Nat.le_refl _) (.string (bs T ++ ⟨#[33]⟩))
              rw [hW3] at hs hbs
              try rw [hW3]
              obtain ⟨T', hT'⟩ : ∃ T', T ++ [33] = T' := ⟨_, rfl⟩
              have hTT : bs T ++ ⟨#[33]⟩ = bs T' := by rw [← hT', ← bs_app]; rfl
              rw [hTT] at hs
              have HF : Hid (W3.heap[D + 1]? = some (.cells #[.int .i64 m, .string (bs T')] 48) ∧ Below (D + 1) W2 W3 ∧ bAn A x n = (T', (m : Int))) := ⟨hs, hbs, by rw [HbA.out, if_pos EX.out, hT']⟩
              clear hs hbs hTT hT' hW3 c0 c1 f0 f1 t0 ex2 EX
              obtain ⟨hE3, hB3, hbn⟩ := HF.out
              have hcl := oneC_len l A x n
              have hpl := oneP_len A x n
              have hml : (oneC l A x n).length + 1 ≤ maxLen := by rw [hcl]; unfold maxLen; have := HLl.out; omega
              have hkb : ((oneC l A x n).length + 1) * 112 ≤ 140737488355328 := by rw [hcl]; have := HLl.out; omega
              have hml2 : (oneP A x n).length + 1 ≤ maxLen := by rw [hpl]; unfold maxLen; have := HLl.out; omega
              have hkb2 : ((oneP A x n).length + 1) * 48 ≤ 140737488355328 := by rw [hpl]; have := HLl.out; omega
              have hbD := H2.out.2.1.trans (hB3.mono (by omega))
              have hs3 : D + 2 ≤ W3.heap.size := by have := hB3.size; have := H2.out.2.2.2; omega
              have hOW3 := HX.out.1.keep (W' := W3) fun q _ hq => hbD.block q (by have := HX.out.2.2.2.2; omega)
              have hD3 := (hB3.block D (by omega)).trans H2.out.2.2.1
              have hM3 : Below M w3 W3 := HX.out.2.1.trans (hbD.mono HX.out.2.2.2.1)
              have hne : (Value.slice xa (oneC l A x n).length xc).ownBlock ≠ some (D + 1) := fun e => by
                have := (HX.out.1.rc.lt _ e).2
                have := HX.out.2.2.2.2
                omega
              have x0 := cellB hD3 0 _ rfl
              have x1 := cellB hD3 1 _ rfl
              have x2 := cellB hD3 2 _ rfl
              have x3 := cellB hD3 3 _ rfl
              have c0 := cellB hE3 0 _ rfl
              have c1 := cellB hE3 1 _ rfl
              have hMD := HX.out.2.2.2.1
              have H9 : Hid ((oneC l A x n ++ [⟨(n : Int) % 8, (n : Int) + 1, ⟨kind, k, vl, od⟩, 3 * (n : Int), 3 * (n : Int) + 2, (T', (m : Int))⟩] = oneC l A x (n + 1)) ∧ (oneP A x n ++ [⟨3 * (n : Int) + 1, (n : Int) % 8, (n : Int) + 1, (T', (m : Int))⟩] = oneP A x (n + 1))) := ⟨by rw [HC.out, hbn], by rw [HP.out, hbn]⟩
              have H3' : Hid (W3.heap[D + 1]? = some (.cells #[.int .i64 m, .string (bs T')] 48) ∧ OW M (oneC l A x n) (oneP A x n) (.slice xa (oneC l A x n).length xc) (.slice ya (oneP A x n).length yc) W3 ∧ Below M w3 W3 ∧ D + 2 ≤ W3.heap.size ∧ M ≤ D) := ⟨hE3, hOW3, hM3, hs3, hMD⟩
              have hlw : ∀ c, M ≤ (W3.alloc c).heap.size := fun c => by rw [World.size_alloc]; omega
              have hown := hOW3.rc
              clear hbD hD3 hE3 hB3 hcl hpl HF HB2 HE H2 HTo HX HC HP HbA hbn hOW3 hM3 hs3
              go_wp2_with (first
                | (at_builtin; refine wpList_append_lies _ rfl _ _ 22 rfl M 53 i53 (.agg #[.int .i64 0, .int .i64 0, .int .i64 0, .string ⟨#[]⟩, .string ⟨#[]⟩, .string ⟨#[]⟩, .int .i64 0, .int .i64 0, .int .i64 0, .string ⟨#[]⟩]) 10 112 Tryd.underlying22 hi53 hz53 hs53 hb53 rfl (by decide) (.slice xa (oneC l A x n).length xc) _ _ rfl (hown.alloc _) _ 1 1 [.int .i64 ((n : Int) % 8), .int .i64 ((n : Int) + 1), .int .i64 kind, .string (bs k), .string (bs vl), .string (bs od), .int .i64 (3 * (n : Int)), .int .i64 (3 * (n : Int) + 2), .int .i64 m, .string (bs T')] rfl rfl (World.news_of_block (heap_alloc_new _ _)) (by simp [Value.oneCell']) (by decide) hml hkb (hlw _) _ rfl ?_
                   intro ga ca w6 g1 g2 g3 g4
                   have hb5 := (Below.refl W3.heap.size W3).alloc (Nat.le_refl _) (.cells ([.int .i64 ((n : Int) % 8), .int .i64 ((n : Int) + 1), .int .i64 kind, .string (bs k), .string (bs vl), .string (bs od), .int .i64 (3 * (n : Int)), .int .i64 (3 * (n : Int) + 2), .int .i64 m, .string (bs T')]).toArray 53)
                   have hE6 := ((g2.block (D + 1) (by rw [World.size_alloc]; have := H3'.out.2.2.2.1; omega) hne.symm).trans (hb5.block (D + 1) (by have := H3'.out.2.2.2.1; omega))).trans H3'.out.1
                   have hM6 := (H3'.out.2.2.1.trans (hb5.mono (by have := H3'.out.2.2.2.1; omega))).grown g2 (by rw [World.size_alloc]; have := H3'.out.2.2.2.1; omega) (fun z hz => (hown.lt z hz).1)
                   have hOW6 := H3'.out.2.1.addC (c := ⟨(n : Int) % 8, (n : Int) + 1, ⟨kind, k, vl, od⟩, 3 * (n : Int), 3 * (n : Int) + 2, (T', (m : Int))⟩) hb5 (by rw [List.flatMap_append]; exact g1) g2 g3
                   have c2 := cellB hE6 0 _ rfl
                   have c3 := cellB hE6 1 _ rfl
                   have hs6 : D + 2 ≤ w6.heap.size := by have := g2.size; rw [World.size_alloc] at this; have := H3'.out.2.2.2.1; omega
                   have hown6 := hOW6.rp
                   have hlw6 : ∀ c, M ≤ (w6.alloc c).heap.size := fun c => by rw [World.size_alloc]; omega
                   clear g1 g2 g3 g4 x0 x1 x2 x3 c0 c1 hb5 hE6 hlw hown hne hml hkb)
                | (at_builtin; refine wpList_append_lies _ rfl _ _ 23 rfl M 56 i56 (.agg #[.int .i64 0, .int .i64 0, .int .i64 0, .int .i64 0, .string ⟨#[]⟩]) 5 48 Tryd.underlying23 hi56 hz56 hs56 hb56 rfl (by decide) (.slice ya (oneP A x n).length yc) _ _ rfl (hown6.alloc _) _ 1 1 [.int .i64 (3 * (n : Int) + 1), .int .i64 ((n : Int) % 8), .int .i64 ((n : Int) + 1), .int .i64 m, .string (bs T')] rfl rfl (World.news_of_block (heap_alloc_new _ _)) (by simp [Value.oneCell']) (by decide) hml2 hkb2 (hlw6 _) _ rfl ?_
                   intro gb cb w7 g1 g2 g3 g4
                   have hb7 := (Below.refl w6.heap.size w6).alloc (Nat.le_refl _) (.cells ([.int .i64 (3 * (n : Int) + 1), .int .i64 ((n : Int) % 8), .int .i64 ((n : Int) + 1), .int .i64 m, .string (bs T')]).toArray 56)
                   have hOW7 := hOW6.addP (p := ⟨3 * (n : Int) + 1, (n : Int) % 8, (n : Int) + 1, (T', (m : Int))⟩) hb7 (by rw [List.flatMap_append]; exact g1) g2 g3
                   have hM7 := (hM6.trans (hb7.mono (by omega))).grown g2 (hlw6 _) (fun z hz => (hown6.lt z hz).1)
                   clear g1 g2 g3 g4 hb7 hown6 hlw6 hOW6 hM6 c2 c3))
              rw [H9.out.1, H9.out.2] at hOW7
              go_roundg (l.length - (n + 1))
              case measure => omega
              case rel => exact ⟨n + 1, by omega, by go_num, hOW7, hM7⟩
            · have ex2 : ((n : Int) == x) = false := by simpa using ex
              have EX : Hid (_) := ex
              clear ex
              go_upto_region 22 with fail
              obtain ⟨W3, hW3⟩ : ∃ W, wr = W := ⟨_, rfl⟩
              obtain ⟨T', hT'⟩ : ∃ T', T = T' := ⟨_, rfl⟩
              have HF : Hid (W3.heap[D + 1]? = some (.cells #[.int .i64 m, .string (bs T')] 48) ∧ Below (D + 1) W2 W3 ∧ bAn A x n = (T', (m : Int))) := ⟨by rw [← hW3, ← hT']; exact HE.out, by rw [← hW3]; exact HB2.out, by rw [HbA.out, if_neg EX.out, hT']⟩
              try rw [hW3]
              clear hT' hW3 c0 c1 f0 f1 t0 ex2 EX
              obtain ⟨hE3, hB3, hbn⟩ := HF.out
              have hcl := oneC_len l A x n
              have hpl := oneP_len A x n
              have hml : (oneC l A x n).length + 1 ≤ maxLen := by rw [hcl]; unfold maxLen; have := HLl.out; omega
              have hkb : ((oneC l A x n).length + 1) * 112 ≤ 140737488355328 := by rw [hcl]; have := HLl.out; omega
              have hml2 : (oneP A x n).length + 1 ≤ maxLen := by rw [hpl]; unfold maxLen; have := HLl.out; omega
              have hkb2 : ((oneP A x n).length + 1) * 48 ≤ 140737488355328 := by rw [hpl]; have := HLl.out; omega
              have hbD := H2.out.2.1.trans (hB3.mono (by omega))
              have hs3 : D + 2 ≤ W3.heap.size := by have := hB3.size; have := H2.out.2.2.2; omega
              have hOW3 := HX.out.1.keep (W' := W3) fun q _ hq => hbD.block q (by have := HX.out.2.2.2.2; omega)
              have hD3 := (hB3.block D (by omega)).trans H2.out.2.2.1
              have hM3 : Below M w3 W3 := HX.out.2.1.trans (hbD.mono HX.out.2.2.2.1)
              have hne : (Value.slice xa (oneC l A x n).length xc).ownBlock ≠ some (D + 1) := fun e => by
                have := (HX.out.1.rc.lt _ e).2
                have := HX.out.2.2.2.2
                omega
              have x0 := cellB hD3 0 _ rfl
              have x1 := cellB hD3 1 _ rfl
              have x2 := cellB hD3 2 _ rfl
              have x3 := cellB hD3 3 _ rfl
              have c0 := cellB hE3 0 _ rfl
              have c1 := cellB hE3 1 _ rfl
              have hMD := HX.out.2.2.2.1
              have H9 : Hid ((oneC l A x n ++ [⟨(n : Int) % 8, (n : Int) + 1, ⟨kind, k, vl, od⟩, 3 * (n : Int), 3 * (n : Int) + 2, (T', (m : Int))⟩] = oneC l A x (n + 1)) ∧ (oneP A x n ++ [⟨3 * (n : Int) + 1, (n : Int) % 8, (n : Int) + 1, (T', (m : Int))⟩] = oneP A x (n + 1))) := ⟨by rw [HC.out, hbn], by rw [HP.out, hbn]⟩
              have H3' : Hid (W3.heap[D + 1]? = some (.cells #[.int .i64 m, .string (bs T')] 48) ∧ OW M (oneC l A x n) (oneP A x n) (.slice xa (oneC l A x n).length xc) (.slice ya (oneP A x n).length yc) W3 ∧ Below M w3 W3 ∧ D + 2 ≤ W3.heap.size ∧ M ≤ D) := ⟨hE3, hOW3, hM3, hs3, hMD⟩
              have hlw : ∀ c, M ≤ (W3.alloc c).heap.size := fun c => by rw [World.size_alloc]; omega
              have hown := hOW3.rc
              clear hbD hD3 hE3 hB3 hcl hpl HF HB2 HE H2 HTo HX HC HP HbA hbn hOW3 hM3 hs3
              go_wp2_with (first
                | (at_builtin; refine wpList_append_lies _ rfl _ _ 22 rfl M 53 i53 (.agg #[.int .i64 0, .int .i64 0, .int .i64 0, .string ⟨#[]⟩, .string ⟨#[]⟩, .string ⟨#[]⟩, .int .i64 0, .int .i64 0, .int .i64 0, .string ⟨#[]⟩]) 10 112 Tryd.underlying22 hi53 hz53 hs53 hb53 rfl (by decide) (.slice xa (oneC l A x n).length xc) _ _ rfl (hown.alloc _) _ 1 1 [.int .i64 ((n : Int) % 8), .int .i64 ((n : Int) + 1), .int .i64 kind, .string (bs k), .string (bs vl), .string (bs od), .int .i64 (3 * (n : Int)), .int .i64 (3 * (n : Int) + 2), .int .i64 m, .string (bs T')] rfl rfl (World.news_of_block (heap_alloc_new _ _)) (by simp [Value.oneCell']) (by decide) hml hkb (hlw _) _ rfl ?_
                   intro ga ca w6 g1 g2 g3 g4
                   have hb5 := (Below.refl W3.heap.size W3).alloc (Nat.le_refl _) (.cells ([.int .i64 ((n : Int) % 8), .int .i64 ((n : Int) + 1), .int .i64 kind, .string (bs k), .string (bs vl), .string (bs od), .int .i64 (3 * (n : Int)), .int .i64 (3 * (n : Int) + 2), .int .i64 m, .string (bs T')]).toArray 53)
                   have hE6 := ((g2.block (D + 1) (by rw [World.size_alloc]; have := H3'.out.2.2.2.1; omega) hne.symm).trans (hb5.block (D + 1) (by have := H3'.out.2.2.2.1; omega))).trans H3'.out.1
                   have hM6 := (H3'.out.2.2.1.trans (hb5.mono (by have := H3'.out.2.2.2.1; omega))).grown g2 (by rw [World.size_alloc]; have := H3'.out.2.2.2.1; omega) (fun z hz => (hown.lt z hz).1)
                   have hOW6 := H3'.out.2.1.addC (c := ⟨(n : Int) % 8, (n : Int) + 1, ⟨kind, k, vl, od⟩, 3 * (n : Int), 3 * (n : Int) + 2, (T', (m : Int))⟩) hb5 (by rw [List.flatMap_append]; exact g1) g2 g3
                   have c2 := cellB hE6 0 _ rfl
                   have c3 := cellB hE6 1 _ rfl
                   have hs6 : D + 2 ≤ w6.heap.size := by have := g2.size; rw [World.size_alloc] at this; have := H3'.out.2.2.2.1; omega
                   have hown6 := hOW6.rp
                   have hlw6 : ∀ c, M ≤ (w6.alloc c).heap.size := fun c => by rw [World.size_alloc]; omega
                   clear g1 g2 g3 g4 x0 x1 x2 x3 c0 c1 hb5 hE6 hlw hown hne hml hkb)
                | (at_builtin; refine wpList_append_lies _ rfl _ _ 23 rfl M 56 i56 (.agg #[.int .i64 0, .int .i64 0, .int .i64 0, .int .i64 0, .string ⟨#[]⟩]) 5 48 Tryd.underlying23 hi56 hz56 hs56 hb56 rfl (by decide) (.slice ya (oneP A x n).length yc) _ _ rfl (hown6.alloc _) _ 1 1 [.int .i64 (3 * (n : Int) + 1), .int .i64 ((n : Int) % 8), .int .i64 ((n : Int) + 1), .int .i64 m, .string (bs T')] rfl rfl (World.news_of_block (heap_alloc_new _ _)) (by simp [Value.oneCell']) (by decide) hml2 hkb2 (hlw6 _) _ rfl ?_
                   intro gb cb w7 g1 g2 g3 g4
                   have hb7 := (Below.refl w6.heap.size w6).alloc (Nat.le_refl _) (.cells ([.int .i64 (3 * (n : Int) + 1), .int .i64 ((n : Int) % 8), .int .i64 ((n : Int) + 1), .int .i64 m, .string (bs T')]).toArray 56)
                   have hOW7 := hOW6.addP (p := ⟨3 * (n : Int) + 1, (n : Int) % 8, (n : Int) + 1, (T', (m : Int))⟩) hb7 (by rw [List.flatMap_append]; exact g1) g2 g3
                   have hM7 := (hM6.trans (hb7.mono (by omega))).grown g2 (hlw6 _) (fun z hz => (hown6.lt z hz).1)
                   clear g1 g2 g3 g4 hb7 hown6 hlw6 hOW6 hM6 c2 c3))
              rw [H9.out.1, H9.out.2] at hOW7
              go_roundg (l.length - (n + 1))
              case measure => omega
              case rel => exact ⟨n + 1, by omega, by go_num, hOW7, hM7⟩
      · obtain rfl : n = l.length := by omega
        have hHs : Hs wr (.slice xa (oneC l A x l.length).length xc) (.slice ya (oneP A x l.length).length yc) (oneC l A x l.length) (oneP A x l.length) := ⟨SlF.of_owns (fun _ => rfl) hOW.rc, SlF.of_owns (fun _ => rfl) hOW.rp, by rw [oneC_len]; have := HLl.out; omega, by rw [oneP_len]; have := HLl.out; omega, fun c hc => by
          obtain ⟨i, hi, rfl⟩ := List.mem_map.1 hc
          have := List.mem_range.1 hi
          have := HLl.out
          exact wfK_small (by show (0 : Int) ≤ ((i % 8 : Nat) : Int); omega) (by show ((i % 8 : Nat) : Int) ≤ 1000; omega) (by show (0 : Int) ≤ (i : Int) + 1; omega) (by show (i : Int) + 1 ≤ 1000; omega), fun c hc => by
          obtain ⟨i, hi, rfl⟩ := List.mem_map.1 hc
          have := List.mem_range.1 hi
          have := HLl.out
          exact wfK_small (by show (0 : Int) ≤ ((i % 8 : Nat) : Int); omega) (by show ((i % 8 : Nat) : Int) ≤ 1000; omega) (by show (0 : Int) ≤ (i : Int) + 1; omega) (by show (i : Int) + 1 ≤ 1000; omega)⟩
        have hBN : Below N w wr := H3.out.2.1.trans (hB.mono H3.out.2.2.1)
        have hC8 : Calls Tryd.prog 8 #[.slice xa (oneC l A x l.length).length xc, .slice ya (oneP A x l.length).length yc] wr (fun e W' => e = .returned (.tuple #[.int .i64 (chkG (oneC l A x l.length) (oneP A x l.length)).1, .int .i64 (chkG (oneC l A x l.length) (oneP A x l.length)).2, .int .i64 0]) ∧ Below N w W') := (Check24_any hHs (HE.out _ hBN)).mono fun e W' hh => ⟨hh.1, hBN.trans (hh.2.mono (by have := hBN.size; have := HN.out; omega))⟩
        rw [HCK2.out] at hC8
        clear hHs hBN hOW hB
        by_cases p0 : 0 ≤ x
        · by_cases p1 : x < (l.length : Int)
          · rw [if_pos ⟨p0, p1⟩] at hC8
            go_wp2_with (first
              | (go_at_call 8; refine hC8.mono ?_; clear hC8; rintro e w5 ⟨rfl, hb5⟩; have hR5 := HS.out _ hb5)
              | (go_at_call 7; refine hR5.mono ?_; clear hR5; rintro e w6 ⟨rfl, hb6⟩))
            go_ret
            exact ⟨rfl, by rw [HN.out]; exact hb6⟩
          · rw [if_neg (fun h => p1 h.2)] at hC8
            go_wp2_with (first
              | (go_at_call 8; refine hC8.mono ?_; clear hC8; rintro e w5 ⟨rfl, hb5⟩; have hR5 := HS.out _ hb5)
              | (go_at_call 7; refine hR5.mono ?_; clear hR5; rintro e w6 ⟨rfl, hb6⟩))
            go_ret
            exact ⟨rfl, by rw [HN.out]; exact hb6⟩
        · rw [if_neg (fun h => p0 h.1)] at hC8
          go_wp2_with (first
            | (go_at_call 8; refine hC8.mono ?_; clear hC8; rintro e w5 ⟨rfl, hb5⟩; have hR5 := HS.out _ hb5)
            | (go_at_call 7; refine hR5.mono ?_; clear hR5; rintro e w6 ⟨rfl, hb6⟩))
          go_ret
          exact ⟨rfl, by rw [HN.out]; exact hb6⟩
end Go.Proofs.YteohencmdpahlaaDoor
