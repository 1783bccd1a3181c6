/- Moots, the document's side: Load, walked. -/
import Derived.Test.YtfolnlgceighbaaGreatDoorMrC
import Derived.Test.YtfolnlgceighbaaGreatDoorMrP
import Derived.Test.YtfolnlgceighbaaGreatDoorMrO
namespace Go.Proofs.YtfolnlgceighbaaGreatDoor
open Go.RowKit
attribute [local go_sem ↓] Go.wp_at_zero Go.wp_at_succ

def RLd (s : List UInt8) (W' : World) (u c : Value) (E : Int) : Prop :=
  match loadM s with
  | some y => E = 0 ∧ Cs W' u y.2.1 ∧ Cs W' c (knF 0 y.2.2)
  | none => E = 4 ∧ u = .slice none 0 0 ∧ c = .slice none 0 0
theorem Tryz.size51 : (Tryz.prog.info? 51).map (·.size) = some 2 := by kernel_rfl
theorem Tryz.size100 : (Tryz.prog.info? 100).map (·.size) = some 3 := by kernel_rfl
theorem res51 {W : World} {R : Nat} {u c : Value} (h : W.rangeAt R 0 [u, c]) : (loadVar 51 ⟨R, 0, none⟩).run Tryz.prog W = .ok (.agg #[u, c]) W :=
  run_loadVar_mid W R 0 51 [u, c] _ h Tryz.underlying51 rfl Tryz.size51
theorem chunk_at : ∀ (l : List Int) (k : Nat) (x : C3), l.length % 3 = 0 → (chunk3 l)[k]? = some x → l[3 * k]? = some x.1 ∧ l[3 * k + 1]? = some x.2.1 ∧ l[3 * k + 2]? = some x.2.2
  | [], _, _, _, h => by cases h
  | [_], _, _, h, _ => by simp at h
  | [_, _], _, _, h, _ => by simp at h
  | a :: b :: c :: r, 0, x, _, h => by
    have : (a, b, c) = x := by simpa [chunk3] using h
    subst this
    exact ⟨rfl, rfl, rfl⟩
  | a :: b :: c :: r, k + 1, x, h3, h => by
    obtain ⟨p, q, s⟩ := chunk_at r k x (by simp at h3; omega) (by simpa [chunk3] using h)
    rw [show 3 * (k + 1) = 3 * k + 1 + 1 + 1 by omega]
    exact ⟨p, q, s⟩
theorem Il_at {w : World} {a : Option Addr} {n c : Nat} {l : List Int} (h : Il w (.slice a n c) l) {i : Nat} {x : Int} (hi : l[i]? = some x) : ∃ b o, a = some ⟨b, o, none⟩ ∧ b < w.heap.size ∧ ∀ (j : Nat) y, l[j]? = some y → w.cell? ⟨b, o + j, none⟩ = some (.int .i64 y) := by
  rcases h with ⟨rfl, _⟩ | ⟨b, o, cap, hv, hlt, h⟩
  · cases hi
  · injection hv with h1 _ _
    exact ⟨b, o, h1, hlt, h⟩
theorem loadM_two {s a b : List UInt8} (h : texts s = [a, b]) : loadM s = ((un3 a).bind (tkAll [] [])).bind fun r => ((un3 b).bind (mtAll 0 zK)).map fun cl => (r.1, r.2, cl) := by
  unfold loadM
  rw [h]
  show (match (un3 a).bind (tkAll [] []) with | some r => ((un3 b).bind (mtAll 0 zK)).map fun cl => (r.1, r.2, cl) | none => none) = _
  cases (un3 a).bind (tkAll [] []) <;> rfl
theorem mt_fail {ls : Int} {cl : List Kn} {l : List C3} {A B C : Int} (h : A ≤ ls - 1 ∨ 7 < A ∨ B < 1 ∨ 1099511627776 < B ∨ C < 0 ∨ 999 < C) : mtAll ls cl ((A, B, C) :: l) = none := by
  show (if isA A B = true ∧ ls ≤ A ∧ wi C 0 999 = true then _ else none) = _
  rw [if_neg]
  rintro ⟨h1, h2, h3⟩
  obtain ⟨a1, a2, a3, a4⟩ := isA_z h1
  obtain ⟨b1, b2⟩ := wi_t h3
  omega
theorem mt_on {ls : Int} {cl : List Kn} {l : List C3} {A B C : Int} (h0 : 0 ≤ A) (h1 : ls ≤ A) (h2 : A ≤ 7) (h3 : 1 ≤ B) (h4 : B ≤ 1099511627776) (h5 : 0 ≤ C) (h6 : C ≤ 999) : mtAll ls cl ((A, B, C) :: l) = mtAll (A + 1) (cl.set A.toNat (B.toNat, C)) l := by
  show (if isA A B = true ∧ ls ≤ A ∧ wi C 0 999 = true then _ else none) = _
  rw [if_pos]
  refine ⟨?_, h1, ?_⟩
  · unfold isA wi; simp; omega
  · unfold wi; simp; omega
theorem tk_fail {cs : List (List Nat × List Nat)} {T l : List C3} {x : C3} (h : doE cs x.1 x.2.1 x.2.2 ≠ 0) : tkAll cs T (x :: l) = none := by
  show (if doE cs x.1 x.2.1 x.2.2 = 0 then _ else none) = _
  rw [if_neg h]
theorem tk_on {cs : List (List Nat × List Nat)} {T l : List C3} {x : C3} (h : doE cs x.1 x.2.1 x.2.2 = 0) : tkAll cs T (x :: l) = tkAll (doC cs x.1 x.2.1 x.2.2) (T ++ [x]) l := by
  show (if doE cs x.1 x.2.1 x.2.2 = 0 then _ else none) = _
  rw [if_pos h]
set_option linter.unusedSimpArgs false in
set_option maxRecDepth 20000 in
set_option maxHeartbeats 8000000 in
theorem rMLoad_any (s : List UInt8) (w : World) (hs : s.length ≤ 1000000) :
    Calls Tryz.prog 20 #[.string (bs s)] w fun e W' => ∃ u c E, e = .returned (.tuple #[.agg #[u, c], .int .i64 E]) ∧ RLd s W' u c E ∧ Below w.heap.size w W' := by
  have HNO : Hid (loadM s = none → ∀ W', RLd s W' (.slice none 0 0) (.slice none 0 0) 4) := fun h W' => by unfold RLd; rw [h]; exact ⟨rfl, rfl, rfl⟩
  have HYS : Hid (∀ {x u c W'}, loadM s = some x → Cs W' u x.2.1 → Cs W' c (knF 0 x.2.2) → RLd s W' u c 0) := fun {x u c W'} h h1 h2 => by unfold RLd; rw [h]; exact ⟨rfl, h1, h2⟩
  have hb0 : Below w.heap.size w (w.alloc (.cells #[.slice none 0 0, .slice none 0 0] 51)) := (Below.refl _ w).alloc (Nat.le_refl _) _
  have r0 := heap_alloc_new w (.cells #[.slice none 0 0, .slice none 0 0] 51)
  obtain ⟨W0, hW0⟩ : ∃ W, w.alloc (.cells #[.slice none 0 0, .slice none 0 0] 51) = W := ⟨_, rfl⟩
  have hsz : w.heap.size < W0.heap.size := by rw [← hW0]; simp
  rw [hW0] at hb0 r0
  have HV : Hid (w.alloc (.cells #[.slice none 0 0, .slice none 0 0] 51) = W0) := hW0
  have HB0 : Hid (Below w.heap.size w W0) := hb0
  have HR0 : Hid (W0.heap[w.heap.size]? = some (.cells #[.slice none 0 0, .slice none 0 0] 51) ∧ w.heap.size < W0.heap.size) := ⟨r0, hsz⟩
  have hU := rUnpack_any s W0 (by omega)
  have HSZ : Hid (s.length ≤ 1000000) := hs
  have HTS : Hid (∀ t ∈ texts s, t.length ≤ s.length) := fun t ht => texts_mem_len ht
  have hll := Nat.le_trans (texts_count s) hs
  clear hW0 hb0 r0 hsz
  rcases err_cases s with e0 | e0
  · rw [e0] at hU
    obtain ⟨L, hL⟩ : ∃ L, texts s = L := ⟨_, rfl⟩
    have HL : Hid (texts s = L) := hL
    rw [hL] at hU HTS hll
    clear hs hL e0
    by_cases h2 : L.length = 2
    · obtain ⟨a, b, hab⟩ := list2 h2
      subst hab
      clear h2 hll
      go_enter Tryz.func20, Tryz.ntmps20
      go_upto_region 1 with fail
      rw [HV.out]
      clear HV
      go_upto_region 4 with (first
        | (go_at_call 39; refine hU.mono ?_; clear hU; rintro e w1 ⟨v, rfl, hown, hb1⟩; obtain ⟨va, vc, rfl⟩ := owns_slice hown; have HO1 : Hid (w1.ownsRow W0.heap.size 9 1 (.slice va [a, b].length vc) [a, b].length (strs [a, b])) := hown; have HB1 : Hid (Below W0.heap.size W0 w1) := hb1; clear hown hb1))
      have hSl := Sl.of_owns HO1.out
      obtain ⟨b1, o1, hva, c0⟩ := Sl_at hSl (i := 0) (t := a) rfl
      subst hva
      have c0 : w1.cell? ⟨b1, o1, none⟩ = some (.string (bs a)) := c0
      have HSC : Hid (∀ W, Below w1.heap.size w1 W → W.cell? ⟨b1, o1 + 1, none⟩ = some (.string (bs b))) := fun W hW => by
        obtain ⟨x1, z1, e1, q1⟩ := Sl_at (hSl.below hW (Nat.le_refl _)) (i := 1) (t := b) rfl
        injection e1 with e1; injection e1 with e11 e12
        subst e11 e12
        exact q1
      have hNa := numbers_any a w1 (Nat.le_trans (HTS.out a (by simp)) HSZ.out)
      have HNb : Hid (∀ W, Calls Tryz.prog 48 #[.string (bs b)] W fun e W' => ∃ v bb, e = .returned (.tuple #[v, .bool bb]) ∧ NuPost b W.heap.size v bb W' ∧ Below W.heap.size W W') := fun W => numbers_any b W (Nat.le_trans (HTS.out b (by simp)) HSZ.out)
      clear hSl HO1
      go_upto_region 5 with (first
        | (go_at_call 48; refine hNa.mono ?_; clear hNa; rintro e w2 ⟨v6, b7, rfl, hn, hb2⟩; have HNA : Hid (NuPost a w1.heap.size v6 b7 w2) := hn; have HB2 : Hid (Below w1.heap.size w1 w2) := hb2; clear hn hb2))
      have c1 := HSC.out w2 HB2.out
      have hNb := HNb.out w2
      clear c0 HSC HNb
      go_upto_region 6 with (first
        | (go_at_call 48; refine hNb.mono ?_; clear hNb; rintro e wk ⟨v8, b9, rfl, hn, hb3⟩; have HNB : Hid (NuPost b w2.heap.size v8 b9 wk) := hn; have HB3 : Hid (Below w2.heap.size w2 wk) := hb3; clear hn hb3))
      clear c1
      have HBk : Hid (Below W0.heap.size W0 wk) := HB1.out.trans ((HB2.out.trans (HB3.out.mono HB2.out.size)).mono HB1.out.size)
      have HRk : Hid (wk.heap[w.heap.size]? = some (.cells #[.slice none 0 0, .slice none 0 0] 51) ∧ w.heap.size < wk.heap.size) := ⟨(HBk.out.block _ HR0.out.2).trans HR0.out.1, Nat.lt_of_lt_of_le HR0.out.2 HBk.out.size⟩
      have HBw0 : Hid (Below w.heap.size w wk) := HB0.out.trans (HBk.out.mono HB0.out.size)
      have HLD0 : Hid (loadM s = ((un3 a).bind (tkAll [] [])).bind fun r => ((un3 b).bind (mtAll 0 zK)).map fun cl => (r.1, r.2, cl)) := loadM_two HL.out
      have hNA := HNA.out
      have hNB := HNB.out
      unfold NuPost at hNA hNB
      cases hxa : nu3 a with
      | none =>
        rw [hxa] at hNA
        subst hNA
        have HN : Hid (loadM s = none) := by show _ = _; rw [HLD0.out, un3_nu a, hxa]; rfl
        clear hxa hNB HLD0 HNA HNB
        go_wp2_with (first
          | (refine wpList_store_mid rfl 51 _ _ rfl w.heap.size 0 #[.slice none 0 0, .slice none 0 0] rfl rfl (blk_there HRk.out.1 0 2 (Nat.le_refl _)) Tryz.size51 (by simp [Value.oneCell']) ?_))
        have k4 := blk_range (blk_set HRk.out.1 (L := [.slice none 0 0, .slice none 0 0]) rfl)
        exact bodyPost_ret (v := .tuple #[.agg #[.slice none 0 0, .slice none 0 0], .int .i64 4]) (results_two rfl rfl rfl (res51 k4)) rfl ⟨_, _, _, rfl, HNO.out HN.out _, blk_below (Nat.le_refl _) _ _ _ HBw0.out⟩
      | some x =>
        rw [hxa] at hNA
        obtain ⟨rfl, hil, hxl, hxo⟩ := hNA
        have hx3 := nu3_three hxa
        have HLD1 : Hid (loadM s = (tkAll [] [] (chunk3 x)).bind fun r => ((un3 b).bind (mtAll 0 zK)).map fun cl => (r.1, r.2, cl)) := by show _ = _; rw [HLD0.out, un3_nu a, hxa]; rfl
        obtain ⟨x6a, x6c, rfl⟩ := hil.slice
        cases hyb : nu3 b with
        | none =>
          rw [hyb] at hNB
          subst hNB
          have HN : Hid (loadM s = none) := by show _ = _; rw [HLD1.out, un3_nu b, hyb]; cases tkAll [] [] (chunk3 x) <;> rfl
          clear hxa hyb HLD0 HLD1 HNA HNB hil hxl hxo hx3
          go_wp2_with (first
            | (refine wpList_store_mid rfl 51 _ _ rfl w.heap.size 0 #[.slice none 0 0, .slice none 0 0] rfl rfl (blk_there HRk.out.1 0 2 (Nat.le_refl _)) Tryz.size51 (by simp [Value.oneCell']) ?_))
          have k4 := blk_range (blk_set HRk.out.1 (L := [.slice none 0 0, .slice none 0 0]) rfl)
          exact bodyPost_ret (v := .tuple #[.agg #[.slice none 0 0, .slice none 0 0], .int .i64 4]) (results_two rfl rfl rfl (res51 k4)) rfl ⟨_, _, _, rfl, HNO.out HN.out _, blk_below (Nat.le_refl _) _ _ _ HBw0.out⟩
        | some y =>
          rw [hyb] at hNB
          obtain ⟨rfl, hil2, hyl, hyo⟩ := hNB
          have hy3 := nu3_three hyb
          have HLD : Hid (loadM s = (tkAll [] [] (chunk3 x)).bind fun r => (mtAll 0 zK (chunk3 y)).map fun cl => (r.1, r.2, cl)) := by show _ = _; rw [HLD1.out, un3_nu b, hyb]; rfl
          obtain ⟨y8a, y8c, rfl⟩ := hil2.slice
          obtain ⟨T, hT⟩ : ∃ T, chunk3 x = T := ⟨_, rfl⟩
          obtain ⟨T2, hT2⟩ : ∃ T2, chunk3 y = T2 := ⟨_, rfl⟩
          have hTl : T.length * 3 = x.length := by rw [← hT]; exact (ccs_chunk x hx3).2
          have hT2l : T2.length * 3 = y.length := by rw [← hT2]; exact (ccs_chunk y hy3).2
          rw [hT, hT2] at HLD
          by_cases h120 : x.length > 120
          · have h120i : (x.length : Int) > 120 := by omega
            have HN : Hid (loadM s = none) := by show _ = _; rw [HLD.out, tk_long (l := T) (by omega)]; rfl
            clear hxa hyb HLD0 HLD1 HLD HNA HNB hil hil2 hxl hyl hxo hyo hx3 hy3 hT hT2 hTl hT2l h120
            go_wp2_with (first
              | (refine wpList_store_mid rfl 51 _ _ rfl w.heap.size 0 #[.slice none 0 0, .slice none 0 0] rfl rfl (blk_there HRk.out.1 0 2 (Nat.le_refl _)) Tryz.size51 (by simp [Value.oneCell']) ?_))
            have k4 := blk_range (blk_set HRk.out.1 (L := [.slice none 0 0, .slice none 0 0]) rfl)
            exact bodyPost_ret (v := .tuple #[.agg #[.slice none 0 0, .slice none 0 0], .int .i64 4]) (results_two rfl rfl rfl (res51 k4)) rfl ⟨_, _, _, rfl, HNO.out HN.out _, blk_below (Nat.le_refl _) _ _ _ HBw0.out⟩
          · have h120i : ¬ (x.length : Int) > 120 := by omega
            have HXA : Hid (∀ (k : Nat) z, T[k]? = some z → x[3 * k]? = some z.1 ∧ x[3 * k + 1]? = some z.2.1 ∧ x[3 * k + 2]? = some z.2.2) := fun k z hz => chunk_at x k z hx3 (by rw [hT]; exact hz)
            have HYA : Hid (∀ (k : Nat) z, T2[k]? = some z → y[3 * k]? = some z.1 ∧ y[3 * k + 1]? = some z.2.1 ∧ y[3 * k + 2]? = some z.2.2) := fun k z hz => chunk_at y k z hy3 (by rw [hT2]; exact hz)
            have HIX : Hid (Il wk (.slice x6a x.length x6c) x ∧ Il wk (.slice y8a y.length y8c) y) := ⟨hil.next HB3.out, hil2⟩
            have HTL : Hid (T.length * 3 = x.length ∧ T2.length * 3 = y.length ∧ x.length ≤ 120 ∧ y.length ≤ 1000000) := ⟨hTl, hT2l, by omega, Nat.le_trans hyl (Nat.le_trans (HTS.out b (by simp)) HSZ.out)⟩
            have hbK : Below wk.heap.size wk (wk.alloc (.cells #[.slice none 0 0, .slice none 0 0] 51)) := (Below.refl _ wk).alloc (Nat.le_refl _) _
            have rK := heap_alloc_new wk (.cells #[.slice none 0 0, .slice none 0 0] 51)
            obtain ⟨W3, hW3⟩ : ∃ W, wk.alloc (.cells #[.slice none 0 0, .slice none 0 0] 51) = W := ⟨_, rfl⟩
            obtain ⟨K, hK⟩ : ∃ K, wk.heap.size = K := ⟨_, rfl⟩
            rw [hW3] at hbK rK
            have hbK2 := hbK
            rw [hK] at rK
            have HM0 : Hid (RmAt wk.heap.size W3 K (.slice none 0 0) (.slice none 0 0) []) := ⟨rK, World.ownsRow_nil _ _ _ _, Nat.le_of_eq hK, fun e => by cases e⟩
            have HB3k : Hid (Below wk.heap.size wk W3) := hbK
            have HV3 : Hid (wk.alloc (.cells #[.slice none 0 0, .slice none 0 0] 51) = W3 ∧ wk.heap.size = K) := ⟨hW3, hK⟩
            clear hxa hyb HLD0 HLD1 HNA HNB hil hil2 hxl hyl hxo hyo hx3 hy3 hT hT2 hTl hT2l h120 hbK hbK2 rK hW3 hK
            go_upto_region 9 with fail
            rw [HV3.out.1, HV3.out.2]
            clear HV3 h120i
            go_wp2_with fail
            go_loopg [11] T.length (fun gk i wr => ∃ (k q : Nat) (u : Value), k + gk = T.length ∧ q = 3 * k ∧ i = .int .i64 (q : Int) ∧ tkAll [] [] T = tkAll (runC [] (T.take k)) (T.take k) (T.drop k) ∧ RmAt wk.heap.size wr K u (.slice none 0 0) (T.take k) ∧ Below wk.heap.size wk wr)
            case atStart => exact ⟨0, 0, .slice none 0 0, by omega, rfl, rfl, rfl, HM0.out, HB3k.out⟩
            case round =>
              obtain ⟨k, q, u, hk, hq, rfl, htk, hRm, hBr⟩ := hrel
              have HRr : Hid (wr.heap[w.heap.size]? = some (.cells #[.slice none 0 0, .slice none 0 0] 51)) := (hBr.block _ HRk.out.2).trans HRk.out.1
              have HBr : Hid (Below wk.heap.size wk wr) := hBr
              have HMr : Hid (RmAt wk.heap.size wr K u (.slice none 0 0) (T.take k)) := hRm
              by_cases hlt : k < T.length
              · obtain ⟨z, hz⟩ : ∃ z, T[k]? = some z := ⟨_, List.getElem?_eq_getElem hlt⟩
                obtain ⟨A, B, C⟩ := z
                obtain ⟨z0, z1, z2⟩ := HXA.out k _ hz
                obtain ⟨xb, xo, hxa, hxb, hcell⟩ := Il_at HIX.out.1 z0
                subst hxa
                have hdr : T.drop k = (A, B, C) :: T.drop (k + 1) := by
                  rw [List.drop_eq_getElem_cons hlt]
                  congr 1
                  rw [List.getElem?_eq_getElem hlt] at hz
                  exact Option.some.inj hz
                have htk1 : T.take (k + 1) = T.take k ++ [(A, B, C)] := by rw [List.take_add_one, hz]; rfl
                rw [← hq] at z0 z1 z2
                obtain ⟨q1, hq1⟩ : ∃ q1, q + 1 = q1 := ⟨_, rfl⟩
                obtain ⟨q2, hq2⟩ : ∃ q2, q + 2 = q2 := ⟨_, rfl⟩
                obtain ⟨q3, hq3⟩ : ∃ q3, q + 3 = q3 := ⟨_, rfl⟩
                rw [hq1] at z1
                rw [hq2] at z2
                have g3 := HTL.out.2.2.1
                have g1 := HTL.out.1
                have HX3 : Hid (∀ W, Below wk.heap.size wk W → W.cell? ⟨xb, xo + q, none⟩ = some (.int .i64 A) ∧ W.cell? ⟨xb, xo + q1, none⟩ = some (.int .i64 B) ∧ W.cell? ⟨xb, xo + q2, none⟩ = some (.int .i64 C)) := fun W hW => ⟨(hW.cell (p := ⟨xb, xo + q, none⟩) hxb).trans (hcell q _ z0), (hW.cell (p := ⟨xb, xo + q1, none⟩) hxb).trans (hcell q1 _ z1), (hW.cell (p := ⟨xb, xo + q2, none⟩) hxb).trans (hcell q2 _ z2)⟩
                have w1e : IntKind.i64.wrap ((q : Int) + 1) = (q1 : Int) := by simp [IntKind.wrap, IntKind.bits, IntKind.signed]; omega
                have w2e : IntKind.i64.wrap ((q : Int) + 2) = (q2 : Int) := by simp [IntKind.wrap, IntKind.bits, IntKind.signed]; omega
                have w3e : IntKind.i64.wrap ((q : Int) + 3) = (q3 : Int) := by simp [IntKind.wrap, IntKind.bits, IntKind.signed]; omega
                have p0 : (0 : Int) ≤ (q : Int) := by omega
                have p1 : (q : Int) < (x.length : Int) := by omega
                have p2 : (0 : Int) ≤ (q1 : Int) := by omega
                have p3 : (q1 : Int) < (x.length : Int) := by omega
                have p4 : (0 : Int) ≤ (q2 : Int) := by omega
                have p5 : (q2 : Int) < (x.length : Int) := by omega
                have HQ : Hid (q = 3 * k ∧ q3 = q + 3 ∧ k + gk = T.length ∧ k < T.length) := ⟨hq, hq3.symm, hk, hlt⟩
                have HTK : Hid (tkAll [] [] T = tkAll (runC [] (T.take k)) (T.take k) ((A, B, C) :: T.drop (k + 1)) ∧ T.take (k + 1) = T.take k ++ [(A, B, C)]) := ⟨by rw [htk, hdr], htk1⟩
                clear hk hq htk hRm hBr hlt hz z0 z1 z2 hcell hdr htk1 hq1 hq2 hq3 g3 g1
                go_upto_region 12 with fail
                refine region_Z 99 (fun w' => w'.cell? ⟨xb, xo + q, none⟩ = some (.int .i64 A) ∧ w'.cell? ⟨xb, xo + q1, none⟩ = some (.int .i64 B) ∧ w'.cell? ⟨xb, xo + q2, none⟩ = some (.int .i64 C)) (by kernel_rfl) ?_
                have hS0 := HX3.out wr.drew (below_drew HBr.out)
                refine Y_take (i := 0) (v := ?_) rfl (by kernel_rfl) (by kernel_rfl) (by kernel_rfl) (by kernel_rfl) (fun _ _ _ h => h) (by rfl) hS0 ?_ ?_
                rotate_left
                · (intro w' hSw; obtain ⟨e0, e1, e2⟩ := hSw; go_simp; (try with_reducible rfl))
                simp only [Act.put, List.getElem_toArray, List.getElem_cons_succ, List.getElem_cons_zero, List.setIfInBounds_toArray, List.set_cons_succ, List.set_cons_zero]
                refine Y_take (i := 1) (v := ?_) rfl (by kernel_rfl) (by kernel_rfl) (by kernel_rfl) (by kernel_rfl) (fun _ _ _ h => h) (by rfl) hS0 ?_ ?_
                rotate_left
                · (intro w' hSw; obtain ⟨e0, e1, e2⟩ := hSw; go_simp; (try with_reducible rfl))
                simp only [Act.put, List.getElem_toArray, List.getElem_cons_succ, List.getElem_cons_zero, List.setIfInBounds_toArray, List.set_cons_succ, List.set_cons_zero]
                refine Y_take (i := 2) (v := ?_) rfl (by kernel_rfl) (by kernel_rfl) (by kernel_rfl) (by kernel_rfl) (fun _ _ _ h => h) (by rfl) hS0 ?_ ?_
                rotate_left
                · (intro w' hSw; obtain ⟨e0, e1, e2⟩ := hSw; go_simp; (try with_reducible rfl))
                simp only [Act.put, List.getElem_toArray, List.getElem_cons_succ, List.getElem_cons_zero, List.setIfInBounds_toArray, List.set_cons_succ, List.set_cons_zero]
                refine Y_take (i := 3) (v := ?_) rfl (by kernel_rfl) (by kernel_rfl) (by kernel_rfl) (by kernel_rfl) (fun _ _ _ h => h) (by rfl) hS0 ?_ ?_
                rotate_left
                · (intro w' hSw; obtain ⟨e0, e1, e2⟩ := hSw; go_simp; (try with_reducible rfl))
                simp only [Act.put, List.getElem_toArray, List.getElem_cons_succ, List.getElem_cons_zero, List.setIfInBounds_toArray, List.set_cons_succ, List.set_cons_zero]
                refine Y_take (i := 4) (v := ?_) rfl (by kernel_rfl) (by kernel_rfl) (by kernel_rfl) (by kernel_rfl) (fun _ _ _ h => h) (by rfl) hS0 ?_ ?_
                rotate_left
                · (intro w' hSw; obtain ⟨e0, e1, e2⟩ := hSw; go_simp; (try with_reducible rfl))
                simp only [Act.put, List.getElem_toArray, List.getElem_cons_succ, List.getElem_cons_zero, List.setIfInBounds_toArray, List.set_cons_succ, List.set_cons_zero]
                refine Y_take (i := 5) (v := ?_) rfl (by kernel_rfl) (by kernel_rfl) (by kernel_rfl) (by kernel_rfl) (fun _ _ _ h => h) (by rfl) hS0 ?_ ?_
                rotate_left
                · (intro w' hSw; obtain ⟨e0, e1, e2⟩ := hSw; go_simp; (try with_reducible rfl))
                simp only [Act.put, List.getElem_toArray, List.getElem_cons_succ, List.getElem_cons_zero, List.setIfInBounds_toArray, List.set_cons_succ, List.set_cons_zero]
                refine Y_take (i := 6) (v := ?_) rfl (by kernel_rfl) (by kernel_rfl) (by kernel_rfl) (by kernel_rfl) (fun _ _ _ h => h) (by rfl) hS0 ?_ ?_
                rotate_left
                · (intro w' hSw; obtain ⟨e0, e1, e2⟩ := hSw; go_simp; (try with_reducible rfl))
                simp only [Act.put, List.getElem_toArray, List.getElem_cons_succ, List.getElem_cons_zero, List.setIfInBounds_toArray, List.set_cons_succ, List.set_cons_zero]
                refine Y_take (i := 7) (v := ?_) rfl (by kernel_rfl) (by kernel_rfl) (by kernel_rfl) (by kernel_rfl) (fun _ _ _ h => h) (by rfl) hS0 ?_ ?_
                rotate_left
                · (intro w' hSw; obtain ⟨e0, e1, e2⟩ := hSw; go_simp; (try with_reducible rfl))
                simp only [Act.put, List.getElem_toArray, List.getElem_cons_succ, List.getElem_cons_zero, List.setIfInBounds_toArray, List.set_cons_succ, List.set_cons_zero]
                refine Y_take (i := 8) (v := ?_) rfl (by kernel_rfl) (by kernel_rfl) (by kernel_rfl) (by kernel_rfl) (fun _ _ _ h => h) (by rfl) hS0 ?_ ?_
                rotate_left
                · (intro w' hSw; obtain ⟨e0, e1, e2⟩ := hSw; go_simp; (try with_reducible rfl))
                simp only [Act.put, List.getElem_toArray, List.getElem_cons_succ, List.getElem_cons_zero, List.setIfInBounds_toArray, List.set_cons_succ, List.set_cons_zero]
                refine Y_take (i := 9) (v := ?_) rfl (by kernel_rfl) (by kernel_rfl) (by kernel_rfl) (by kernel_rfl) (fun _ _ _ h => h) (by rfl) hS0 ?_ ?_
                rotate_left
                · (intro w' hSw; obtain ⟨e0, e1, e2⟩ := hSw; go_simp; (try with_reducible rfl))
                simp only [Act.put, List.getElem_toArray, List.getElem_cons_succ, List.getElem_cons_zero, List.setIfInBounds_toArray, List.set_cons_succ, List.set_cons_zero]
                refine Y_take (i := 10) (v := ?_) rfl (by kernel_rfl) (by kernel_rfl) (by kernel_rfl) (by kernel_rfl) (fun _ _ _ h => h) (by rfl) hS0 ?_ ?_
                rotate_left
                · (intro w' hSw; obtain ⟨e0, e1, e2⟩ := hSw; go_simp; (try with_reducible rfl))
                simp only [Act.put, List.getElem_toArray, List.getElem_cons_succ, List.getElem_cons_zero, List.setIfInBounds_toArray, List.set_cons_succ, List.set_cons_zero]
                refine Y_take (i := 11) (v := ?_) rfl (by kernel_rfl) (by kernel_rfl) (by kernel_rfl) (by kernel_rfl) (fun _ _ _ h => h) (by rfl) hS0 ?_ ?_
                rotate_left
                · (intro w' hSw; obtain ⟨e0, e1, e2⟩ := hSw; go_simp; (try with_reducible rfl))
                simp only [Act.put, List.getElem_toArray, List.getElem_cons_succ, List.getElem_cons_zero, List.setIfInBounds_toArray, List.set_cons_succ, List.set_cons_zero]
                refine Y_take (i := 12) (v := ?_) rfl (by kernel_rfl) (by kernel_rfl) (by kernel_rfl) (by kernel_rfl) (fun _ _ _ h => h) (by rfl) hS0 ?_ ?_
                rotate_left
                · (intro w' hSw; obtain ⟨e0, e1, e2⟩ := hSw; go_simp; (try with_reducible rfl))
                simp only [Act.put, List.getElem_toArray, List.getElem_cons_succ, List.getElem_cons_zero, List.setIfInBounds_toArray, List.set_cons_succ, List.set_cons_zero]
                refine Y_take (i := 13) (v := ?_) rfl (by kernel_rfl) (by kernel_rfl) (by kernel_rfl) (by kernel_rfl) (fun _ _ _ h => h) (by rfl) hS0 ?_ ?_
                rotate_left
                · (intro w' hSw; obtain ⟨e0, e1, e2⟩ := hSw; go_simp; (try with_reducible rfl))
                simp only [Act.put, List.getElem_toArray, List.getElem_cons_succ, List.getElem_cons_zero, List.setIfInBounds_toArray, List.set_cons_succ, List.set_cons_zero]
                refine Y_take (i := 14) (v := ?_) rfl (by kernel_rfl) (by kernel_rfl) (by kernel_rfl) (by kernel_rfl) (fun _ _ _ h => h) (by rfl) hS0 ?_ ?_
                rotate_left
                · (intro w' hSw; obtain ⟨e0, e1, e2⟩ := hSw; go_simp; (try with_reducible rfl))
                simp only [Act.put, List.getElem_toArray, List.getElem_cons_succ, List.getElem_cons_zero, List.setIfInBounds_toArray, List.set_cons_succ, List.set_cons_zero]
                refine Z_step (i := 15) (by kernel_rfl) rfl (fun Kk hK => ?_)
                go_simp
                have hb5 : Below wr.heap.size wr (wr.alloc (.cells #[.int .i64 0, .int .i64 0, .int .i64 0] 100)).drew := below_drew ((Below.refl _ _).alloc (Nat.le_refl _) _)
                have hzz : (wr.alloc (.cells #[.int .i64 0, .int .i64 0, .int .i64 0] 100)).drew.heap[wr.heap.size]? = some (.cells #[.int .i64 0, .int .i64 0, .int .i64 0] 100) := heap_alloc_new wr _
                have hS5 := HX3.out _ (HBr.out.trans (hb5.mono HBr.out.size))
                refine hK _ _ (fun _ => hS5) ?_
                clear hK Kk
                refine Z_step (i := 16) (by kernel_rfl) rfl (fun Kk hK => ?_)
                refine step_store_mid (by rfl) 100 _ _ (by rfl) wr.heap.size 0 #[.int .i64 A, .int .i64 B, .int .i64 C] (by rfl) (by rfl) (blk_there hzz 0 3 (Nat.le_refl _)) Tryz.size100 (by simp [Value.oneCell']) ?_
                have hz := blk_set hzz (L := [.int .i64 A, .int .i64 B, .int .i64 C]) rfl
                have hbZ := blk_below (Nat.le_refl _) [.int .i64 A, .int .i64 B, .int .i64 C] 0 _ hb5
                have hSZ := HX3.out _ (HBr.out.trans (hbZ.mono HBr.out.size))
                refine hK _ _ (fun _ => hSZ) (Z_done (by kernel_rfl) ?_ _)
                clear hK Kk
                obtain ⟨WZ, hWZ⟩ : ∃ W, (wr.alloc (.cells #[.int .i64 0, .int .i64 0, .int .i64 0] 100)).drew.setCells wr.heap.size 0 [.int .i64 A, .int .i64 B, .int .i64 C] = W := ⟨_, rfl⟩
                obtain ⟨D, hD⟩ : ∃ D, wr.heap.size = D := ⟨_, rfl⟩
                rw [hWZ] at hz hbZ
                simp only [List.setIfInBounds_toArray, List.set_cons_succ, List.set_cons_zero]
                rw [hWZ]
                have HLoad : Hid (WZ.rangeAt D 0 [.int .i64 A, .int .i64 B, .int .i64 C]) := by rw [← hD]; exact blk_range hz
                have hBZ := HBr.out.trans (hbZ.mono HBr.out.size)
                have hMZ := HMr.out.next hbZ
                have hTk := rMTake_any A B C wk.heap.size K u (T.take k) wk WZ hMZ hBZ (by rw [List.length_take]; have h2 := HTL.out; omega)
                clear hz hbZ hSZ hS5 hzz hb5 hS0 hWZ hBZ hMZ
                rw [hD]
                clear hD
                by_cases hd : doE (runC [] (T.take k)) A B C = 0
                · have hTk2 : Calls Tryz.prog 49 #[.pointer (some ⟨K, 0, none⟩), .agg #[.int .i64 A, .int .i64 B, .int .i64 C]] WZ fun e W' => e = .returned (.int .i64 0) ∧ Below wk.heap.size wk W' ∧ ∃ u', RmAt wk.heap.size W' K u' (.slice none 0 0) (T.take k ++ [(A, B, C)]) := by
                    refine hTk.mono ?_
                    rintro e W' ⟨E, rfl, t1, t2, t3⟩
                    have hE0 := t2.2 hd
                    subst hE0
                    exact ⟨rfl, t1, t3 rfl⟩
                  have HON : Hid (tkAll [] [] T = tkAll (runC [] (T.take (k + 1))) (T.take (k + 1)) (T.drop (k + 1))) := by show _ = _; rw [HTK.out.1, tk_on hd, HTK.out.2, runC_snoc]
                  clear hTk hd
                  go_wp2_with (first
                    | (refine wpList_load_mid rfl 100 _ rfl D 0 rfl [.int .i64 A, .int .i64 B, .int .i64 C] _ HLoad.out Tryz.underlying100 rfl Tryz.size100 ?_)
                    | (go_at_call 49; refine hTk2.mono ?_; clear hTk2; rintro e w5 ⟨rfl, t1, t3⟩; have HT5 : Hid (_ ∧ _) := ⟨t1, t3⟩; clear t1 t3))
                  go_roundg (T.length - (k + 1))
                  case measure => have := HQ.out; omega
                  case rel =>
                    obtain ⟨t1, u', t3⟩ := HT5.out
                    exact ⟨k + 1, q3, u', by have := HQ.out; omega, by have := HQ.out; omega, by first | rfl | go_num, HON.out, by rw [HTK.out.2]; exact t3, t1⟩
                · have hTk2 : Calls Tryz.prog 49 #[.pointer (some ⟨K, 0, none⟩), .agg #[.int .i64 A, .int .i64 B, .int .i64 C]] WZ fun e W' => ∃ E, e = .returned (.int .i64 E) ∧ (E != 0) = true ∧ Below wk.heap.size wk W' := by
                    refine hTk.mono ?_
                    rintro e W' ⟨E, rfl, t1, t2, t3⟩
                    exact ⟨E, rfl, by simpa using fun h => hd (t2.1 h), t1⟩
                  have HN : Hid (loadM s = none) := by show _ = _; rw [HLD.out, HTK.out.1, tk_fail hd]; rfl
                  clear hTk hd
                  go_upto_region 14 with (first
                    | (refine wpList_load_mid rfl 100 _ rfl D 0 rfl [.int .i64 A, .int .i64 B, .int .i64 C] _ HLoad.out Tryz.underlying100 rfl Tryz.size100 ?_)
                    | (go_at_call 49; refine hTk2.mono ?_; clear hTk2; rintro e w5 ⟨E, rfl, hne, t1⟩; have HT5 : Hid (Below wk.heap.size wk w5) := t1; clear t1))
                  have HR5 : Hid (w5.heap[w.heap.size]? = some (.cells #[.slice none 0 0, .slice none 0 0] 51)) := (HT5.out.block _ HRk.out.2).trans HRk.out.1
                  have HB5 : Hid (Below w.heap.size w w5) := HBw0.out.trans (HT5.out.mono HBw0.out.size)
                  go_wp2_with (first
                    | (refine wpList_store_mid rfl 51 _ _ rfl w.heap.size 0 #[.slice none 0 0, .slice none 0 0] rfl rfl (blk_there HR5.out 0 2 (Nat.le_refl _)) Tryz.size51 (by simp [Value.oneCell']) ?_))
                  have k4 := blk_range (blk_set HR5.out (L := [.slice none 0 0, .slice none 0 0]) rfl)
                  exact bodyPost_ret (v := .tuple #[.agg #[.slice none 0 0, .slice none 0 0], .int .i64 4]) (results_two rfl rfl rfl (res51 k4)) rfl ⟨_, _, _, rfl, HNO.out HN.out _, blk_below (Nat.le_refl _) _ _ _ HB5.out⟩
              · have hkl : k = T.length := by omega
                subst hkl
                rw [List.take_length] at hRm htk HMr
                rw [List.drop_length] at htk
                have HQE : Hid (q = 3 * T.length) := hq
                have HMT : Hid (RmAt wk.heap.size wr K u (.slice none 0 0) T) := hRm
                have HLM : Hid (loadM s = (mtAll 0 zK T2).map fun cl => (runC [] T, T, cl)) := by show _ = _; rw [HLD.out, htk]; rfl
                have HUN : Hid (∀ W, Below wr.heap.size wr W → True) := fun _ _ => trivial
                clear hk hq htk hRm hBr hlt HMr HLD HXA HUN
                obtain ⟨i0, hi, hz0, hz1, hz2⟩ := info_parts (show (Tryz.prog.info? 103).map (fun i => (i.zero, i.size, i.bytes)) = some (some (.agg #[.int .i64 0, .int .i64 0, .int .i64 0]), 3, 24) by kernel_rfl)
                have HINF : Hid (Tryz.prog.info? 103 = some i0 ∧ i0.zero = some (.agg #[.int .i64 0, .int .i64 0, .int .i64 0]) ∧ i0.size = 3 ∧ i0.bytes = 24) := ⟨hi, hz0, hz1, hz2⟩
                clear hi hz0 hz1 hz2
                have p9 : ¬ (q : Int) < (x.length : Int) := by have := HTL.out; have := HQE.out; omega
                go_wp2_with fail
                clear p9
                go_loopg [13, 14] T2.length (fun gk pv i wv => ∃ (k q : Nat) (ls : Int) (cl : List Kn) (c : Value), k + gk = T2.length ∧ q = 3 * k ∧ pv = .int .i64 (ls - 1) ∧ (0 ≤ ls ∧ ls ≤ 8) ∧ i = .int .i64 (q : Int) ∧ mtAll 0 zK T2 = mtAll ls cl (T2.drop k) ∧ RmAt wk.heap.size wv K u c T ∧ wv.ownsRow wk.heap.size 103 3 c k (ccs (T2.take k)) ∧ (c.ownBlock ≠ some K ∧ ∀ j, u.ownBlock = some j → c.ownBlock ≠ some j) ∧ Below wk.heap.size wk wv)
                case atStart => exact ⟨0, 0, 0, zK, .slice none 0 0, by omega, rfl, rfl, ⟨by decide, by decide⟩, rfl, rfl, HMT.out, World.ownsRow_nil _ _ _ _, ⟨fun e => (by cases e), fun j _ e => (by cases e)⟩, HBr.out⟩
                case round =>
                  clear HBr HRr HMT
                  obtain ⟨k, q, ls, cl, c, hk, hq, rfl, hls, rfl, hmt, hRm, hown, hap, hBr⟩ := hrel
                  have HRr : Hid (wr.heap[w.heap.size]? = some (.cells #[.slice none 0 0, .slice none 0 0] 51)) := (hBr.block _ HRk.out.2).trans HRk.out.1
                  have HBr : Hid (Below wk.heap.size wk wr) := hBr
                  have HBw : Hid (Below w.heap.size w wr) := HBw0.out.trans (hBr.mono HBw0.out.size)
                  have HMr : Hid (RmAt wk.heap.size wr K u c T) := hRm
                  have hownr := hown
                  obtain ⟨ca, cc, rfl⟩ := owns_slice hown
                  by_cases hlt : k < T2.length
                  · obtain ⟨z, hz⟩ : ∃ z, T2[k]? = some z := ⟨_, List.getElem?_eq_getElem hlt⟩
                    obtain ⟨A, B, C⟩ := z
                    obtain ⟨z0, z1, z2⟩ := HYA.out k _ hz
                    obtain ⟨xb, xo, hxa, hxb, hcell⟩ := Il_at HIX.out.2 z0
                    subst hxa
                    have hdr : T2.drop k = (A, B, C) :: T2.drop (k + 1) := by
                      rw [List.drop_eq_getElem_cons hlt]
                      congr 1
                      rw [List.getElem?_eq_getElem hlt] at hz
                      exact Option.some.inj hz
                    have htk1 : T2.take (k + 1) = T2.take k ++ [(A, B, C)] := by rw [List.take_add_one, hz]; rfl
                    rw [← hq] at z0 z1 z2
                    obtain ⟨q1, hq1⟩ : ∃ q1, q + 1 = q1 := ⟨_, rfl⟩
                    obtain ⟨q2, hq2⟩ : ∃ q2, q + 2 = q2 := ⟨_, rfl⟩
                    obtain ⟨q3, hq3⟩ : ∃ q3, q + 3 = q3 := ⟨_, rfl⟩
                    rw [hq1] at z1
                    rw [hq2] at z2
                    have g3 := HTL.out.2.2.2
                    have g1 := HTL.out.2.1
                    have HX3 : Hid (∀ W, Below wk.heap.size wk W → W.cell? ⟨xb, xo + q, none⟩ = some (.int .i64 A) ∧ W.cell? ⟨xb, xo + q1, none⟩ = some (.int .i64 B) ∧ W.cell? ⟨xb, xo + q2, none⟩ = some (.int .i64 C)) := fun W hW => ⟨(hW.cell (p := ⟨xb, xo + q, none⟩) hxb).trans (hcell q _ z0), (hW.cell (p := ⟨xb, xo + q1, none⟩) hxb).trans (hcell q1 _ z1), (hW.cell (p := ⟨xb, xo + q2, none⟩) hxb).trans (hcell q2 _ z2)⟩
                    have w1e : IntKind.i64.wrap ((q : Int) + 1) = (q1 : Int) := by simp [IntKind.wrap, IntKind.bits, IntKind.signed]; omega
                    have w2e : IntKind.i64.wrap ((q : Int) + 2) = (q2 : Int) := by simp [IntKind.wrap, IntKind.bits, IntKind.signed]; omega
                    have w3e : IntKind.i64.wrap ((q : Int) + 3) = (q3 : Int) := by simp [IntKind.wrap, IntKind.bits, IntKind.signed]; omega
                    have p0 : (0 : Int) ≤ (q : Int) := by omega
                    have p1 : (q : Int) < (y.length : Int) := by omega
                    have p2 : (0 : Int) ≤ (q1 : Int) := by omega
                    have p3 : (q1 : Int) < (y.length : Int) := by omega
                    have p4 : (0 : Int) ≤ (q2 : Int) := by omega
                    have p5 : (q2 : Int) < (y.length : Int) := by omega
                    have HQ : Hid (q = 3 * k ∧ q3 = q + 3 ∧ k + gk = T2.length ∧ k < T2.length) := ⟨hq, hq3.symm, hk, hlt⟩
                    have HML : Hid (k + 1 ≤ maxLen ∧ (k + 1) * 24 ≤ 140737488355328) := ⟨by unfold maxLen; omega, by omega⟩
                    have HTK : Hid (mtAll 0 zK T2 = mtAll ls cl ((A, B, C) :: T2.drop (k + 1)) ∧ T2.take (k + 1) = T2.take k ++ [(A, B, C)]) := ⟨by rw [hmt, hdr], htk1⟩
                    have HLS : Hid (0 ≤ ls ∧ ls ≤ 8) := hls
                    have HNK : Hid ((Value.slice ca k cc).ownBlock ≠ some K ∧ ∀ j, u.ownBlock = some j → (Value.slice ca k cc).ownBlock ≠ some j) := hap
                    have HOWN : Hid (wr.ownsRow wk.heap.size 103 3 (.slice ca k cc) k (ccs (T2.take k))) := hown
                    obtain ⟨y0, y1, y2⟩ := HX3.out wr HBr.out
                    clear hk hq hmt hRm hBr hlt hz z0 z1 z2 hcell hdr htk1 hq1 hq2 hq3 g3 g1 hls hap hown hownr
                    by_cases d1 : A ≤ ls - 1
                    · have HN : Hid (loadM s = none) := by show _ = _; rw [HLM.out, HTK.out.1, mt_fail (.inl d1)]; rfl
                      go_wp2_with (first
                        | (refine wpList_store_mid rfl 51 _ _ rfl w.heap.size 0 #[.slice none 0 0, .slice none 0 0] rfl rfl (blk_there HRr.out 0 2 (Nat.le_refl _)) Tryz.size51 (by simp [Value.oneCell']) ?_))
                      have k4 := blk_range (blk_set HRr.out (L := [.slice none 0 0, .slice none 0 0]) rfl)
                      exact bodyPost_ret (v := .tuple #[.agg #[.slice none 0 0, .slice none 0 0], .int .i64 4]) (results_two rfl rfl rfl (res51 k4)) rfl ⟨_, _, _, rfl, HNO.out HN.out _, blk_below (Nat.le_refl _) _ _ _ HBw.out⟩
                    by_cases d2 : A > 7
                    · have HN : Hid (loadM s = none) := by show _ = _; rw [HLM.out, HTK.out.1, mt_fail (by omega)]; rfl
                      go_wp2_with (first
                        | (refine wpList_store_mid rfl 51 _ _ rfl w.heap.size 0 #[.slice none 0 0, .slice none 0 0] rfl rfl (blk_there HRr.out 0 2 (Nat.le_refl _)) Tryz.size51 (by simp [Value.oneCell']) ?_))
                      have k4 := blk_range (blk_set HRr.out (L := [.slice none 0 0, .slice none 0 0]) rfl)
                      exact bodyPost_ret (v := .tuple #[.agg #[.slice none 0 0, .slice none 0 0], .int .i64 4]) (results_two rfl rfl rfl (res51 k4)) rfl ⟨_, _, _, rfl, HNO.out HN.out _, blk_below (Nat.le_refl _) _ _ _ HBw.out⟩
                    by_cases d3 : B < 1
                    · have HN : Hid (loadM s = none) := by show _ = _; rw [HLM.out, HTK.out.1, mt_fail (by omega)]; rfl
                      go_wp2_with (first
                        | (refine wpList_store_mid rfl 51 _ _ rfl w.heap.size 0 #[.slice none 0 0, .slice none 0 0] rfl rfl (blk_there HRr.out 0 2 (Nat.le_refl _)) Tryz.size51 (by simp [Value.oneCell']) ?_))
                      have k4 := blk_range (blk_set HRr.out (L := [.slice none 0 0, .slice none 0 0]) rfl)
                      exact bodyPost_ret (v := .tuple #[.agg #[.slice none 0 0, .slice none 0 0], .int .i64 4]) (results_two rfl rfl rfl (res51 k4)) rfl ⟨_, _, _, rfl, HNO.out HN.out _, blk_below (Nat.le_refl _) _ _ _ HBw.out⟩
                    by_cases d4 : B > 1099511627776
                    · have HN : Hid (loadM s = none) := by show _ = _; rw [HLM.out, HTK.out.1, mt_fail (by omega)]; rfl
                      go_wp2_with (first
                        | (refine wpList_store_mid rfl 51 _ _ rfl w.heap.size 0 #[.slice none 0 0, .slice none 0 0] rfl rfl (blk_there HRr.out 0 2 (Nat.le_refl _)) Tryz.size51 (by simp [Value.oneCell']) ?_))
                      have k4 := blk_range (blk_set HRr.out (L := [.slice none 0 0, .slice none 0 0]) rfl)
                      exact bodyPost_ret (v := .tuple #[.agg #[.slice none 0 0, .slice none 0 0], .int .i64 4]) (results_two rfl rfl rfl (res51 k4)) rfl ⟨_, _, _, rfl, HNO.out HN.out _, blk_below (Nat.le_refl _) _ _ _ HBw.out⟩
                    by_cases d5 : C < 0
                    · have HN : Hid (loadM s = none) := by show _ = _; rw [HLM.out, HTK.out.1, mt_fail (by omega)]; rfl
                      go_wp2_with (first
                        | (refine wpList_store_mid rfl 51 _ _ rfl w.heap.size 0 #[.slice none 0 0, .slice none 0 0] rfl rfl (blk_there HRr.out 0 2 (Nat.le_refl _)) Tryz.size51 (by simp [Value.oneCell']) ?_))
                      have k4 := blk_range (blk_set HRr.out (L := [.slice none 0 0, .slice none 0 0]) rfl)
                      exact bodyPost_ret (v := .tuple #[.agg #[.slice none 0 0, .slice none 0 0], .int .i64 4]) (results_two rfl rfl rfl (res51 k4)) rfl ⟨_, _, _, rfl, HNO.out HN.out _, blk_below (Nat.le_refl _) _ _ _ HBw.out⟩
                    by_cases d6 : C > 999
                    · have HN : Hid (loadM s = none) := by show _ = _; rw [HLM.out, HTK.out.1, mt_fail (by omega)]; rfl
                      go_wp2_with (first
                        | (refine wpList_store_mid rfl 51 _ _ rfl w.heap.size 0 #[.slice none 0 0, .slice none 0 0] rfl rfl (blk_there HRr.out 0 2 (Nat.le_refl _)) Tryz.size51 (by simp [Value.oneCell']) ?_))
                      have k4 := blk_range (blk_set HRr.out (L := [.slice none 0 0, .slice none 0 0]) rfl)
                      exact bodyPost_ret (v := .tuple #[.agg #[.slice none 0 0, .slice none 0 0], .int .i64 4]) (results_two rfl rfl rfl (res51 k4)) rfl ⟨_, _, _, rfl, HNO.out HN.out _, blk_below (Nat.le_refl _) _ _ _ HBw.out⟩
                    have HON : Hid (mtAll 0 zK T2 = mtAll (A + 1) (cl.set A.toNat (B.toNat, C)) (T2.drop (k + 1)) ∧ 0 ≤ A + 1 ∧ A + 1 ≤ 8) := by
                      have := HLS.out
                      exact ⟨by rw [HTK.out.1, mt_on (by omega) (by omega) (by omega) (by omega) (by omega) (by omega) (by omega)], by omega, by omega⟩
                    go_upto_region 22 with fail
                    clear d1 d2 d3 d4 d5 d6 y0 y1 y2
                    have hxK := HMr.out.blk
                    have HS4 : Hid (∀ W, Below wr.heap.size wr W → W.cell? ⟨K, 1, none⟩ = some (.slice ca k cc) ∧ W.cell? ⟨xb, xo + q, none⟩ = some (.int .i64 A) ∧ W.cell? ⟨xb, xo + q1, none⟩ = some (.int .i64 B) ∧ W.cell? ⟨xb, xo + q2, none⟩ = some (.int .i64 C)) := fun W hW => ⟨cellB ((hW.block K HMr.out.lt).trans hxK) 1 _ rfl, HX3.out W (HBr.out.trans (hW.mono HBr.out.size))⟩
                    clear hxK
                    have m4 := HOWN.out
                    refine region_Z 20 (fun w' => w'.cell? ⟨K, 1, none⟩ = some (.slice ca k cc) ∧ w'.cell? ⟨xb, xo + q, none⟩ = some (.int .i64 A) ∧ w'.cell? ⟨xb, xo + q1, none⟩ = some (.int .i64 B) ∧ w'.cell? ⟨xb, xo + q2, none⟩ = some (.int .i64 C)) (by kernel_rfl) ?_
                    have hS0 := HS4.out wr.drew (below_drew (Below.refl _ _))
                    refine Z_take (i := 0) (v := ?_) rfl (by kernel_rfl) (by kernel_rfl) (by kernel_rfl) (by kernel_rfl) (fun _ _ _ h => h) (by rfl) hS0 ?_ ?_
                    rotate_left
                    · (intro w' hSw; obtain ⟨e3, e0, e1, e2⟩ := hSw; go_simp; (try with_reducible rfl))
                    simp only [Act.put, List.getElem_toArray, List.getElem_cons_succ, List.getElem_cons_zero, List.setIfInBounds_toArray, List.set_cons_succ, List.set_cons_zero]
                    refine Z_take (i := 1) (v := ?_) rfl (by kernel_rfl) (by kernel_rfl) (by kernel_rfl) (by kernel_rfl) (fun _ _ _ h => h) (by rfl) hS0 ?_ ?_
                    rotate_left
                    · (intro w' hSw; obtain ⟨e3, e0, e1, e2⟩ := hSw; go_simp; (try with_reducible rfl))
                    simp only [Act.put, List.getElem_toArray, List.getElem_cons_succ, List.getElem_cons_zero, List.setIfInBounds_toArray, List.set_cons_succ, List.set_cons_zero]
                    refine Z_take (i := 2) (v := ?_) rfl (by kernel_rfl) (by kernel_rfl) (by kernel_rfl) (by kernel_rfl) (fun _ _ _ h => h) (by rfl) hS0 ?_ ?_
                    rotate_left
                    · (intro w' hSw; obtain ⟨e3, e0, e1, e2⟩ := hSw; go_simp; (try with_reducible rfl))
                    simp only [Act.put, List.getElem_toArray, List.getElem_cons_succ, List.getElem_cons_zero, List.setIfInBounds_toArray, List.set_cons_succ, List.set_cons_zero]
                    refine Z_take (i := 3) (v := ?_) rfl (by kernel_rfl) (by kernel_rfl) (by kernel_rfl) (by kernel_rfl) (fun _ _ _ h => h) (by rfl) hS0 ?_ ?_
                    rotate_left
                    · (intro w' hSw; obtain ⟨e3, e0, e1, e2⟩ := hSw; go_simp; (try with_reducible rfl))
                    simp only [Act.put, List.getElem_toArray, List.getElem_cons_succ, List.getElem_cons_zero, List.setIfInBounds_toArray, List.set_cons_succ, List.set_cons_zero]
                    refine Z_take (i := 4) (v := ?_) rfl (by kernel_rfl) (by kernel_rfl) (by kernel_rfl) (by kernel_rfl) (fun _ _ _ h => h) (by rfl) hS0 ?_ ?_
                    rotate_left
                    · (intro w' hSw; obtain ⟨e3, e0, e1, e2⟩ := hSw; go_simp; (try with_reducible rfl))
                    simp only [Act.put, List.getElem_toArray, List.getElem_cons_succ, List.getElem_cons_zero, List.setIfInBounds_toArray, List.set_cons_succ, List.set_cons_zero]
                    refine Z_take (i := 5) (v := ?_) rfl (by kernel_rfl) (by kernel_rfl) (by kernel_rfl) (by kernel_rfl) (fun _ _ _ h => h) (by rfl) hS0 ?_ ?_
                    rotate_left
                    · (intro w' hSw; obtain ⟨e3, e0, e1, e2⟩ := hSw; go_simp; (try with_reducible rfl))
                    simp only [Act.put, List.getElem_toArray, List.getElem_cons_succ, List.getElem_cons_zero, List.setIfInBounds_toArray, List.set_cons_succ, List.set_cons_zero]
                    refine Z_take (i := 6) (v := ?_) rfl (by kernel_rfl) (by kernel_rfl) (by kernel_rfl) (by kernel_rfl) (fun _ _ _ h => h) (by rfl) hS0 ?_ ?_
                    rotate_left
                    · (intro w' hSw; obtain ⟨e3, e0, e1, e2⟩ := hSw; go_simp; (try with_reducible rfl))
                    simp only [Act.put, List.getElem_toArray, List.getElem_cons_succ, List.getElem_cons_zero, List.setIfInBounds_toArray, List.set_cons_succ, List.set_cons_zero]
                    refine Z_take (i := 7) (v := ?_) rfl (by kernel_rfl) (by kernel_rfl) (by kernel_rfl) (by kernel_rfl) (fun _ _ _ h => h) (by rfl) hS0 ?_ ?_
                    rotate_left
                    · (intro w' hSw; obtain ⟨e3, e0, e1, e2⟩ := hSw; go_simp; (try with_reducible rfl))
                    simp only [Act.put, List.getElem_toArray, List.getElem_cons_succ, List.getElem_cons_zero, List.setIfInBounds_toArray, List.set_cons_succ, List.set_cons_zero]
                    refine Z_take (i := 8) (v := ?_) rfl (by kernel_rfl) (by kernel_rfl) (by kernel_rfl) (by kernel_rfl) (fun _ _ _ h => h) (by rfl) hS0 ?_ ?_
                    rotate_left
                    · (intro w' hSw; obtain ⟨e3, e0, e1, e2⟩ := hSw; go_simp; (try with_reducible rfl))
                    simp only [Act.put, List.getElem_toArray, List.getElem_cons_succ, List.getElem_cons_zero, List.setIfInBounds_toArray, List.set_cons_succ, List.set_cons_zero]
                    refine Z_take (i := 9) (v := ?_) rfl (by kernel_rfl) (by kernel_rfl) (by kernel_rfl) (by kernel_rfl) (fun _ _ _ h => h) (by rfl) hS0 ?_ ?_
                    rotate_left
                    · (intro w' hSw; obtain ⟨e3, e0, e1, e2⟩ := hSw; go_simp; (try with_reducible rfl))
                    simp only [Act.put, List.getElem_toArray, List.getElem_cons_succ, List.getElem_cons_zero, List.setIfInBounds_toArray, List.set_cons_succ, List.set_cons_zero]
                    refine Z_take (i := 10) (v := ?_) rfl (by kernel_rfl) (by kernel_rfl) (by kernel_rfl) (by kernel_rfl) (fun _ _ _ h => h) (by rfl) hS0 ?_ ?_
                    rotate_left
                    · (intro w' hSw; obtain ⟨e3, e0, e1, e2⟩ := hSw; go_simp; (try with_reducible rfl))
                    simp only [Act.put, List.getElem_toArray, List.getElem_cons_succ, List.getElem_cons_zero, List.setIfInBounds_toArray, List.set_cons_succ, List.set_cons_zero]
                    refine Z_take (i := 11) (v := ?_) rfl (by kernel_rfl) (by kernel_rfl) (by kernel_rfl) (by kernel_rfl) (fun _ _ _ h => h) (by rfl) hS0 ?_ ?_
                    rotate_left
                    · (intro w' hSw; obtain ⟨e3, e0, e1, e2⟩ := hSw; go_simp; (try with_reducible rfl))
                    simp only [Act.put, List.getElem_toArray, List.getElem_cons_succ, List.getElem_cons_zero, List.setIfInBounds_toArray, List.set_cons_succ, List.set_cons_zero]
                    refine Z_take (i := 12) (v := ?_) rfl (by kernel_rfl) (by kernel_rfl) (by kernel_rfl) (by kernel_rfl) (fun _ _ _ h => h) (by rfl) hS0 ?_ ?_
                    rotate_left
                    · (intro w' hSw; obtain ⟨e3, e0, e1, e2⟩ := hSw; go_simp; (try with_reducible rfl))
                    simp only [Act.put, List.getElem_toArray, List.getElem_cons_succ, List.getElem_cons_zero, List.setIfInBounds_toArray, List.set_cons_succ, List.set_cons_zero]
                    refine Z_take (i := 13) (v := ?_) rfl (by kernel_rfl) (by kernel_rfl) (by kernel_rfl) (by kernel_rfl) (fun _ _ _ h => h) (by rfl) hS0 ?_ ?_
                    rotate_left
                    · (intro w' hSw; obtain ⟨e3, e0, e1, e2⟩ := hSw; go_simp; (try with_reducible rfl))
                    simp only [Act.put, List.getElem_toArray, List.getElem_cons_succ, List.getElem_cons_zero, List.setIfInBounds_toArray, List.set_cons_succ, List.set_cons_zero]
                    refine Z_take (i := 14) (v := ?_) rfl (by kernel_rfl) (by kernel_rfl) (by kernel_rfl) (by kernel_rfl) (fun _ _ _ h => h) (by rfl) hS0 ?_ ?_
                    rotate_left
                    · (intro w' hSw; obtain ⟨e3, e0, e1, e2⟩ := hSw; go_simp; (try with_reducible rfl))
                    simp only [Act.put, List.getElem_toArray, List.getElem_cons_succ, List.getElem_cons_zero, List.setIfInBounds_toArray, List.set_cons_succ, List.set_cons_zero]
                    refine Z_take (i := 15) (v := ?_) rfl (by kernel_rfl) (by kernel_rfl) (by kernel_rfl) (by kernel_rfl) (fun _ _ _ h => h) (by rfl) hS0 ?_ ?_
                    rotate_left
                    · (intro w' hSw; obtain ⟨e3, e0, e1, e2⟩ := hSw; go_simp; (try with_reducible rfl))
                    simp only [Act.put, List.getElem_toArray, List.getElem_cons_succ, List.getElem_cons_zero, List.setIfInBounds_toArray, List.set_cons_succ, List.set_cons_zero]
                    refine Z_take (i := 16) (v := ?_) rfl (by kernel_rfl) (by kernel_rfl) (by kernel_rfl) (by kernel_rfl) (fun _ _ _ h => h) (by rfl) hS0 ?_ ?_
                    rotate_left
                    · (intro w' hSw; obtain ⟨e3, e0, e1, e2⟩ := hSw; go_simp; (try with_reducible rfl))
                    simp only [Act.put, List.getElem_toArray, List.getElem_cons_succ, List.getElem_cons_zero, List.setIfInBounds_toArray, List.set_cons_succ, List.set_cons_zero]
                    refine Z_step (i := 17) (by kernel_rfl) rfl (fun Kk hK => ?_)
                    go_simp
                    have hbA : Below wr.heap.size wr (wr.alloc (.cells #[.int .i64 A, .int .i64 B, .int .i64 C] 103)).drew := below_drew ((Below.refl _ _).alloc (Nat.le_refl _) _)
                    have hS5 := HS4.out _ hbA
                    refine hK _ _ (fun _ => hS5) ?_
                    clear hK Kk
                    have hownA := owns_next m4 hbA
                    refine Z_step (i := 18) (by kernel_rfl) rfl (fun Kk hK => ?_)
                    refine step_append_lies _ (by rfl) _ _ 49 (by rfl) wk.heap.size 103 i0 (.agg #[.int .i64 0, .int .i64 0, .int .i64 0]) 3 24 (by kernel_rfl) HINF.out.1 HINF.out.2.1 HINF.out.2.2.1 HINF.out.2.2.2 rfl (by decide) _ k (ccs (T2.take k)) (by rfl) hownA ⟨wr.heap.size, 0, none⟩ 1 1 [.int .i64 A, .int .i64 B, .int .i64 C] (by rfl) rfl (World.news_of_block (B := wr.heap.size) (heap_alloc_new wr (.cells #[.int .i64 A, .int .i64 B, .int .i64 C] 103))) (by simp [Value.oneCell']) (by decide) HML.out.1 HML.out.2 (Nat.le_trans HBr.out.size hbA.size) _ rfl ?_
                    intro ga gc w7 hown7 hgrow hat hlt7
                    have hsA : (wr.alloc (.cells #[.int .i64 A, .int .i64 B, .int .i64 C] 103)).drew.heap.size = wr.heap.size + 1 := by simp
                    have hK7 := (hgrow.block K (Nat.lt_of_lt_of_le HMr.out.lt hbA.size) (fun e => HNK.out.1 e.symm)).trans ((hbA.block K HMr.out.lt).trans HMr.out.blk)
                    have hX7 := HX3.out _ ((HBr.out.trans (hbA.mono HBr.out.size)).grown hgrow (Nat.le_trans HBr.out.size hbA.size) (fun qq hq => (hownA.lt qq hq).1))
                    have hS7 : w7.cell? ⟨K, 1, none⟩ = some (.slice ca k cc) ∧ _ := ⟨cellB hK7 1 _ rfl, hX7⟩
                    refine hK _ _ (fun _ => hS7) ?_
                    clear hK Kk
                    simp only [Act.put, List.getElem_toArray, List.getElem_cons_succ, List.getElem_cons_zero, List.setIfInBounds_toArray, List.set_cons_succ, List.set_cons_zero]
                    refine Z_step (i := 19) (by kernel_rfl) rfl (fun Kk hK => ?_)
                    go_simp
                    refine hK _ _ (fun _ => hS7) ?_
                    clear hK Kk
                    have t5 := hS7.1
                    have ft := frozenB hK7 1
                    refine Z_step (i := 20) (by kernel_rfl) rfl (fun Kk hK => ?_)
                    go_simp
                    refine hK _ _ (fun h => absurd rfl h) (Z_done (by kernel_rfl) ?_ _)
                    clear hK Kk t5 ft hS7
                    have HP : Hid (RmAt wk.heap.size (w7.setCell ⟨K, 1, none⟩ (.slice (some ⟨ga, 0, none⟩) (k + 1) gc)) K u (.slice (some ⟨ga, 0, none⟩) (k + 1) gc) T ∧ (w7.setCell ⟨K, 1, none⟩ (.slice (some ⟨ga, 0, none⟩) (k + 1) gc)).ownsRow wk.heap.size 103 3 (.slice (some ⟨ga, 0, none⟩) (k + 1) gc) (k + 1) (ccs (T2.take (k + 1))) ∧ ((Value.slice (some ⟨ga, 0, none⟩) (k + 1) gc).ownBlock ≠ some K ∧ ∀ j, u.ownBlock = some j → (Value.slice (some ⟨ga, 0, none⟩) (k + 1) gc).ownBlock ≠ some j) ∧ Below wk.heap.size wk (w7.setCell ⟨K, 1, none⟩ (.slice (some ⟨ga, 0, none⟩) (k + 1) gc))) := by
                      have hM := HMr.out
                      have hKl := hM.lt
                      have hown : ∀ j, (Value.slice (some ⟨ga, 0, none⟩) (k + 1) gc).ownBlock = some j → ga = j := fun j hj => by simpa [Value.ownBlock] using hj
                      have hga : ∀ j, j < wr.heap.size → (Value.slice ca k cc).ownBlock ≠ some j → ga ≠ j := fun j hj hv => by
                        rintro rfl
                        rcases hat with hat | hat
                        · exact hv hat
                        · have : wr.heap.size + 1 = ga := hsA.symm.trans hat.symm; omega
                      have hgK := hga K hKl HNK.out.1
                      refine ⟨⟨?_, ?_, hM.low, hM.ne⟩, ?_, ⟨fun e => hgK (hown K e), fun j hj e => ?_⟩, ?_⟩
                      · exact setB hK7 1 (Value.slice (some ⟨ga, 0, none⟩) (k + 1) gc)
                      · exact owns_kept hM.own (fun j hj => (set_far (fun e => hM.ne (by rw [← e]; exact hj)) _ _).trans ((hgrow.block j (Nat.lt_of_lt_of_le (hM.own.lt j hj).2 hbA.size) (fun e => HNK.out.2 j hj e.symm)).trans (hbA.block j (hM.own.lt j hj).2)))
                      · rw [HTK.out.2, ccs_snoc]
                        exact owns_kept hown7 (fun j hj => set_far (by have := hown j hj; omega) _ _)
                      · exact hga j (hM.own.lt j hj).2 (HNK.out.2 j hj) (hown j e)
                      · exact ((HBr.out.trans (hbA.mono HBr.out.size)).grown hgrow (Nat.le_trans HBr.out.size hbA.size) (fun qq hq => (hownA.lt qq hq).1)).setCell hM.low _
                    obtain ⟨W8, hW8⟩ : ∃ W, w7.setCell ⟨K, 1, none⟩ (.slice (some ⟨ga, 0, none⟩) (k + 1) gc) = W := ⟨_, rfl⟩
                    rw [hW8] at HP ⊢
                    clear hW8 hK7 hX7 hgrow hown7 hat hlt7 hownA hbA hsA hS0 hS5 m4
                    go_wp2_with fail
                    go_roundg (T2.length - (k + 1))
                    case measure => have := HQ.out; omega
                    case rel =>
                      obtain ⟨h1, h2, h3, h4⟩ := HP.out
                      exact ⟨k + 1, q3, A + 1, cl.set A.toNat (B.toNat, C), _, by have := HQ.out; omega, by have := HQ.out; omega, by rw [show A + 1 - 1 = A by omega], HON.out.2, by first | rfl | go_num, HON.out.1, h1, h2, h3, h4⟩
                  · have hkl : k = T2.length := by omega
                    subst hkl
                    rw [List.drop_length] at hmt
                    rw [List.take_length] at hownr
                    obtain ⟨ua, uc, rfl⟩ := owns_slice hRm.own
                    have hmt2 : mtAll 0 zK T2 = some cl := hmt
                    obtain ⟨r, f1, f2, f3, f4⟩ := mt_some T2 [] 8 0 cl rfl rfl hmt2
                    rw [List.nil_append] at f1
                    subst f1
                    have HLO : Hid (loadM s = some (runC [] T, T, cl)) := by show _ = _; rw [HLM.out, hmt2]; rfl
                    have HF3 : Hid (knF 0 cl = T2) := f3
                    have HCU : Hid (Cs wr (.slice ua T.length uc) T ∧ Cs wr (.slice ca T2.length cc) T2) := ⟨Cs_owns hRm.own, Cs_row hownr⟩
                    have HBK : Hid ((∀ j, (Value.slice ua T.length uc).ownBlock = some j → wk.heap.size ≤ j) ∧ ∀ j, (Value.slice ca T2.length cc).ownBlock = some j → wk.heap.size ≤ j) := ⟨fun j hj => (hRm.own.lt j hj).1, fun j hj => (hownr.lt j hj).1⟩
                    have KL : Hid (wr.rangeAt K 0 [.slice ua T.length uc, .slice ca T2.length cc]) := blk_range (L := [.slice ua T.length uc, .slice ca T2.length cc]) hRm.blk
                    have p9 : ¬ (q : Int) < (y.length : Int) := by have := HTL.out; omega
                    clear hk hq hmt hRm hBr hlt hls hap hown hownr hmt2 f2 f3 f4 HMr
                    go_wp2_with (first
                      | (refine wpList_load_mid rfl 51 _ rfl K 0 rfl [.slice ua T.length uc, .slice ca T2.length cc] _ KL.out Tryz.underlying51 rfl Tryz.size51 ?_)
                      | (refine wpList_store_mid rfl 51 _ _ rfl w.heap.size 0 #[.slice ua T.length uc, .slice ca T2.length cc] rfl rfl (blk_there HRr.out 0 2 (Nat.le_refl _)) Tryz.size51 (by simp [Value.oneCell']) ?_))
                    have k4 := blk_range (blk_set HRr.out (L := [.slice ua T.length uc, .slice ca T2.length cc]) rfl)
                    have hfar : ∀ j, wk.heap.size ≤ j → (wr.setCells w.heap.size 0 [.slice ua T.length uc, .slice ca T2.length cc]).heap[j]? = wr.heap[j]? := fun j hj => blk_far (by have := HRk.out.2; omega) _ _ _
                    exact bodyPost_ret (v := .tuple #[.agg #[.slice ua T.length uc, .slice ca T2.length cc], .int .i64 0]) (results_two rfl rfl rfl (res51 k4)) rfl ⟨_, _, _, rfl, HYS.out HLO.out (Cs_keep HCU.out.1 (Nat.le_of_eq (blk_size _ _ _ _).symm) (fun j hj => hfar j (HBK.out.1 j hj))) (by rw [HF3.out]; exact Cs_keep HCU.out.2 (Nat.le_of_eq (blk_size _ _ _ _).symm) (fun j hj => hfar j (HBK.out.2 j hj))), blk_below (Nat.le_refl _) _ _ _ HBw.out⟩
    · have HN : Hid (loadM s = none) := loadM_len HL.out h2
      have h2i : ((L.length : Int) != 2) = true := by rw [bne_iff_ne]; omega
      clear h2
      go_enter Tryz.func20, Tryz.ntmps20
      go_upto_region 1 with fail
      rw [HV.out]
      clear HV
      go_upto_region 3 with (first
        | (go_at_call 39; refine hU.mono ?_; clear hU; rintro e w1 ⟨v, rfl, hown, hb1⟩; obtain ⟨va, vc, rfl⟩ := owns_slice hown; have HB1 : Hid (Below W0.heap.size W0 w1) := hb1; clear hown hb1))
      have HRf : Hid (w1.heap[w.heap.size]? = some (.cells #[.slice none 0 0, .slice none 0 0] 51)) := (HB1.out.block _ HR0.out.2).trans HR0.out.1
      have HBf : Hid (Below w.heap.size w w1) := HB0.out.trans (HB1.out.mono HB0.out.size)
      go_wp2_with (first
        | (refine wpList_store_mid rfl 51 _ _ rfl w.heap.size 0 #[.slice none 0 0, .slice none 0 0] rfl rfl (blk_there HRf.out 0 2 (Nat.le_refl _)) Tryz.size51 (by simp [Value.oneCell']) ?_))
      have k4 := blk_range (blk_set HRf.out (L := [.slice none 0 0, .slice none 0 0]) rfl)
      exact bodyPost_ret (v := .tuple #[.agg #[.slice none 0 0, .slice none 0 0], .int .i64 4]) (results_two rfl rfl rfl (res51 k4)) rfl ⟨_, _, _, rfl, HNO.out HN.out _, blk_below (Nat.le_refl _) _ _ _ HBf.out⟩
  · have HN : Hid (loadM s = none) := by show _ = _; unfold loadM; rw [texts_bad (by rw [e0]; decide)]
    have hT : texts s = [] := texts_bad (by rw [e0]; decide)
    rw [e0, hT] at hU
    clear e0 hT
    go_enter Tryz.func20, Tryz.ntmps20
    go_upto_region 1 with fail
    rw [HV.out]
    clear HV
    go_upto_region 3 with (first
      | (go_at_call 39; refine hU.mono ?_; clear hU; rintro e w1 ⟨v, rfl, hown, hb1⟩; obtain ⟨va, vc, rfl⟩ := owns_slice hown; have HB1 : Hid (Below W0.heap.size W0 w1) := hb1; clear hown hb1))
    have HRf : Hid (w1.heap[w.heap.size]? = some (.cells #[.slice none 0 0, .slice none 0 0] 51)) := (HB1.out.block _ HR0.out.2).trans HR0.out.1
    have HBf : Hid (Below w.heap.size w w1) := HB0.out.trans (HB1.out.mono HB0.out.size)
    go_wp2_with (first
      | (refine wpList_store_mid rfl 51 _ _ rfl w.heap.size 0 #[.slice none 0 0, .slice none 0 0] rfl rfl (blk_there HRf.out 0 2 (Nat.le_refl _)) Tryz.size51 (by simp [Value.oneCell']) ?_))
    have k4 := blk_range (blk_set HRf.out (L := [.slice none 0 0, .slice none 0 0]) rfl)
    exact bodyPost_ret (v := .tuple #[.agg #[.slice none 0 0, .slice none 0 0], .int .i64 4]) (results_two rfl rfl rfl (res51 k4)) rfl ⟨_, _, _, rfl, HNO.out HN.out _, blk_below (Nat.le_refl _) _ _ _ HBf.out⟩
end Go.Proofs.YtfolnlgceighbaaGreatDoor

