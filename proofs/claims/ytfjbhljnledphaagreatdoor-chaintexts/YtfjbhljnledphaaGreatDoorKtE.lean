/- Configurations' texts: the document's Read, walked. -/
import Derived.Test.YtfjbhljnledphaaGreatDoorKtD
namespace Go.Proofs.YtfjbhljnledphaaGreatDoor
open Go.RowKit
attribute [local go_sem ↓] Go.wp_at_zero Go.wp_at_succ

theorem readB_c {b c d : List UInt8} (h : unN c = none) : readB b c d = none := by
  unfold readB
  rw [h]
  split <;> rfl
theorem readB_d {b c d : List UInt8} (h : unN d = none) : readB b c d = none := by
  unfold readB
  rw [h]
  cases unN c <;> split <;> rfl
theorem readB_len {b c d : List UInt8} (h : ¬ (texts d).length = 4) : readB b c d = none := by
  cases hd : unN d with
  | none => exact readB_d hd
  | some os =>
    unfold readB
    rw [hd]
    have ho : ¬ os.length = 4 := by
      unfold unN at hd
      by_cases e : errOf d = 0
      · rw [if_pos e] at hd
        rw [(numsOf_back _ _ hd).2]
        exact h
      · rw [if_neg e] at hd; cases hd
    cases unN c with
    | none => split <;> rfl
    | some gs =>
      split
      · show (if os.length = 4 ∧ okC (tnV b) gs os = true then _ else _) = _
        rw [if_neg (fun e => ho e.1)]
      · rfl
def mix2 (os : List Int) : List Int := os ++ List.replicate (4 - os.length) 0
theorem mix2_at {os : List Int} (h : os.length < 4) : ∃ x, (mix2 os)[os.length]? = some x := by
  refine ⟨0, ?_⟩
  unfold mix2
  rw [List.getElem?_append_right (Nat.le_refl _), Nat.sub_self, show 4 - os.length = (4 - os.length - 1) + 1 by omega]
  rfl
theorem mix2_set {os : List Int} {x : Int} (h : os.length < 4) : (mix2 os).set os.length x = mix2 (os ++ [x]) := by
  unfold mix2
  rw [List.set_append_right _ _ (Nat.le_refl _), Nat.sub_self, show 4 - os.length = (4 - (os ++ [x]).length) + 1 by simp; omega, List.replicate_succ, List.append_assoc]
  rfl
theorem mix_cells32 (n : Value) (v : Value) (l : List Int) (k : Nat) (x : Int) : some (Obj.cells ((n :: v :: zcs l).toArray.setIfInBounds (2 + k) (.int .i64 x)) 32) = some (Obj.cells (n :: v :: zcs (l.set k x)).toArray 32) := by
  congr 2
  rw [List.setIfInBounds_toArray, show 2 + k = k + 1 + 1 by omega, List.set_cons_succ, List.set_cons_succ]
  congr 3
  unfold zcs
  rw [List.map_set]
set_option maxRecDepth 20000 in
set_option maxHeartbeats 8000000 in
theorem rRead_any (s : List UInt8) (w : World) (hs : s.length ≤ 1000000) :
    Calls Tryz.prog 11 #[.string (bs s)] w fun e W' => ∃ x E, e = .returned (.tuple #[x, .int .i64 E]) ∧ RdPost s w.heap.size x E W' ∧ Below w.heap.size w W' := by
  have hb0 : Below w.heap.size w (w.alloc (.cells (cf 0 (.slice none 0 0) 0 0 0 0) 32)) := (Below.refl _ w).alloc (Nat.le_refl _) _
  have r0 := heap_alloc_new w (.cells (cf 0 (.slice none 0 0) 0 0 0 0) 32)
  obtain ⟨W0, hW0⟩ : ∃ W, w.alloc (.cells (cf 0 (.slice none 0 0) 0 0 0 0) 32) = W := ⟨_, rfl⟩
  have hsz : w.heap.size < W0.heap.size := by rw [← hW0]; simp
  rw [hW0] at hb0 r0
  have hU := rUnpack_any s W0 (by omega)
  have HV : Hid (w.alloc (.cells (cf 0 (.slice none 0 0) 0 0 0 0) 32) = W0) := hW0
  have HR0 : Hid (W0.heap[w.heap.size]? = some (.cells (cf 0 (.slice none 0 0) 0 0 0 0) 32)) := r0
  have HLT0 : Hid (w.heap.size < W0.heap.size) := hsz
  have HB0 : Hid (Below w.heap.size w W0) := hb0
  have HSZ : Hid (s.length ≤ 1000000) := hs
  have HNO : Hid (∀ W', readC s = none → RdPost s w.heap.size (.agg (cf 0 (.slice none 0 0) 0 0 0 0)) 4 W') := fun W' h => by unfold RdPost; rw [h]; exact ⟨rfl, rfl⟩
  have HYS : Hid (∀ W' x E, ∀ {r}, readC s = some r → (E = 0 ∧ ∃ (v : Value) (a b c d : Int), r.2.2 = [a, b, c, d] ∧ x = .agg (cf r.1 v a b c d) ∧ Il W' v r.2.1 ∧ ∀ k, v.ownBlock = some k → w.heap.size ≤ k) → RdPost s w.heap.size x E W') := fun W' x E r h h2 => by unfold RdPost; rw [h]; exact h2
  obtain ⟨EE, hEE⟩ : ∃ EE, errOf s = EE := ⟨_, rfl⟩
  have hEc := err_cases s
  rw [hEE] at hU hEc
  obtain ⟨L, hL⟩ : ∃ L, texts s = L := ⟨_, rfl⟩
  have HL : Hid (texts s = L) := hL
  have HTS : Hid (∀ t ∈ L, t.length ≤ s.length) := fun t ht => texts_mem_len (by rw [hL]; exact ht)
  have HBAD : Hid (EE = 4 → ¬ L.length = 4) := fun h => by rw [← hL, texts_bad (by rw [hEE, h]; decide)]; decide
  rw [hL] at hU
  obtain ⟨X, hX⟩ : ∃ X, bs cfgW = X := ⟨_, rfl⟩
  have hlit : (⟨#[99, 111, 110, 102, 105, 103]⟩ : ByteArray) = X := hX
  clear hW0 r0 hb0 hsz hs hEE hL
  go_enter Tryz.func11, Tryz.ntmps11
  rw [hlit]
  clear hlit
  go_upto_region 1 with fail
  rw [HV.out]
  clear HV
  go_upto_region 2 with (first
    | (go_at_call 39; refine hU.mono ?_; clear hU; rintro e w1 ⟨v, rfl, hown, hb1⟩; obtain ⟨va, vc, rfl⟩ := owns_slice hown; have HO1 : Hid (w1.ownsRow W0.heap.size 9 1 (.slice va L.length vc) L.length (strs L)) := hown; have HR1 : Hid (w1.heap[w.heap.size]? = some (.cells (cf 0 (.slice none 0 0) 0 0 0 0) 32)) := (hb1.block _ HLT0.out).trans HR0.out; have HLT1 : Hid (w.heap.size < w1.heap.size) := Nat.lt_of_lt_of_le HLT0.out hb1.size; have HB1 : Hid (Below w.heap.size w w1) := HB0.out.trans (hb1.mono HB0.out.size); clear hown hb1))
  rcases hEc with rfl | rfl
  · by_cases h4 : L.length = 4
    · obtain ⟨a, b, c, d, hLL⟩ := list4 h4
      subst hLL
      have hS := Sl.of_owns HO1.out
      obtain ⟨b1, o1, hva, q0⟩ := Sl_at hS (i := 0) (t := a) rfl
      subst hva
      have HSC : Hid (∀ W, Below w1.heap.size w1 W → W.cell? ⟨b1, o1 + 1, none⟩ = some (.string (bs b)) ∧ W.cell? ⟨b1, o1 + 2, none⟩ = some (.string (bs c)) ∧ W.cell? ⟨b1, o1 + 3, none⟩ = some (.string (bs d))) := fun W hW => by
        have hS2 := hS.below hW (Nat.le_refl _)
        obtain ⟨x1, y1, e1, z1⟩ := Sl_at hS2 (i := 1) (t := b) rfl
        obtain ⟨x2, y2, e2, z2⟩ := Sl_at hS2 (i := 2) (t := c) rfl
        obtain ⟨x3, y3, e3, z3⟩ := Sl_at hS2 (i := 3) (t := d) rfl
        injection e1 with e1; injection e1 with e11 e12
        injection e2 with e2; injection e2 with e21 e22
        injection e3 with e3; injection e3 with e31 e32
        subst e11 e12 e21 e22 e31 e32
        exact ⟨z1, z2, z3⟩
      have q1 := (HSC.out _ (Below.refl _ _)).1
      rw [Nat.add_zero] at q0
      have HLN : Hid (∀ t ∈ [a, b, c, d], t.length ≤ 1000000) := fun t ht => Nat.le_trans (HTS.out t ht) HSZ.out
      clear h4 hS HO1
      by_cases ha : a = cfgW
      · subst ha
        have hqa : (X.toList == X.toList) = true := by simp
        rw [hX] at q0
        have HRA : Hid (readC s = readB b c d) := by show _ = _; unfold readC; rw [HL.out]; show (if cfgW = cfgW then _ else _) = _; rw [if_pos rfl]
        clear hX
        go_upto_region 4 with fail
        have hN := rToNum_any (bs b) w1 (by show b.toArray.size ≤ _; rw [List.size_toArray]; have := HLN.out b (by simp); omega)
        rw [show (bs b).data.toList = b from rfl] at hN
        obtain ⟨n, hn⟩ : ∃ n, tnV b = n := ⟨_, rfl⟩
        have HNB : Hid (tnV b = n) := hn
        have hcB := tn_cases b
        obtain ⟨EB, hEB⟩ : ∃ E, tnE b = E := ⟨_, rfl⟩
        have HEB : Hid (tnE b = EB) := hEB
        rw [hn, hEB] at hN
        rw [hEB] at hcB
        clear q0 hqa hn hEB
        go_upto_region 5 with (first
          | (go_at_call 40; refine hN.mono ?_; clear hN; rintro e w2 ⟨rfl, hb2⟩; have HR2 : Hid (w2.heap[w.heap.size]? = some (.cells (cf 0 (.slice none 0 0) 0 0 0 0) 32)) := (hb2.block _ HLT1.out).trans HR1.out; have HLT2 : Hid (w.heap.size < w2.heap.size) := Nat.lt_of_lt_of_le HLT1.out hb2.size; have HB2 : Hid (Below w.heap.size w w2) := HB1.out.trans (hb2.mono HB1.out.size); have HSB2 : Hid (Below w1.heap.size w1 w2) := hb2; clear hb2))
        have q2 := (HSC.out _ HSB2.out).2.1
        have hC3 := rUnpack_any c w2 (Nat.le_trans (HLN.out c (by simp)) (by decide))
        have hcC := err_cases c
        obtain ⟨EC, hEC⟩ : ∃ E, errOf c = E := ⟨_, rfl⟩
        have HEC : Hid (errOf c = EC) := hEC
        obtain ⟨LC, hLC⟩ : ∃ L, texts c = L := ⟨_, rfl⟩
        have HLC : Hid (texts c = LC) := hLC
        have HCL : Hid (LC.length ≤ 1000000) := by show _ ≤ _; rw [← hLC]; exact Nat.le_trans (texts_count c) (HLN.out c (by simp))
        have HTC : Hid (∀ t ∈ LC, t.length ≤ 1000000) := fun t ht => Nat.le_trans (texts_mem_len (by rw [hLC]; exact ht)) (HLN.out c (by simp))
        rw [hEC, hLC] at hC3
        rw [hEC] at hcC
        clear hEC hLC
        go_upto_region 6 with (first
          | (go_at_call 39; refine hC3.mono ?_; clear hC3; rintro e w3 ⟨v3, rfl, hown, hb3⟩; have HR3 : Hid (w3.heap[w.heap.size]? = some (.cells (cf 0 (.slice none 0 0) 0 0 0 0) 32)) := (hb3.block _ HLT2.out).trans HR2.out; have HLT3 : Hid (w.heap.size < w3.heap.size) := Nat.lt_of_lt_of_le HLT2.out hb3.size; have HB3 : Hid (Below w.heap.size w w3) := HB2.out.trans (hb3.mono HB2.out.size); have HO3 : Hid (w3.ownsRow w2.heap.size 9 1 v3 LC.length (strs LC)) := hown; have HSB3 : Hid (Below w1.heap.size w1 w3) := HSB2.out.trans (hb3.mono HSB2.out.size); obtain ⟨va3, vc3, rfl⟩ := owns_slice hown; clear hb3 hown))
        have q3 := (HSC.out _ HSB3.out).2.2
        have hC4 := rUnpack_any d w3 (Nat.le_trans (HLN.out d (by simp)) (by decide))
        have hcD := err_cases d
        obtain ⟨ED, hED⟩ : ∃ E, errOf d = E := ⟨_, rfl⟩
        have HED : Hid (errOf d = ED) := hED
        obtain ⟨LD, hLD⟩ : ∃ L, texts d = L := ⟨_, rfl⟩
        have HLD : Hid (texts d = LD) := hLD
        have HTD : Hid (∀ t ∈ LD, t.length ≤ 1000000) := fun t ht => Nat.le_trans (texts_mem_len (by rw [hLD]; exact ht)) (HLN.out d (by simp))
        rw [hED, hLD] at hC4
        rw [hED] at hcD
        clear hED hLD
        go_upto_region 7 with (first
          | (go_at_call 39; refine hC4.mono ?_; clear hC4; rintro e w4 ⟨v4, rfl, hown, hb4⟩; have HR4 : Hid (w4.heap[w.heap.size]? = some (.cells (cf 0 (.slice none 0 0) 0 0 0 0) 32)) := (hb4.block _ HLT3.out).trans HR3.out; have HLT4 : Hid (w.heap.size < w4.heap.size) := Nat.lt_of_lt_of_le HLT3.out hb4.size; have HB4 : Hid (Below w.heap.size w w4) := HB3.out.trans (hb4.mono HB3.out.size); have HO4 : Hid (w4.ownsRow w3.heap.size 9 1 v4 LD.length (strs LD)) := hown; have HSL3 : Hid (Sl w4 (.slice va3 LC.length vc3) LC) := (Sl.of_owns HO3.out).below hb4 (Nat.le_refl _); obtain ⟨va4, vc4, rfl⟩ := owns_slice hown; clear hb4 hown))
        rcases hcB with rfl | rfl
        · rcases hcC with rfl | rfl
          · rcases hcD with rfl | rfl
            · by_cases h4 : LD.length = 4
              · have HD4 : Hid (LD.length = 4) := h4
                have HUC0 : Hid (unN c = numsOf LC) := by show _ = _; unfold unN; rw [HEC.out, if_pos rfl, HLC.out]
                have HUD : Hid (unN d = numsOf LD) := by show _ = _; unfold unN; rw [HED.out, if_pos rfl, HLD.out]
                have hq4 : ((LD.length : Int) != 4) = false := by rw [bne_eq_false_iff_eq]; omega
                have HRB : Hid (readC s = match unN c, unN d with | some gs, some os => if os.length = 4 ∧ okC n gs os = true then some (n, gs, os) else none | _, _ => none) := by show _ = _; rw [HRA.out]; unfold readB; rw [HEB.out, if_pos rfl, HNB.out]; cases unN c <;> cases unN d <;> rfl
                have rK := heap_alloc_new w4 (.cells (cf n (.slice none 0 0) 0 0 0 0) 32)
                have hbA := (Below.refl w4.heap.size w4).alloc (Nat.le_refl _) (.cells (cf n (.slice none 0 0) 0 0 0 0) 32)
                have hs5 : (w4.alloc (.cells (cf n (.slice none 0 0) 0 0 0 0) 32)).heap.size = w4.heap.size + 1 := by simp
                obtain ⟨W5, hW5⟩ : ∃ W, w4.alloc (.cells (cf n (.slice none 0 0) 0 0 0 0) 32) = W := ⟨_, rfl⟩
                obtain ⟨K, hK⟩ : ∃ K, w4.heap.size = K := ⟨_, rfl⟩
                have HV5 : Hid (w4.alloc (.cells (cf n (.slice none 0 0) 0 0 0 0) 32) = W5) := hW5
                have HK : Hid (w4.heap.size = K) := hK
                rw [hW5] at rK hbA hs5
                rw [hK] at rK
                have HSZ5 : Hid (W5.heap.size = w4.heap.size + 1) := hs5
                have HSW : Hid (∀ (W : World) {u : Value}, W.heap[K]? = some (.cells (cf n u 0 0 0 0) 32) → W5.heap.size ≤ W.heap.size) := fun W u h => by
                  have := (Array.getElem?_eq_some_iff.1 h).1
                  have := HSZ5.out
                  have := HK.out
                  omega
                have HA : Hid (Below w4.heap.size w4 W5 ∧ W5.heap[K]? = some (.cells (cf n (.slice none 0 0) 0 0 0 0) 32)) := ⟨hbA, rK⟩
                obtain ⟨i0, hi, hz0, hz1, hz2⟩ := info_parts Tryz.info3
                clear rK hbA hW5 hK hs5 h4
                go_upto_region 10 with fail
                rw [HV5.out, HK.out]
                clear HV5 hq4
                go_wp2_with fail
                go_loopg [81] LC.length (fun gk i wr => ∃ (k : Nat) (gs : List Int) (ua : Option Addr) (uc : Nat), k + gk = LC.length ∧ i = .int .i64 k ∧ numsOf (LC.take k) = some gs ∧ gs.length = k ∧ Below w4.heap.size w4 wr ∧ wr.heap[K]? = some (.cells (cf n (.slice ua k uc) 0 0 0 0) 32) ∧ wr.ownsRow W5.heap.size 3 1 (.slice ua k uc) k (zcs gs))
                case atStart => exact ⟨0, [], none, 0, by omega, rfl, rfl, rfl, HA.out.1, HA.out.2, World.ownsRow_nil _ _ _ _⟩
                case round =>
                  obtain ⟨k, gs, ua, uc, hk, rfl, hgs, hgl, hB, hKk, hown⟩ := hrel
                  by_cases hlt : k < LC.length
                  · obtain ⟨t, ht⟩ : ∃ t, LC[k]? = some t := ⟨_, List.getElem?_eq_getElem hlt⟩
                    have hts := HTC.out t (List.mem_of_getElem? ht)
                    obtain ⟨b5, o5, hva, q5⟩ := Sl_at ((HSL3.out).below hB (Nat.le_refl _)) ht
                    subst hva
                    have hN := rToNum_any (bs t) wr (by show t.toArray.size ≤ _; rw [List.size_toArray]; omega)
                    rw [show (bs t).data.toList = t from rfl] at hN
                    have k0 : (0 : Int) ≤ (k : Int) := by omega
                    have k1 : (k : Int) < (LC.length : Int) := by omega
                    clear hts
                    rcases tn_cases t with et | et
                    · have HT : Hid (numsOf (LC.take (k + 1)) = some (gs ++ [tnV t])) := numsOf_take ht et hgs
                      rw [et] at hN
                      obtain ⟨X', hX'⟩ : ∃ X', tnV t = X' := ⟨_, rfl⟩
                      rw [hX'] at hN HT
                      have HGLk : Hid (gs.length = k) := hgl
                      have HB : Hid (Below w4.heap.size w4 wr) := hB
                      have HKk : Hid (wr.heap[K]? = some (.cells (cf n (.slice ua k uc) 0 0 0 0) 32)) := hKk
                      have HO : Hid (wr.ownsRow W5.heap.size 3 1 (.slice ua k uc) k (zcs gs)) := hown
                      have hml : k + 1 ≤ maxLen := by unfold maxLen; have := HCL.out; omega
                      have hkb : (k + 1) * 8 ≤ 140737488355328 := by have := HCL.out; omega
                      clear ht et hX' hgs hgl hB hKk hown
                      go_upto_region 14 with (first
                        | (go_at_call 40; refine hN.mono ?_; clear hN; rintro e w7 ⟨rfl, hb7⟩; have HB7 : Hid (Below w4.heap.size w4 w7) := HB.out.trans (hb7.mono HB.out.size); have HK7 : Hid (w7.heap[K]? = some (.cells (cf n (.slice ua k uc) 0 0 0 0) 32)) := (hb7.block K (Array.getElem?_eq_some_iff.1 HKk.out).1).trans HKk.out; have HO7 : Hid (w7.ownsRow W5.heap.size 3 1 (.slice ua k uc) k (zcs gs)) := own_kept HO.out hb7; have HS7 : Hid (W5.heap.size ≤ w7.heap.size) := Nat.le_trans (HSW.out wr HKk.out) hb7.size; clear hb7))
                      have y1 := cellB HK7.out 1 _ rfl
                      have hown := HO7.out
                      have hKK : K < w7.heap.size := (Array.getElem?_eq_some_iff.1 HK7.out).1
                      have hKne : ∀ j, (Value.slice ua k uc).ownBlock = some j → j ≠ K := fun j hj => by
                        have := (hown.lt j hj).1
                        have := HSZ5.out
                        have := HK.out
                        omega
                      go_wp2_with (first
                        | (at_builtin; refine wpList_append_own _ rfl _ _ 22 rfl W5.heap.size 3 i0 (.int .i64 0) 1 8 Tryz.underlying22 hi hz0 hz1 hz2 rfl (by decide) (.slice ua k uc) k (zcs gs) rfl (hown.alloc _) _ 1 1 [.int .i64 X'] rfl rfl (World.news_of_block (heap_alloc_new _ _)) (by simp [Value.oneCell']) hml hkb (by have := HS7.out; simp; omega) ?_; intro v' w8 g1 g2 _; obtain ⟨a8, c8, rfl⟩ := owns_slice g1; have rK8 : w8.heap[K]? = some (.cells (cf n (.slice ua k uc) 0 0 0 0) 32) := ((g2.block K (by simp; omega) (fun e => hKne K e.symm rfl)).trans (Below.heap_alloc _ _ _ hKK)).trans HK7.out; have z1 := cellB rK8 1 _ rfl; have z2 := frozenB rK8 1; have HK8 : Hid (w8.heap[K]? = some (.cells (cf n (.slice ua k uc) 0 0 0 0) 32)) := rK8; have HO8 : Hid (w8.ownsRow W5.heap.size 3 1 (.slice a8 (k + 1) c8) (k + 1) (zcs gs ++ [.int .i64 X'])) := g1; have HB8 : Hid (Below w4.heap.size w4 w8) := (HB7.out.alloc HB7.out.size _).grown g2 (by have := HB7.out.size; simp; omega) (fun q hq => by have := (hown.lt q hq).1; have := HSZ5.out; omega); clear rK8 g1 g2))
                      go_roundg (LC.length - (k + 1))
                      case measure => omega
                      case rel =>
                        refine ⟨k + 1, gs ++ [X'], a8, c8, by omega, by go_num, HT.out, by have := HGLk.out; simp; omega, HB8.out.setCell (Nat.le_of_eq HK.out) _, ?_, ?_⟩
                        · rw [setB HK8.out 1 _]; rfl
                        · rw [zcs_snoc]
                          refine owns_kept HO8.out (fun j hj => set_far ?_ _ _)
                          have := (HO8.out.lt j hj).1
                          have := HSZ5.out
                          have := HK.out
                          omega
                    · have HT : Hid (numsOf LC = none) := numsOf_at ht (by rw [et]; decide)
                      rw [et] at hN
                      obtain ⟨X', hX'⟩ : ∃ X', tnV t = X' := ⟨_, rfl⟩
                      rw [hX'] at hN
                      have HRw : Hid (wr.heap[w.heap.size]? = some (.cells (cf 0 (.slice none 0 0) 0 0 0 0) 32)) := (hB.block _ HLT4.out).trans HR4.out
                      have HBw : Hid (Below w.heap.size w wr) := HB4.out.trans (hB.mono HB4.out.size)
                      have HLTw : Hid (w.heap.size < wr.heap.size) := Nat.lt_of_lt_of_le HLT4.out hB.size
                      have HERR0 : Hid (readC s = none) := by show _ = _; rw [HRB.out, HUC0.out, HT.out]
                      clear ht et hX' hgs hgl hB hKk hown
                      go_upto_region 15 with (first
                        | (go_at_call 40; refine hN.mono ?_; clear hN; rintro e w7 ⟨rfl, hb7⟩; have HR7 : Hid (w7.heap[w.heap.size]? = some (.cells (cf 0 (.slice none 0 0) 0 0 0 0) 32)) := (hb7.block _ HLTw.out).trans HRw.out; have HB7 : Hid (Below w.heap.size w w7) := HBw.out.trans (hb7.mono HBw.out.size); clear hb7))
                      have HERR : Hid (readC s = none) := HERR0.out
                      go_wp2_with (first
                        | (refine wpList_store_mid rfl 32 _ _ rfl w.heap.size 0 (cf 0 (.slice none 0 0) 0 0 0 0) rfl rfl (blk_there HR7.out 0 6 (Nat.le_refl _)) Tryz.size32 (cf_ones _ _ _ _ _ _ _ _) ?_))
                      have k4 := blk_range (blk_set HR7.out (L := cfL 0 (.slice none 0 0) 0 0 0 0) rfl)
                      exact bodyPost_ret (v := .tuple #[.agg (cf 0 (.slice none 0 0) 0 0 0 0), .int .i64 4]) (results_two rfl rfl rfl (res32 k4 rfl)) rfl ⟨_, _, rfl, HNO.out _ HERR.out, blk_below (Nat.le_refl _) _ _ _ HB7.out⟩
                  · have hk5 : k = LC.length := by omega
                    subst hk5
                    clear HA hi hz0 hz1 hz2
                    have HUC : Hid (unN c = some gs) := by show _ = _; rw [HUC0.out]; rw [List.take_length] at hgs; exact hgs
                    have HGL : Hid (gs.length ≤ 1000000) := by show _ ≤ _; rw [hgl]; exact HCL.out
                    rw [← hgl] at hKk hown
                    have HIL0 : Hid (Il wr (.slice ua gs.length uc) gs) := by
                      show Il _ _ _
                      exact Il_owns hown
                    have HGN : Hid (∀ j, (Value.slice ua gs.length uc).ownBlock = some j → w.heap.size < j ∧ j ≠ K) := fun j hj => by
                      have := (hown.lt j hj).1
                      have := HLT4.out
                      have := HK.out
                      have := HSZ5.out
                      omega
                    have HK0 : Hid (wr.heap[K]? = some (.cells (Value.int .i64 n :: Value.slice ua gs.length uc :: zcs (mix2 [])).toArray 32)) := hKk
                    have HB0' : Hid (Below w4.heap.size w4 wr) := hB
                    obtain ⟨ws, hws⟩ : ∃ ws, ws = wr := ⟨_, rfl⟩
                    clear hgs hgl hown hKk hB hlt hk
                    subst hws
                    go_wp2_with fail
                    go_loopg [102] LD.length (fun gk i wr => ∃ (k : Nat) (os : List Int), k + gk = LD.length ∧ i = .int .i64 k ∧ numsOf (LD.take k) = some os ∧ os.length = k ∧ Below w4.heap.size w4 wr ∧ wr.heap[K]? = some (.cells (Value.int .i64 n :: Value.slice ua gs.length uc :: zcs (mix2 os)).toArray 32) ∧ Il wr (.slice ua gs.length uc) gs)
                    case atStart => exact ⟨0, [], by omega, rfl, rfl, rfl, HB0'.out, HK0.out, HIL0.out⟩
                    case round =>
                      obtain ⟨k, os, hk, rfl, hos, hol, hB, hKk, hil⟩ := hrel
                      clear HK0 HB0' HIL0
                      by_cases hlt : k < LD.length
                      · obtain ⟨t, ht⟩ : ∃ t, LD[k]? = some t := ⟨_, List.getElem?_eq_getElem hlt⟩
                        have hts := HTD.out t (List.mem_of_getElem? ht)
                        obtain ⟨b6, o6, hva, q6⟩ := Sl_at ((Sl.of_owns HO4.out).below hB (Nat.le_refl _)) ht
                        subst hva
                        have hN := rToNum_any (bs t) wr (by show t.toArray.size ≤ _; rw [List.size_toArray]; omega)
                        rw [show (bs t).data.toList = t from rfl] at hN
                        have k0 : (0 : Int) ≤ (k : Int) := by omega
                        have k1 : (k : Int) < (LD.length : Int) := by omega
                        clear hts
                        rcases tn_cases t with et | et
                        · have HT : Hid (numsOf (LD.take (k + 1)) = some (os ++ [tnV t])) := numsOf_take ht et hos
                          rw [et] at hN
                          obtain ⟨X', hX'⟩ : ∃ X', tnV t = X' := ⟨_, rfl⟩
                          rw [hX'] at hN HT
                          have HOL : Hid (os.length = k) := hol
                          have HB : Hid (Below w4.heap.size w4 wr) := hB
                          have HKk : Hid (wr.heap[K]? = some (.cells (Value.int .i64 n :: Value.slice ua gs.length uc :: zcs (mix2 os)).toArray 32)) := hKk
                          have HIL : Hid (Il wr (.slice ua gs.length uc) gs) := hil
                          have k04 : (k : Int) < 4 := by have := HD4.out; omega
                          clear ht et hX' hos hol hB hKk hil
                          go_upto_region 22 with (first
                            | (go_at_call 40; refine hN.mono ?_; clear hN; rintro e w7 ⟨rfl, hb7⟩; have HB7 : Hid (Below w4.heap.size w4 w7) := HB.out.trans (hb7.mono HB.out.size); have HK7 : Hid (w7.heap[K]? = some (.cells (Value.int .i64 n :: Value.slice ua gs.length uc :: zcs (mix2 os)).toArray 32)) := (hb7.block K (Array.getElem?_eq_some_iff.1 HKk.out).1).trans HKk.out; have HIL7 : Hid (Il w7 (.slice ua gs.length uc) gs) := HIL.out.next hb7; clear hb7))
                          have hk4l : os.length < 4 := by have := HOL.out; omega
                          obtain ⟨old, hold⟩ := mix2_at hk4l
                          have z1 := cellB HK7.out (2 + k) (.int .i64 old) (by rw [List.getElem?_toArray, show 2 + k = os.length + 1 + 1 by have := HOL.out; omega]; exact zcs_at _ _ _ hold)
                          have z2 := frozenB HK7.out (2 + k)
                          have HKS : Hid ((w7.setCell ⟨K, 2 + k, none⟩ (.int .i64 X')).heap[K]? = some (.cells (Value.int .i64 n :: Value.slice ua gs.length uc :: zcs (mix2 (os ++ [X']))).toArray 32)) := by
                            show _ = _
                            rw [setB HK7.out (2 + k) (.int .i64 X'), ← mix2_set hk4l, HOL.out]
                            exact mix_cells32 _ _ _ _ _
                          have HBS : Hid (Below w4.heap.size w4 (w7.setCell ⟨K, 2 + k, none⟩ (.int .i64 X'))) := HB7.out.setCell (Nat.le_of_eq HK.out) _
                          have HIS : Hid (Il (w7.setCell ⟨K, 2 + k, none⟩ (.int .i64 X')) (.slice ua gs.length uc) gs) := Il_ne (L := [.int .i64 X']) HIL7.out (fun j hj => (HGN.out j hj).2)
                          clear hk4l hold HB HKk HIL HB7 HK7 HIL7
                          go_wp2_with fail
                          go_roundg (LD.length - (k + 1))
                          case measure => omega
                          case rel => exact ⟨k + 1, os ++ [X'], by omega, by go_num, HT.out, by have := HOL.out; simp; omega, HBS.out, HKS.out, HIS.out⟩
                        · have HT : Hid (numsOf LD = none) := numsOf_at ht (by rw [et]; decide)
                          rw [et] at hN
                          obtain ⟨X', hX'⟩ : ∃ X', tnV t = X' := ⟨_, rfl⟩
                          rw [hX'] at hN
                          have HRw : Hid (wr.heap[w.heap.size]? = some (.cells (cf 0 (.slice none 0 0) 0 0 0 0) 32)) := (hB.block _ HLT4.out).trans HR4.out
                          have HBw : Hid (Below w.heap.size w wr) := HB4.out.trans (hB.mono HB4.out.size)
                          have HLTw : Hid (w.heap.size < wr.heap.size) := Nat.lt_of_lt_of_le HLT4.out hB.size
                          have HERR0 : Hid (readC s = none) := by show _ = _; rw [HRB.out, HUC.out, HUD.out, HT.out]
                          clear ht et hX' hos hol hB hKk hil
                          go_upto_region 23 with (first
                            | (go_at_call 40; refine hN.mono ?_; clear hN; rintro e w7 ⟨rfl, hb7⟩; have HR7 : Hid (w7.heap[w.heap.size]? = some (.cells (cf 0 (.slice none 0 0) 0 0 0 0) 32)) := (hb7.block _ HLTw.out).trans HRw.out; have HB7 : Hid (Below w.heap.size w w7) := HBw.out.trans (hb7.mono HBw.out.size); clear hb7))
                          have HERR : Hid (readC s = none) := HERR0.out
                          go_wp2_with (first
                            | (refine wpList_store_mid rfl 32 _ _ rfl w.heap.size 0 (cf 0 (.slice none 0 0) 0 0 0 0) rfl rfl (blk_there HR7.out 0 6 (Nat.le_refl _)) Tryz.size32 (cf_ones _ _ _ _ _ _ _ _) ?_))
                          have k4 := blk_range (blk_set HR7.out (L := cfL 0 (.slice none 0 0) 0 0 0 0) rfl)
                          exact bodyPost_ret (v := .tuple #[.agg (cf 0 (.slice none 0 0) 0 0 0 0), .int .i64 4]) (results_two rfl rfl rfl (res32 k4 rfl)) rfl ⟨_, _, rfl, HNO.out _ HERR.out, blk_below (Nat.le_refl _) _ _ _ HB7.out⟩
                      · have hk4 : k = LD.length := by omega
                        have hos4 : os.length = 4 := by rw [hol, hk4]; exact HD4.out
                        rw [hk4, List.take_length] at hos
                        obtain ⟨p, q, r, t, hpq⟩ := list4i hos4
                        rw [hpq] at hKk hos
                        have hKk' : wr.heap[K]? = some (.cells (cf n (.slice ua gs.length uc) p q r t) 32) := hKk
                        have hKl : K < wr.heap.size := (Array.getElem?_eq_some_iff.1 hKk).1
                        have KR : Hid (wr.rangeAt K 0 (cfL n (.slice ua gs.length uc) p q r t)) := blk_range (L := cfL n (.slice ua gs.length uc) p q r t) hKk'
                        have HRw : Hid (wr.heap[w.heap.size]? = some (.cells (cf 0 (.slice none 0 0) 0 0 0 0) 32)) := (hB.block _ HLT4.out).trans HR4.out
                        have HBw : Hid (Below w.heap.size w wr) := HB4.out.trans (hB.mono HB4.out.size)
                        have HLTw : Hid (w.heap.size < wr.heap.size) := Nat.lt_of_lt_of_le HLT4.out hB.size
                        have HGW : Hid (∀ W, Below wr.heap.size wr W → Il W (.slice ua gs.length uc) gs) := fun W hW => hil.next hW
                        have hC := rCheck_any n (.slice ua gs.length uc) gs p q r t wr hil HGL.out
                        have HKK : Hid (∀ W, Below wr.heap.size wr W → W.rangeAt K 0 (cfL n (.slice ua gs.length uc) p q r t)) := fun W hW => blk_range (L := cfL n (.slice ua gs.length uc) p q r t) ((hW.block K hKl).trans hKk')
                        have HRDF : Hid (readC s = if okC n gs [p, q, r, t] = true then some (n, gs, [p, q, r, t]) else none) := by
                          show _ = _
                          rw [HRB.out, HUC.out, HUD.out, hos]
                          show (if [p, q, r, t].length = 4 ∧ okC n gs [p, q, r, t] = true then _ else _) = _
                          by_cases h : okC n gs [p, q, r, t] = true
                          · rw [if_pos ⟨rfl, h⟩, if_pos h]
                          · rw [if_neg (fun e => h e.2), if_neg h]
                        clear hB hKk hKk' hos hil hKl hol hpq hk4 hos4
                        by_cases hok : okC n gs [p, q, r, t] = true
                        · rw [if_pos hok] at hC
                          have HYES : Hid (readC s = some (n, gs, [p, q, r, t])) := by
                            show _ = _
                            rw [HRDF.out, if_pos hok]
                          clear hok
                          go_upto_region 28 with (first
                            | (refine wpList_load_mid rfl 32 _ rfl K 0 rfl (cfL n (.slice ua gs.length uc) p q r t) _ KR.out Tryz.underlying32 rfl Tryz.size32 ?_)
                            | (go_at_call 14; refine hC.mono ?_; rintro e w6 ⟨rfl, hb6⟩; have HR6 : Hid (w6.heap[w.heap.size]? = some (.cells (cf 0 (.slice none 0 0) 0 0 0 0) 32)) := (hb6.block _ HLTw.out).trans HRw.out; have HB6 : Hid (Below w.heap.size w w6) := HBw.out.trans (hb6.mono HBw.out.size); have HK6 : Hid (w6.rangeAt K 0 (cfL n (.slice ua gs.length uc) p q r t)) := HKK.out _ hb6; have HG6 : Hid (Il w6 (.slice ua gs.length uc) gs) := HGW.out _ hb6; clear hb6))
                          go_wp2_with (first
                            | (refine wpList_load_mid rfl 32 _ rfl K 0 rfl (cfL n (.slice ua gs.length uc) p q r t) _ HK6.out Tryz.underlying32 rfl Tryz.size32 ?_)
                            | (refine wpList_store_mid rfl 32 _ _ rfl w.heap.size 0 (cf n (.slice ua gs.length uc) p q r t) rfl rfl (blk_there HR6.out 0 6 (Nat.le_refl _)) Tryz.size32 (cf_ones _ _ _ _ _ _ _ _) ?_))
                          have k4 := blk_range (blk_set HR6.out (L := cfL n (.slice ua gs.length uc) p q r t) rfl)
                          refine bodyPost_ret (v := .tuple #[.agg (cf n (.slice ua gs.length uc) p q r t), .int .i64 0]) (results_two rfl rfl rfl (res32 k4 rfl)) rfl ⟨_, _, rfl, ?_, blk_below (Nat.le_refl _) _ _ _ HB6.out⟩
                          exact HYS.out _ _ _ HYES.out ⟨rfl, _, _, _, _, _, rfl, rfl, Il_ne HG6.out (fun k hk => by have := (HGN.out k hk).1; omega), fun k hk => Nat.le_of_lt (HGN.out k hk).1⟩
                        · rw [if_neg hok] at hC
                          have HERR : Hid (readC s = none) := by
                            show _ = _
                            rw [HRDF.out, if_neg hok]
                          clear hok
                          go_upto_region 27 with (first
                            | (refine wpList_load_mid rfl 32 _ rfl K 0 rfl (cfL n (.slice ua gs.length uc) p q r t) _ KR.out Tryz.underlying32 rfl Tryz.size32 ?_)
                            | (go_at_call 14; refine hC.mono ?_; rintro e w6 ⟨rfl, hb6⟩; have HR6 : Hid (w6.heap[w.heap.size]? = some (.cells (cf 0 (.slice none 0 0) 0 0 0 0) 32)) := (hb6.block _ HLTw.out).trans HRw.out; have HB6 : Hid (Below w.heap.size w w6) := HBw.out.trans (hb6.mono HBw.out.size); clear hb6))
                          go_wp2_with (first
                            | (refine wpList_store_mid rfl 32 _ _ rfl w.heap.size 0 (cf 0 (.slice none 0 0) 0 0 0 0) rfl rfl (blk_there HR6.out 0 6 (Nat.le_refl _)) Tryz.size32 (cf_ones _ _ _ _ _ _ _ _) ?_))
                          have k4 := blk_range (blk_set HR6.out (L := cfL 0 (.slice none 0 0) 0 0 0 0) rfl)
                          exact bodyPost_ret (v := .tuple #[.agg (cf 0 (.slice none 0 0) 0 0 0 0), .int .i64 4]) (results_two rfl rfl rfl (res32 k4 rfl)) rfl ⟨_, _, rfl, HNO.out _ HERR.out, blk_below (Nat.le_refl _) _ _ _ HB6.out⟩
              · have hq4 : ((LD.length : Int) != 4) = true := by rw [bne_iff_ne]; omega
                have HERR : Hid (readC s = none) := by show _ = _; rw [HRA.out]; exact readB_len (by rw [HLD.out]; exact h4)
                clear h4
                go_wp2_with (first
                  | (refine wpList_store_mid rfl 32 _ _ rfl w.heap.size 0 (cf 0 (.slice none 0 0) 0 0 0 0) rfl rfl (blk_there HR4.out 0 6 (Nat.le_refl _)) Tryz.size32 (cf_ones _ _ _ _ _ _ _ _) ?_))
                have k4 := blk_range (blk_set HR4.out (L := cfL 0 (.slice none 0 0) 0 0 0 0) rfl)
                exact bodyPost_ret (v := .tuple #[.agg (cf 0 (.slice none 0 0) 0 0 0 0), .int .i64 4]) (results_two rfl rfl rfl (res32 k4 rfl)) rfl ⟨_, _, rfl, HNO.out _ HERR.out, blk_below (Nat.le_refl _) _ _ _ HB4.out⟩
            · have HERR : Hid (readC s = none) := by show _ = _; rw [HRA.out]; exact readB_d (by unfold unN; rw [HED.out]; rfl)
              go_wp2_with (first
                | (refine wpList_store_mid rfl 32 _ _ rfl w.heap.size 0 (cf 0 (.slice none 0 0) 0 0 0 0) rfl rfl (blk_there HR4.out 0 6 (Nat.le_refl _)) Tryz.size32 (cf_ones _ _ _ _ _ _ _ _) ?_))
              have k4 := blk_range (blk_set HR4.out (L := cfL 0 (.slice none 0 0) 0 0 0 0) rfl)
              exact bodyPost_ret (v := .tuple #[.agg (cf 0 (.slice none 0 0) 0 0 0 0), .int .i64 4]) (results_two rfl rfl rfl (res32 k4 rfl)) rfl ⟨_, _, rfl, HNO.out _ HERR.out, blk_below (Nat.le_refl _) _ _ _ HB4.out⟩
          · have HERR : Hid (readC s = none) := by show _ = _; rw [HRA.out]; exact readB_c (by unfold unN; rw [HEC.out]; rfl)
            go_wp2_with (first
              | (refine wpList_store_mid rfl 32 _ _ rfl w.heap.size 0 (cf 0 (.slice none 0 0) 0 0 0 0) rfl rfl (blk_there HR4.out 0 6 (Nat.le_refl _)) Tryz.size32 (cf_ones _ _ _ _ _ _ _ _) ?_))
            have k4 := blk_range (blk_set HR4.out (L := cfL 0 (.slice none 0 0) 0 0 0 0) rfl)
            exact bodyPost_ret (v := .tuple #[.agg (cf 0 (.slice none 0 0) 0 0 0 0), .int .i64 4]) (results_two rfl rfl rfl (res32 k4 rfl)) rfl ⟨_, _, rfl, HNO.out _ HERR.out, blk_below (Nat.le_refl _) _ _ _ HB4.out⟩
        · have HERR : Hid (readC s = none) := by show _ = _; rw [HRA.out]; unfold readB; rw [HEB.out]; rfl
          go_wp2_with (first
            | (refine wpList_store_mid rfl 32 _ _ rfl w.heap.size 0 (cf 0 (.slice none 0 0) 0 0 0 0) rfl rfl (blk_there HR4.out 0 6 (Nat.le_refl _)) Tryz.size32 (cf_ones _ _ _ _ _ _ _ _) ?_))
          have k4 := blk_range (blk_set HR4.out (L := cfL 0 (.slice none 0 0) 0 0 0 0) rfl)
          exact bodyPost_ret (v := .tuple #[.agg (cf 0 (.slice none 0 0) 0 0 0 0), .int .i64 4]) (results_two rfl rfl rfl (res32 k4 rfl)) rfl ⟨_, _, rfl, HNO.out _ HERR.out, blk_below (Nat.le_refl _) _ _ _ HB4.out⟩
      · have hqa : ((bs a).toList == X.toList) = false := by rw [beq_eq_false_iff_ne, ← hX, bs_toListK, bs_toListK]; exact ha
        have HERR : Hid (readC s = none) := by show _ = _; unfold readC; rw [HL.out]; show (if a = cfgW then _ else _) = _; rw [if_neg ha]
        clear ha
        go_wp2_with (first
          | (refine wpList_store_mid rfl 32 _ _ rfl w.heap.size 0 (cf 0 (.slice none 0 0) 0 0 0 0) rfl rfl (blk_there HR1.out 0 6 (Nat.le_refl _)) Tryz.size32 (cf_ones _ _ _ _ _ _ _ _) ?_))
        have k4 := blk_range (blk_set HR1.out (L := cfL 0 (.slice none 0 0) 0 0 0 0) rfl)
        exact bodyPost_ret (v := .tuple #[.agg (cf 0 (.slice none 0 0) 0 0 0 0), .int .i64 4]) (results_two rfl rfl rfl (res32 k4 rfl)) rfl ⟨_, _, rfl, HNO.out _ HERR.out, blk_below (Nat.le_refl _) _ _ _ HB1.out⟩
    · have hql : ((L.length : Int) != 4) = true := by rw [bne_iff_ne]; omega
      have HERR : Hid (readC s = none) := readC_len HL.out h4
      clear h4
      go_wp2_with (first
        | (refine wpList_store_mid rfl 32 _ _ rfl w.heap.size 0 (cf 0 (.slice none 0 0) 0 0 0 0) rfl rfl (blk_there HR1.out 0 6 (Nat.le_refl _)) Tryz.size32 (cf_ones _ _ _ _ _ _ _ _) ?_))
      have k4 := blk_range (blk_set HR1.out (L := cfL 0 (.slice none 0 0) 0 0 0 0) rfl)
      exact bodyPost_ret (v := .tuple #[.agg (cf 0 (.slice none 0 0) 0 0 0 0), .int .i64 4]) (results_two rfl rfl rfl (res32 k4 rfl)) rfl ⟨_, _, rfl, HNO.out _ HERR.out, blk_below (Nat.le_refl _) _ _ _ HB1.out⟩
  · have h4 := HBAD.out rfl
    have HERR : Hid (readC s = none) := readC_len HL.out h4
    clear h4
    go_wp2_with (first
      | (refine wpList_store_mid rfl 32 _ _ rfl w.heap.size 0 (cf 0 (.slice none 0 0) 0 0 0 0) rfl rfl (blk_there HR1.out 0 6 (Nat.le_refl _)) Tryz.size32 (cf_ones _ _ _ _ _ _ _ _) ?_))
    have k4 := blk_range (blk_set HR1.out (L := cfL 0 (.slice none 0 0) 0 0 0 0) rfl)
    exact bodyPost_ret (v := .tuple #[.agg (cf 0 (.slice none 0 0) 0 0 0 0), .int .i64 4]) (results_two rfl rfl rfl (res32 k4 rfl)) rfl ⟨_, _, rfl, HNO.out _ HERR.out, blk_below (Nat.le_refl _) _ _ _ HB1.out⟩
end Go.Proofs.YtfjbhljnledphaaGreatDoor
