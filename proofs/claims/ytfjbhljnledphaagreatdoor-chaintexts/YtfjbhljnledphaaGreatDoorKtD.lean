/- Configurations' texts: Read, walked. -/
import Derived.Test.YtfjbhljnledphaaGreatDoorKtB
namespace Go.Proofs.YtfjbhljnledphaaGreatDoor
open Go.RowKit
attribute [local go_sem ↓] Go.wp_at_zero Go.wp_at_succ

/-- What Read leaves. -/
def RdPost (s : List UInt8) (base : Nat) (x : Value) (E : Int) (W' : World) : Prop :=
  match readC s with
  | some (num, ns, os) => E = 0 ∧ ∃ (v : Value) (a b c d : Int), os = [a, b, c, d] ∧ x = .agg (cf num v a b c d) ∧ Il W' v ns ∧ ∀ k, v.ownBlock = some k → base ≤ k
  | none => E = 4 ∧ x = .agg (cf 0 (.slice none 0 0) 0 0 0 0)
theorem list4 {α : Type} {l : List α} (h : l.length = 4) : ∃ a b c d, l = [a, b, c, d] := by
  match l, h with
  | [a, b, c, d], _ => exact ⟨a, b, c, d, rfl⟩
theorem list4i {l : List Int} (h : l.length = 4) : ∃ a b c d, l = [a, b, c, d] := list4 h
theorem bs_toListK (a : List UInt8) : (bs a).toList = a := by
  rw [ByteArray.toList_eq]; rfl
theorem readC_len {s : List UInt8} {L : List (List UInt8)} (hL : texts s = L) (h : ¬ L.length = 4) : readC s = none := by
  unfold readC
  rw [hL]
  match L, h with
  | [], _ => rfl
  | [_], _ => rfl
  | [_, _], _ => rfl
  | [_, _, _], _ => rfl
  | [_, _, _, _], h => exact absurd rfl h
  | _ :: _ :: _ :: _ :: _ :: _, _ => rfl
theorem texts_mem_len {s t : List UInt8} (h : t ∈ texts s) : t.length ≤ s.length := by
  by_cases e : errOf s = 0
  · have h1 := pack_texts (good_err.1 e)
    have h2 := mem_pack_len h
    rw [h1] at h2
    exact h2
  · rw [texts_bad e] at h; cases h
theorem un_len {s : List UInt8} {ns : List Int} (h : unN s = some ns) : ns.length ≤ s.length := by
  unfold unN at h
  by_cases e : errOf s = 0
  · rw [if_pos e] at h
    rw [(numsOf_back _ _ h).2]
    exact texts_count s
  · rw [if_neg e] at h; cases h
theorem un_some (s : List UInt8) (ns : List Int) (w : World) (hs : s.length ≤ 1000000) (he : Env w) (h : unN s = some ns) :
    Calls Tryz.prog 38 #[.string (bs s)] w fun e W' => ∃ va vc, e = .returned (.tuple #[.slice va ns.length vc, .int .i64 0]) ∧ Il W' (.slice va ns.length vc) ns ∧ ns.length ≤ s.length ∧ (∀ k, (Value.slice va ns.length vc).ownBlock = some k → w.heap.size ≤ k ∧ k < W'.heap.size) ∧ Below w.heap.size w W' := by
  refine (cunpack_any s w hs he).mono ?_
  rintro e W' ⟨v, E, rfl, hp, hb⟩
  unfold UnPost at hp
  rw [h] at hp
  obtain ⟨rfl, h1, h2, h3⟩ := hp
  obtain ⟨va, vc, rfl⟩ := h1.slice
  exact ⟨va, vc, rfl, h1, h2, h3, hb⟩
theorem un_none (s : List UInt8) (w : World) (hs : s.length ≤ 1000000) (he : Env w) (h : unN s = none) :
    Calls Tryz.prog 38 #[.string (bs s)] w fun e W' => e = .returned (.tuple #[.slice none 0 0, .int .i64 4]) ∧ Below w.heap.size w W' := by
  refine (cunpack_any s w hs he).mono ?_
  rintro e W' ⟨v, E, rfl, hp, hb⟩
  unfold UnPost at hp
  rw [h] at hp
  obtain ⟨rfl, rfl⟩ := hp
  exact ⟨rfl, hb⟩
def mixO (os : List Int) (k : Nat) : List Int := os.take k ++ List.replicate (4 - k) 0
theorem mixO_zero (os : List Int) : mixO os 0 = [0, 0, 0, 0] := rfl
theorem mixO_four {os : List Int} (h : os.length = 4) : mixO os 4 = os := by
  obtain ⟨a, b, c, d, rfl⟩ := list4 h
  rfl
theorem mixO_at {os : List Int} {k : Nat} (h : os.length = 4) (hk : k < 4) : ∃ x, (mixO os k)[k]? = some x := by
  obtain ⟨a, b, c, d, rfl⟩ := list4 h
  match k, hk with
  | 0, _ => exact ⟨_, rfl⟩
  | 1, _ => exact ⟨_, rfl⟩
  | 2, _ => exact ⟨_, rfl⟩
  | 3, _ => exact ⟨_, rfl⟩
theorem mixO_set {os : List Int} {k : Nat} {x : Int} (h : os.length = 4) (hk : k < 4) (hx : os[k]? = some x) : (mixO os k).set k x = mixO os (k + 1) := by
  obtain ⟨a, b, c, d, rfl⟩ := list4 h
  match k, hk with
  | 0, _ => injection hx with hx; subst hx; rfl
  | 1, _ => injection hx with hx; subst hx; rfl
  | 2, _ => injection hx with hx; subst hx; rfl
  | 3, _ => injection hx with hx; subst hx; rfl
theorem mix_cells (n : Value) (v : Value) (l : List Int) (k : Nat) (x : Int) : some (Obj.cells ((n :: v :: zcs l).toArray.setIfInBounds (2 + k) (.int .i64 x)) 25) = some (Obj.cells (n :: v :: zcs (l.set k x)).toArray 25) := by
  congr 2
  rw [List.setIfInBounds_toArray, show 2 + k = k + 1 + 1 by omega, List.set_cons_succ, List.set_cons_succ]
  congr 3
  unfold zcs
  rw [List.map_set]
theorem Il_at4 {w : World} {a : Option Addr} {c : Nat} {l : List Int} (h : Il w (.slice a 4 c) l) (h4 : l.length = 4) {k : Nat} {t : Int} (hk : l[k]? = some t) : ∃ b o, a = some ⟨b, o, none⟩ ∧ w.cell? ⟨b, o + k, none⟩ = some (.int .i64 t) := by
  rw [← h4] at h
  obtain ⟨b, o, e, _, q⟩ := h.at hk
  exact ⟨b, o, e, q⟩
set_option maxRecDepth 20000 in
set_option maxHeartbeats 8000000 in
theorem cRead_any (s : List UInt8) (w : World) (hs : s.length ≤ 1000000) (he : Env w) :
    Calls Tryz.prog 10 #[.string (bs s)] w fun e W' => ∃ x E, e = .returned (.tuple #[x, .int .i64 E]) ∧ RdPost s w.heap.size x E W' ∧ Below w.heap.size w W' := by
  have hb0 : Below w.heap.size w (w.alloc (.cells (cf 0 (.slice none 0 0) 0 0 0 0) 25)) := (Below.refl _ w).alloc (Nat.le_refl _) _
  have r0 := heap_alloc_new w (.cells (cf 0 (.slice none 0 0) 0 0 0 0) 25)
  obtain ⟨W0, hW0⟩ : ∃ W, w.alloc (.cells (cf 0 (.slice none 0 0) 0 0 0 0) 25) = W := ⟨_, rfl⟩
  have hsz : w.heap.size < W0.heap.size := by rw [← hW0]; simp
  rw [hW0] at hb0 r0
  have hU := Unpack_any s W0 hs (he.next hb0)
  have HV : Hid (w.alloc (.cells (cf 0 (.slice none 0 0) 0 0 0 0) 25) = W0) := hW0
  have HR0 : Hid (W0.heap[w.heap.size]? = some (.cells (cf 0 (.slice none 0 0) 0 0 0 0) 25)) := r0
  have HLT0 : Hid (w.heap.size < W0.heap.size) := hsz
  have HB0 : Hid (Below w.heap.size w W0) := hb0
  have HE : Hid (∀ W, Below w.heap.size w W → Env W) := fun W hb => he.next hb
  have HSZ : Hid (s.length ≤ 1000000) := hs
  have HNO : Hid (∀ W', readC s = none → RdPost s w.heap.size (.agg (cf 0 (.slice none 0 0) 0 0 0 0)) 4 W') := fun W' h => by unfold RdPost; rw [h]; exact ⟨rfl, rfl⟩
  have HYS : Hid (∀ W' x E, ∀ {r}, readC s = some r → (E = 0 ∧ ∃ (v : Value) (a b c d : Int), r.2.2 = [a, b, c, d] ∧ x = .agg (cf r.1 v a b c d) ∧ Il W' v r.2.1 ∧ ∀ k, v.ownBlock = some k → w.heap.size ≤ k) → RdPost s w.heap.size x E W') := fun W' x E r h h2 => by unfold RdPost; rw [h]; exact h2
  obtain ⟨EE, hEE⟩ : ∃ EE, errOf s = EE := ⟨_, rfl⟩
  have hEc := err_cases s
  rw [hEE] at hU hEc
  obtain ⟨L, hL⟩ : ∃ L, texts s = L := ⟨_, rfl⟩
  have HL : Hid (texts s = L) := hL
  have HTS : Hid (∀ t ∈ L, t.length ≤ s.length) := fun t ht => texts_mem_len (by rw [hL]; exact ht)
  have HBAD : Hid (EE = 4 → ¬ L.length = 4) := fun h => by rw [← hL, texts_bad (by rw [hEE, h]; decide)]; decide
  rw [hL] at hU
  obtain ⟨X, hX⟩ : ∃ X, bs cfgW = X := ⟨_, rfl⟩
  have hlit : (⟨#[99, 111, 110, 102, 105, 103]⟩ : ByteArray) = X := hX
  clear hW0 r0 hb0 hsz hs he hEE hL
  go_enter Tryz.func10, Tryz.ntmps10
  rw [hlit]
  clear hlit
  go_upto_region 1 with fail
  rw [HV.out]
  clear HV
  go_upto_region 2 with (first
    | (go_at_call 36; refine hU.mono ?_; clear hU; rintro e w1 ⟨v, rfl, hown, hb1⟩; obtain ⟨va, vc, rfl⟩ := owns_slice hown; have HO1 : Hid (w1.ownsRow W0.heap.size 9 1 (.slice va L.length vc) L.length (strs L)) := hown; have HR1 : Hid (w1.heap[w.heap.size]? = some (.cells (cf 0 (.slice none 0 0) 0 0 0 0) 25)) := (hb1.block _ HLT0.out).trans HR0.out; have HLT1 : Hid (w.heap.size < w1.heap.size) := Nat.lt_of_lt_of_le HLT0.out hb1.size; have HB1 : Hid (Below w.heap.size w w1) := HB0.out.trans (hb1.mono HB0.out.size); clear hown hb1))
  rcases hEc with rfl | rfl
  · by_cases h4 : L.length = 4
    · obtain ⟨a, b, c, d, hLL⟩ := list4 h4
      subst hLL
      have hS := Sl.of_owns HO1.out
      obtain ⟨b1, o1, hva, q0⟩ := Sl_at hS (i := 0) (t := a) rfl
      subst hva
      have HSC : Hid (∀ W, Below w1.heap.size w1 W → W.cell? ⟨b1, o1 + 1, none⟩ = some (.string (bs b)) ∧ W.cell? ⟨b1, o1 + 2, none⟩ = some (.string (bs c)) ∧ W.cell? ⟨b1, o1 + 3, none⟩ = some (.string (bs d))) := fun W hW => by
        have hS2 := hS.below hW (Nat.le_refl _)
        obtain ⟨x1, y1, e1, z1⟩ := Sl_at hS2 (i := 1) (t := b) rfl
        obtain ⟨x2, y2, e2, z2⟩ := Sl_at hS2 (i := 2) (t := c) rfl
        obtain ⟨x3, y3, e3, z3⟩ := Sl_at hS2 (i := 3) (t := d) rfl
        injection e1 with e1; injection e1 with e11 e12
        injection e2 with e2; injection e2 with e21 e22
        injection e3 with e3; injection e3 with e31 e32
        subst e11 e12 e21 e22 e31 e32
        exact ⟨z1, z2, z3⟩
      have q1 := (HSC.out _ (Below.refl _ _)).1
      rw [Nat.add_zero] at q0
      have HLN : Hid (∀ t ∈ [a, b, c, d], t.length ≤ 1000000) := fun t ht => Nat.le_trans (HTS.out t ht) HSZ.out
      clear h4 hS HO1
      by_cases ha : a = cfgW
      · subst ha
        have hqa : (X.toList == X.toList) = true := by simp
        rw [hX] at q0
        have HRA : Hid (readC s = readB b c d) := by show _ = _; unfold readC; rw [HL.out]; show (if cfgW = cfgW then _ else _) = _; rw [if_pos rfl]
        clear hX
        go_upto_region 4 with fail
        have hN := ToNum_any (bs b) w1 (by show b.toArray.size ≤ _; rw [List.size_toArray]; have := HLN.out b (by simp); omega) (HE.out _ HB1.out)
        rw [show (bs b).data.toList = b from rfl] at hN
        obtain ⟨n, hn⟩ : ∃ n, tnV b = n := ⟨_, rfl⟩
        clear q0 hqa
        rcases tn_cases b with eb | eb
        · rw [eb] at hN
          have HRB : Hid (readC s = match unN c, unN d with | some gs, some os => if os.length = 4 ∧ okC n gs os = true then some (n, gs, os) else none | _, _ => none) := by show _ = _; rw [HRA.out]; unfold readB; rw [if_pos eb, hn]; cases unN c <;> cases unN d <;> rfl
          rw [hn] at hN
          clear eb hn
          go_upto_region 5 with (first
            | (go_at_call 37; refine hN.mono ?_; clear hN; rintro e w2 ⟨rfl, hb2⟩; have HR2 : Hid (w2.heap[w.heap.size]? = some (.cells (cf 0 (.slice none 0 0) 0 0 0 0) 25)) := (hb2.block _ HLT1.out).trans HR1.out; have HLT2 : Hid (w.heap.size < w2.heap.size) := Nat.lt_of_lt_of_le HLT1.out hb2.size; have HB2 : Hid (Below w.heap.size w w2) := HB1.out.trans (hb2.mono HB1.out.size); have HSB2 : Hid (Below w1.heap.size w1 w2) := hb2; clear hb2))
          go_upto_region 7 with fail
          have q2 := (HSC.out _ HSB2.out).2.1
          cases hc : unN c with
          | none =>
            have hC3 := un_none c w2 (HLN.out c (by simp)) (HE.out _ HB2.out) hc
            have HERR0 : Hid (readC s = none) := by show _ = _; rw [HRB.out, hc]
            clear hc
            go_upto_region 8 with (first
              | (go_at_call 38; refine hC3.mono ?_; clear hC3; rintro e w3 ⟨rfl, hb3⟩; have HR3 : Hid (w3.heap[w.heap.size]? = some (.cells (cf 0 (.slice none 0 0) 0 0 0 0) 25)) := (hb3.block _ HLT2.out).trans HR2.out; have HLT3 : Hid (w.heap.size < w3.heap.size) := Nat.lt_of_lt_of_le HLT2.out hb3.size; have HB3 : Hid (Below w.heap.size w w3) := HB2.out.trans (hb3.mono HB2.out.size); clear hb3))
            have HERR : Hid (readC s = none) := HERR0.out
            go_wp2_with (first
              | (refine wpList_store_mid rfl 25 _ _ rfl w.heap.size 0 (cf 0 (.slice none 0 0) 0 0 0 0) rfl rfl (blk_there HR3.out 0 6 (Nat.le_refl _)) Tryz.size25 (cf_ones _ _ _ _ _ _ _ _) ?_))
            have k4 := blk_range (blk_set HR3.out (L := cfL 0 (.slice none 0 0) 0 0 0 0) rfl)
            exact bodyPost_ret (v := .tuple #[.agg (cf 0 (.slice none 0 0) 0 0 0 0), .int .i64 4]) (results_two rfl rfl rfl (res25 k4 rfl)) rfl ⟨_, _, rfl, HNO.out _ HERR.out, blk_below (Nat.le_refl _) _ _ _ HB3.out⟩
          | some gs =>
            have hC3 := un_some c gs w2 (HLN.out c (by simp)) (HE.out _ HB2.out) hc
            have HRD0 : Hid (readC s = match unN d with | some os => if os.length = 4 ∧ okC n gs os = true then some (n, gs, os) else none | none => none) := by show _ = _; rw [HRB.out, hc]; cases unN d <;> rfl
            have HGL : Hid (gs.length ≤ 1000000) := Nat.le_trans (un_len hc) (HLN.out c (by simp))
            clear hc
            go_upto_region 8 with (first
              | (go_at_call 38; refine hC3.mono ?_; clear hC3; rintro e w3 ⟨va3, vc3, rfl, i1, i2, i3, hb3⟩; have HR3 : Hid (w3.heap[w.heap.size]? = some (.cells (cf 0 (.slice none 0 0) 0 0 0 0) 25)) := (hb3.block _ HLT2.out).trans HR2.out; have HLT3 : Hid (w.heap.size < w3.heap.size) := Nat.lt_of_lt_of_le HLT2.out hb3.size; have HB3 : Hid (Below w.heap.size w w3) := HB2.out.trans (hb3.mono HB2.out.size); have HG3 : Hid (Il w3 (.slice va3 gs.length vc3) gs) := i1; have HGO : Hid (∀ k, (Value.slice va3 gs.length vc3).ownBlock = some k → w.heap.size < k) := fun k hk => Nat.lt_of_lt_of_le HLT2.out (i3 k hk).1; have HSC3 : Hid (∀ W, Below w3.heap.size w3 W → W.cell? ⟨b1, o1 + 3, none⟩ = some (.string (bs d))) := fun W hW => ((HSC.out W ((HSB2.out.trans (hb3.mono HSB2.out.size)).trans (hW.mono (HSB2.out.trans (hb3.mono HSB2.out.size)).size)))).2.2; clear hb3 i1 i2 i3))
            go_upto_region 10 with fail
            have q3 := HSC3.out _ (Below.refl _ _)
            cases hd : unN d with
            | none =>
              have hD := un_none d w3 (HLN.out d (by simp)) (HE.out _ HB3.out) hd
              have HERR0 : Hid (readC s = none) := by show _ = _; rw [HRD0.out, hd]
              clear hd
              go_upto_region 11 with (first
                | (go_at_call 38; refine hD.mono ?_; clear hD; rintro e w4 ⟨rfl, hb4⟩; have HR4 : Hid (w4.heap[w.heap.size]? = some (.cells (cf 0 (.slice none 0 0) 0 0 0 0) 25)) := (hb4.block _ HLT3.out).trans HR3.out; have HLT4 : Hid (w.heap.size < w4.heap.size) := Nat.lt_of_lt_of_le HLT3.out hb4.size; have HB4 : Hid (Below w.heap.size w w4) := HB3.out.trans (hb4.mono HB3.out.size); clear hb4))
              have HERR : Hid (readC s = none) := HERR0.out
              go_wp2_with (first
                | (refine wpList_store_mid rfl 25 _ _ rfl w.heap.size 0 (cf 0 (.slice none 0 0) 0 0 0 0) rfl rfl (blk_there HR4.out 0 6 (Nat.le_refl _)) Tryz.size25 (cf_ones _ _ _ _ _ _ _ _) ?_))
              have k4 := blk_range (blk_set HR4.out (L := cfL 0 (.slice none 0 0) 0 0 0 0) rfl)
              exact bodyPost_ret (v := .tuple #[.agg (cf 0 (.slice none 0 0) 0 0 0 0), .int .i64 4]) (results_two rfl rfl rfl (res25 k4 rfl)) rfl ⟨_, _, rfl, HNO.out _ HERR.out, blk_below (Nat.le_refl _) _ _ _ HB4.out⟩
            | some os =>
              by_cases h4 : os.length = 4
              · have hD := un_some d os w3 (HLN.out d (by simp)) (HE.out _ HB3.out) hd
                rw [h4] at hD
                have HO4 : Hid (os.length = 4) := h4
                have HRD : Hid (readC s = if os.length = 4 ∧ okC n gs os = true then some (n, gs, os) else none) := by show _ = _; rw [HRD0.out, hd]
                clear hd h4
                go_upto_region 11 with (first
                  | (go_at_call 38; refine hD.mono ?_; clear hD; rintro e w4 ⟨va4, vc4, rfl, i1, i2, i3, hb4⟩; have HR4 : Hid (w4.heap[w.heap.size]? = some (.cells (cf 0 (.slice none 0 0) 0 0 0 0) 25)) := (hb4.block _ HLT3.out).trans HR3.out; have HLT4 : Hid (w.heap.size < w4.heap.size) := Nat.lt_of_lt_of_le HLT3.out hb4.size; have HB4 : Hid (Below w.heap.size w w4) := HB3.out.trans (hb4.mono HB3.out.size); have HO : Hid (Il w4 (.slice va4 4 vc4) os) := i1; have HG : Hid (Il w4 (.slice va3 gs.length vc3) gs) := HG3.out.next hb4; clear hb4 i1 i2 i3))
                go_upto_region 13 with fail
                have rK := heap_alloc_new w4 (.cells (cf n (.slice va3 gs.length vc3) 0 0 0 0) 25)
                have hbA := (Below.refl w4.heap.size w4).alloc (Nat.le_refl _) (.cells (cf n (.slice va3 gs.length vc3) 0 0 0 0) 25)
                obtain ⟨W5, hW5⟩ : ∃ W, w4.alloc (.cells (cf n (.slice va3 gs.length vc3) 0 0 0 0) 25) = W := ⟨_, rfl⟩
                obtain ⟨K, hK⟩ : ∃ K, w4.heap.size = K := ⟨_, rfl⟩
                have HV5 : Hid (w4.alloc (.cells (cf n (.slice va3 gs.length vc3) 0 0 0 0) 25) = W5) := hW5
                have HK : Hid (w4.heap.size = K) := hK
                rw [hW5] at rK hbA
                rw [hK] at rK
                have HA : Hid (Below w4.heap.size w4 W5 ∧ W5.heap[K]? = some (.cells (cf n (.slice va3 gs.length vc3) 0 0 0 0) 25)) := ⟨hbA, rK⟩
                clear rK hbA hW5 hK
                go_upto_region 14 with fail
                rw [HV5.out, HK.out]
                clear HV5
                go_wp2_with fail
                go_loopg [69] 4 (fun gk i wr => ∃ k : Nat, k + gk = 4 ∧ i = .int .i64 k ∧ Below w4.heap.size w4 wr ∧ wr.heap[K]? = some (.cells (Value.int .i64 n :: Value.slice va3 gs.length vc3 :: zcs (mixO os k)).toArray 25))
                case atStart => exact ⟨0, by omega, rfl, HA.out.1, HA.out.2.trans (by rw [mixO_zero]; rfl)⟩
                case round =>
                  obtain ⟨k, hk, rfl, hB, hKk⟩ := hrel
                  have hKw : w4.heap.size ≤ K := Nat.le_of_eq HK.out
                  by_cases hlt : k < 4
                  · obtain ⟨x, hx⟩ : ∃ x, os[k]? = some x := ⟨_, List.getElem?_eq_getElem (by have := HO4.out; omega)⟩
                    obtain ⟨b4, o4, hva4, q4⟩ := Il_at4 (HO.out.next hB) HO4.out hx
                    subst hva4
                    obtain ⟨old, hold⟩ := mixO_at HO4.out hlt
                    have z1 := cellB hKk (2 + k) (.int .i64 old) (by rw [List.getElem?_toArray, show 2 + k = k + 1 + 1 by omega]; exact zcs_at _ _ _ hold)
                    have z2 := frozenB hKk (2 + k)
                    have HKS : Hid ((wr.setCell ⟨K, 2 + k, none⟩ (.int .i64 x)).heap[K]? = some (.cells (Value.int .i64 n :: Value.slice va3 gs.length vc3 :: zcs (mixO os (k + 1))).toArray 25)) := by
                      show _ = _
                      rw [setB hKk (2 + k) (.int .i64 x), ← mixO_set HO4.out hlt hx]
                      exact mix_cells _ _ _ _ _
                    have HBS : Hid (Below w4.heap.size w4 (wr.setCell ⟨K, 2 + k, none⟩ (.int .i64 x))) := hB.setCell hKw _
                    have k0 : (0 : Int) ≤ (k : Int) := by omega
                    have k1 : (k : Int) < 4 := by omega
                    clear hx hold hKk hB hKw
                    go_wp2_with fail
                    go_roundg (4 - (k + 1))
                    case measure => omega
                    case rel => exact ⟨k + 1, by omega, by go_num, HBS.out, HKS.out⟩
                  · have hk4 : k = 4 := by omega
                    subst hk4
                    obtain ⟨p, q, r, t, hos⟩ := list4i HO4.out
                    rw [mixO_four HO4.out, hos] at hKk
                    have HOS : Hid (os = [p, q, r, t]) := hos
                    have hKl : K < wr.heap.size := (Array.getElem?_eq_some_iff.1 hKk).1
                    have hKne : w.heap.size ≠ K := by have := HLT4.out; have := HK.out; omega
                    have KR : Hid (wr.rangeAt K 0 (cfL n (.slice va3 gs.length vc3) p q r t)) := blk_range (L := cfL n (.slice va3 gs.length vc3) p q r t) hKk
                    have HRw : Hid (wr.heap[w.heap.size]? = some (.cells (cf 0 (.slice none 0 0) 0 0 0 0) 25)) := (hB.block _ HLT4.out).trans HR4.out
                    have HBw : Hid (Below w.heap.size w wr) := HB4.out.trans (hB.mono HB4.out.size)
                    have HLTw : Hid (w.heap.size < wr.heap.size) := Nat.lt_of_lt_of_le HLT4.out hB.size
                    have hgw := HG.out.next hB
                    have HGW : Hid (∀ W, Below wr.heap.size wr W → Il W (.slice va3 gs.length vc3) gs) := fun W hW => hgw.next hW
                    have HGN : Hid (∀ k, (Value.slice va3 gs.length vc3).ownBlock = some k → w.heap.size < k) := HGO.out
                    have hC := Check_wide n (.slice va3 gs.length vc3) gs p q r t wr hgw HGL.out
                    have HKK : Hid (∀ W, Below wr.heap.size wr W → W.rangeAt K 0 (cfL n (.slice va3 gs.length vc3) p q r t)) := fun W hW => blk_range (L := cfL n (.slice va3 gs.length vc3) p q r t) ((hW.block K hKl).trans hKk)
                    clear hB hKk hos hgw hKl
                    by_cases hok : okC n gs [p, q, r, t] = true
                    · rw [if_pos hok] at hC
                      have HYES : Hid (readC s = some (n, gs, [p, q, r, t])) := by
                        show _ = _
                        rw [HRD.out, HOS.out, if_pos ⟨rfl, hok⟩]
                      clear hok
                      go_upto_region 20 with (first
                        | (refine wpList_load_mid rfl 25 _ rfl K 0 rfl (cfL n (.slice va3 gs.length vc3) p q r t) _ KR.out Tryz.underlying25 rfl Tryz.size25 ?_)
                        | (go_at_call 13; refine hC.mono ?_; rintro e w6 ⟨rfl, hb6⟩; have HR6 : Hid (w6.heap[w.heap.size]? = some (.cells (cf 0 (.slice none 0 0) 0 0 0 0) 25)) := (hb6.block _ HLTw.out).trans HRw.out; have HB6 : Hid (Below w.heap.size w w6) := HBw.out.trans (hb6.mono HBw.out.size); have HK6 : Hid (w6.rangeAt K 0 (cfL n (.slice va3 gs.length vc3) p q r t)) := HKK.out _ hb6; have HG6 : Hid (Il w6 (.slice va3 gs.length vc3) gs) := HGW.out _ hb6; clear hb6))
                      go_wp2_with (first
                        | (refine wpList_load_mid rfl 25 _ rfl K 0 rfl (cfL n (.slice va3 gs.length vc3) p q r t) _ HK6.out Tryz.underlying25 rfl Tryz.size25 ?_)
                        | (refine wpList_store_mid rfl 25 _ _ rfl w.heap.size 0 (cf n (.slice va3 gs.length vc3) p q r t) rfl rfl (blk_there HR6.out 0 6 (Nat.le_refl _)) Tryz.size25 (cf_ones _ _ _ _ _ _ _ _) ?_))
                      have k4 := blk_range (blk_set HR6.out (L := cfL n (.slice va3 gs.length vc3) p q r t) rfl)
                      refine bodyPost_ret (v := .tuple #[.agg (cf n (.slice va3 gs.length vc3) p q r t), .int .i64 0]) (results_two rfl rfl rfl (res25 k4 rfl)) rfl ⟨_, _, rfl, ?_, blk_below (Nat.le_refl _) _ _ _ HB6.out⟩
                      refine HYS.out _ _ _ HYES.out ⟨rfl, _, _, _, _, _, rfl, rfl, Il_ne HG6.out (fun k hk => by have := HGN.out k hk; omega), fun k hk => Nat.le_of_lt (HGN.out k hk)⟩
                    · rw [if_neg hok] at hC
                      have HERR : Hid (readC s = none) := by
                        show _ = _
                        rw [HRD.out, HOS.out, if_neg (fun h => hok h.2)]
                      clear hok
                      go_upto_region 20 with (first
                        | (refine wpList_load_mid rfl 25 _ rfl K 0 rfl (cfL n (.slice va3 gs.length vc3) p q r t) _ KR.out Tryz.underlying25 rfl Tryz.size25 ?_)
                        | (go_at_call 13; refine hC.mono ?_; rintro e w6 ⟨rfl, hb6⟩; have HR6 : Hid (w6.heap[w.heap.size]? = some (.cells (cf 0 (.slice none 0 0) 0 0 0 0) 25)) := (hb6.block _ HLTw.out).trans HRw.out; have HB6 : Hid (Below w.heap.size w w6) := HBw.out.trans (hb6.mono HBw.out.size); clear hb6))
                      go_wp2_with (first
                        | (refine wpList_store_mid rfl 25 _ _ rfl w.heap.size 0 (cf 0 (.slice none 0 0) 0 0 0 0) rfl rfl (blk_there HR6.out 0 6 (Nat.le_refl _)) Tryz.size25 (cf_ones _ _ _ _ _ _ _ _) ?_))
                      have k4 := blk_range (blk_set HR6.out (L := cfL 0 (.slice none 0 0) 0 0 0 0) rfl)
                      exact bodyPost_ret (v := .tuple #[.agg (cf 0 (.slice none 0 0) 0 0 0 0), .int .i64 4]) (results_two rfl rfl rfl (res25 k4 rfl)) rfl ⟨_, _, rfl, HNO.out _ HERR.out, blk_below (Nat.le_refl _) _ _ _ HB6.out⟩
              · have hD := un_some d os w3 (HLN.out d (by simp)) (HE.out _ HB3.out) hd
                have HERR0 : Hid (readC s = none) := by show _ = _; rw [HRD0.out, hd]; show (if os.length = 4 ∧ okC n gs os = true then _ else _) = _; rw [if_neg (fun h => h4 h.1)]
                have hq4 : ((os.length : Int) != 4) = true := by rw [bne_iff_ne]; omega
                clear hd
                go_upto_region 11 with (first
                  | (go_at_call 38; refine hD.mono ?_; clear hD; rintro e w4 ⟨va4, vc4, rfl, i1, i2, i3, hb4⟩; have HR4 : Hid (w4.heap[w.heap.size]? = some (.cells (cf 0 (.slice none 0 0) 0 0 0 0) 25)) := (hb4.block _ HLT3.out).trans HR3.out; have HLT4 : Hid (w.heap.size < w4.heap.size) := Nat.lt_of_lt_of_le HLT3.out hb4.size; have HB4 : Hid (Below w.heap.size w w4) := HB3.out.trans (hb4.mono HB3.out.size); clear hb4 i1 i2 i3))
                have HERR : Hid (readC s = none) := HERR0.out
                go_wp2_with (first
                  | (refine wpList_store_mid rfl 25 _ _ rfl w.heap.size 0 (cf 0 (.slice none 0 0) 0 0 0 0) rfl rfl (blk_there HR4.out 0 6 (Nat.le_refl _)) Tryz.size25 (cf_ones _ _ _ _ _ _ _ _) ?_))
                have k4 := blk_range (blk_set HR4.out (L := cfL 0 (.slice none 0 0) 0 0 0 0) rfl)
                exact bodyPost_ret (v := .tuple #[.agg (cf 0 (.slice none 0 0) 0 0 0 0), .int .i64 4]) (results_two rfl rfl rfl (res25 k4 rfl)) rfl ⟨_, _, rfl, HNO.out _ HERR.out, blk_below (Nat.le_refl _) _ _ _ HB4.out⟩
        · rw [eb] at hN
          have HERR0 : Hid (readC s = none) := by show _ = _; rw [HRA.out]; unfold readB; rw [if_neg (by rw [eb]; decide)]
          rw [hn] at hN
          clear eb hn
          go_upto_region 5 with (first
            | (go_at_call 37; refine hN.mono ?_; clear hN; rintro e w2 ⟨rfl, hb2⟩; have HR2 : Hid (w2.heap[w.heap.size]? = some (.cells (cf 0 (.slice none 0 0) 0 0 0 0) 25)) := (hb2.block _ HLT1.out).trans HR1.out; have HLT2 : Hid (w.heap.size < w2.heap.size) := Nat.lt_of_lt_of_le HLT1.out hb2.size; have HB2 : Hid (Below w.heap.size w w2) := HB1.out.trans (hb2.mono HB1.out.size); clear hb2))
          have HERR : Hid (readC s = none) := HERR0.out
          go_wp2_with (first
            | (refine wpList_store_mid rfl 25 _ _ rfl w.heap.size 0 (cf 0 (.slice none 0 0) 0 0 0 0) rfl rfl (blk_there HR2.out 0 6 (Nat.le_refl _)) Tryz.size25 (cf_ones _ _ _ _ _ _ _ _) ?_))
          have k4 := blk_range (blk_set HR2.out (L := cfL 0 (.slice none 0 0) 0 0 0 0) rfl)
          exact bodyPost_ret (v := .tuple #[.agg (cf 0 (.slice none 0 0) 0 0 0 0), .int .i64 4]) (results_two rfl rfl rfl (res25 k4 rfl)) rfl ⟨_, _, rfl, HNO.out _ HERR.out, blk_below (Nat.le_refl _) _ _ _ HB2.out⟩
      · have hqa : ((bs a).toList == X.toList) = false := by rw [beq_eq_false_iff_ne, ← hX, bs_toListK, bs_toListK]; exact ha
        have HERR : Hid (readC s = none) := by show _ = _; unfold readC; rw [HL.out]; show (if a = cfgW then _ else _) = _; rw [if_neg ha]
        clear ha
        go_wp2_with (first
          | (refine wpList_store_mid rfl 25 _ _ rfl w.heap.size 0 (cf 0 (.slice none 0 0) 0 0 0 0) rfl rfl (blk_there HR1.out 0 6 (Nat.le_refl _)) Tryz.size25 (cf_ones _ _ _ _ _ _ _ _) ?_))
        have k4 := blk_range (blk_set HR1.out (L := cfL 0 (.slice none 0 0) 0 0 0 0) rfl)
        exact bodyPost_ret (v := .tuple #[.agg (cf 0 (.slice none 0 0) 0 0 0 0), .int .i64 4]) (results_two rfl rfl rfl (res25 k4 rfl)) rfl ⟨_, _, rfl, HNO.out _ HERR.out, blk_below (Nat.le_refl _) _ _ _ HB1.out⟩
    · have hql : ((L.length : Int) != 4) = true := by rw [bne_iff_ne]; omega
      have HERR : Hid (readC s = none) := readC_len HL.out h4
      clear h4
      go_wp2_with (first
        | (refine wpList_store_mid rfl 25 _ _ rfl w.heap.size 0 (cf 0 (.slice none 0 0) 0 0 0 0) rfl rfl (blk_there HR1.out 0 6 (Nat.le_refl _)) Tryz.size25 (cf_ones _ _ _ _ _ _ _ _) ?_))
      have k4 := blk_range (blk_set HR1.out (L := cfL 0 (.slice none 0 0) 0 0 0 0) rfl)
      exact bodyPost_ret (v := .tuple #[.agg (cf 0 (.slice none 0 0) 0 0 0 0), .int .i64 4]) (results_two rfl rfl rfl (res25 k4 rfl)) rfl ⟨_, _, rfl, HNO.out _ HERR.out, blk_below (Nat.le_refl _) _ _ _ HB1.out⟩
  · have h4 := HBAD.out rfl
    have HERR : Hid (readC s = none) := readC_len HL.out h4
    clear h4
    go_wp2_with (first
      | (refine wpList_store_mid rfl 25 _ _ rfl w.heap.size 0 (cf 0 (.slice none 0 0) 0 0 0 0) rfl rfl (blk_there HR1.out 0 6 (Nat.le_refl _)) Tryz.size25 (cf_ones _ _ _ _ _ _ _ _) ?_))
    have k4 := blk_range (blk_set HR1.out (L := cfL 0 (.slice none 0 0) 0 0 0 0) rfl)
    exact bodyPost_ret (v := .tuple #[.agg (cf 0 (.slice none 0 0) 0 0 0 0), .int .i64 4]) (results_two rfl rfl rfl (res25 k4 rfl)) rfl ⟨_, _, rfl, HNO.out _ HERR.out, blk_below (Nat.le_refl _) _ _ _ HB1.out⟩
end Go.Proofs.YtfjbhljnledphaaGreatDoor
