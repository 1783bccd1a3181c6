/- Split, walked. -/
import Derived.Test.YtihilkdokfdoeaaDoorPlG
namespace Go.Proofs.YtihilkdokfdoeaaDoor
open Go.RowKit Go.Maps
attribute [local go_sem ↓] Go.wp_at_zero Go.wp_at_succ

set_option maxRecDepth 20000 in
theorem clo_true (q P : Nat) (tm pcl pno pE : Int) (pT : List UInt8) (w : World) (j : Nat) (hP : w.cell? ⟨P, 0, none⟩ = some (.map (some q))) (hlt : P < w.heap.size) (hlk : ∀ W, Below w.heap.size w W → (Instr.lookup 72 (.map (some q)) (.agg #[.int .i64 pcl, .int .i64 pno]) true).run Tryd.prog W = .ok (.tuple #[.int .i64 (j : Nat), .bool true]) W) :
    Calls Tryd.prog 26 #[.agg #[.int .i64 tm, .int .i64 pcl, .int .i64 pno, .int .i64 pE, .string (bs pT)], .pointer (some ⟨P, 0, none⟩)] w fun e W' => e = .returned (.int .i64 (j : Nat)) ∧ Below w.heap.size w W' := by
  have hb := (Below.refl w.heap.size w).alloc (Nat.le_refl _) (.cells #[.int .i64 tm, .int .i64 pcl, .int .i64 pno, .int .i64 pE, .string (bs pT)] 56)
  have z := heap_alloc_new w (.cells #[.int .i64 tm, .int .i64 pcl, .int .i64 pno, .int .i64 pE, .string (bs pT)] 56)
  obtain ⟨W2, hW2⟩ : ∃ W, w.alloc (.cells #[.int .i64 tm, .int .i64 pcl, .int .i64 pno, .int .i64 pE, .string (bs pT)] 56) = W := ⟨_, rfl⟩
  obtain ⟨N, hN⟩ : ∃ N, w.heap.size = N := ⟨_, rfl⟩
  rw [hW2] at hb z
  rw [hN] at hb z hlk hlt
  have hl2 := hlk W2 hb
  have hP2 : W2.cell? ⟨P, 0, none⟩ = some (.map (some q)) := by
    unfold World.cell? at hP ⊢
    rw [hb.block P hlt]
    exact hP
  have g0 := cellB z 0 _ rfl
  have g1 := cellB z 1 _ rfl
  have g2 := cellB z 2 _ rfl
  have HW : Hid (w.alloc (.cells #[.int .i64 tm, .int .i64 pcl, .int .i64 pno, .int .i64 pE, .string (bs pT)] 56) = W2) := hW2
  have HN : Hid (w.heap.size = N) := hN
  have HB : Hid (Below N w W2) := hb
  clear hb z hlk hP hlt hW2 hN
  go_enter Tryd.func26, Tryd.ntmps26
  go_upto_region 1 with fail
  rw [HW.out]
  try rw [HN.out]
  go_wp2
  go_ret
  exact ⟨rfl, by rw [HN.out]; exact HB.out⟩
set_option maxRecDepth 20000 in
theorem clo_false (q P : Nat) (tm pcl pno pE : Int) (pT : List UInt8) (w : World) (hP : w.cell? ⟨P, 0, none⟩ = some (.map (some q))) (hlt : P < w.heap.size) (hlk : ∀ W, Below w.heap.size w W → (Instr.lookup 72 (.map (some q)) (.agg #[.int .i64 pcl, .int .i64 pno]) true).run Tryd.prog W = .ok (.tuple #[.int .i64 0, .bool false]) W) :
    Calls Tryd.prog 26 #[.agg #[.int .i64 tm, .int .i64 pcl, .int .i64 pno, .int .i64 pE, .string (bs pT)], .pointer (some ⟨P, 0, none⟩)] w fun e W' => e = .returned (.int .i64 0) ∧ Below w.heap.size w W' := by
  have hb := (Below.refl w.heap.size w).alloc (Nat.le_refl _) (.cells #[.int .i64 tm, .int .i64 pcl, .int .i64 pno, .int .i64 pE, .string (bs pT)] 56)
  have z := heap_alloc_new w (.cells #[.int .i64 tm, .int .i64 pcl, .int .i64 pno, .int .i64 pE, .string (bs pT)] 56)
  obtain ⟨W2, hW2⟩ : ∃ W, w.alloc (.cells #[.int .i64 tm, .int .i64 pcl, .int .i64 pno, .int .i64 pE, .string (bs pT)] 56) = W := ⟨_, rfl⟩
  obtain ⟨N, hN⟩ : ∃ N, w.heap.size = N := ⟨_, rfl⟩
  rw [hW2] at hb z
  rw [hN] at hb z hlk hlt
  have hl2 := hlk W2 hb
  have hP2 : W2.cell? ⟨P, 0, none⟩ = some (.map (some q)) := by
    unfold World.cell? at hP ⊢
    rw [hb.block P hlt]
    exact hP
  have g0 := cellB z 0 _ rfl
  have g1 := cellB z 1 _ rfl
  have g2 := cellB z 2 _ rfl
  have HW : Hid (w.alloc (.cells #[.int .i64 tm, .int .i64 pcl, .int .i64 pno, .int .i64 pE, .string (bs pT)] 56) = W2) := hW2
  have HN : Hid (w.heap.size = N) := hN
  have HB : Hid (Below N w W2) := hb
  clear hb z hlk hP hlt hW2 hN
  go_enter Tryd.func26, Tryd.ntmps26
  go_upto_region 1 with fail
  rw [HW.out]
  try rw [HN.out]
  go_wp2
  go_ret
  exact ⟨rfl, by rw [HN.out]; exact HB.out⟩
/-- The shard of a point. -/
def shP (calls : List Cl) (p : Pt) : Nat := (shF calls p.cl p.no calls.length).getD 0
theorem shF_lt {calls : List Cl} {c m : Int} : ∀ {n p : Nat}, shF calls c m n = some p → p < 4
  | 0, _, h => by cases h
  | n + 1, p, h => by
    rw [shF] at h
    cases e : shF calls c m n with
    | some q => rw [e] at h; injection h with h; subst h; exact shF_lt e
    | none =>
      rw [e] at h
      cases e2 : calls[n]? with
      | none => rw [e2] at h; cases h
      | some x =>
        rw [e2] at h
        by_cases e3 : ck x = (c, m)
        · simp [e3] at h; subst h; exact plcK_lt _
        · simp [e3] at h
theorem shP_lt (calls : List Cl) (p : Pt) : shP calls p < 4 := by
  unfold shP
  cases e : shF calls p.cl p.no calls.length with
  | none => exact by decide
  | some q => exact shF_lt e
theorem clo_any {calls : List Cl} {Q : List (Int × Int × Int)} {q P : Nat} (p : Pt) (w : World) (hP : w.cell? ⟨P, 0, none⟩ = some (.map (some q))) (hM : MapAt w 81 (some q) (Q.map sent)) (hQ : QS calls calls.length Q) (hw : wfK (pk2 p)) :
    Calls Tryd.prog 26 #[ptV p, .pointer (some ⟨P, 0, none⟩)] w fun e W' => e = .returned (.int .i64 (shP calls p : Nat)) ∧ Below w.heap.size w W' := by
  have hlt : P < w.heap.size := by
    rcases Nat.lt_or_ge P w.heap.size with h | h
    · exact h
    · unfold World.cell? at hP
      simp [Array.getElem?_eq_none h] at hP
  have hl : ∀ W, Below w.heap.size w W → (Instr.lookup 72 (.map (some q)) (.agg #[.int .i64 p.cl, .int .i64 p.no]) true).run Tryd.prog W = .ok (.tuple #[.int .i64 (((shF calls p.cl p.no calls.length).getD 0 : Nat) : Int), .bool (shF calls p.cl p.no calls.length).isSome]) W := fun W hW => look_s (hM.keep fun b e => hW.block b (hM.lt e)) hQ hw
  unfold shP
  cases e : shF calls p.cl p.no calls.length with
  | none =>
    rw [e] at hl
    exact clo_false q P p.tm p.cl p.no p.an.2 p.an.1 w hP hlt hl
  | some j =>
    rw [e] at hl
    exact clo_true q P p.tm p.cl p.no p.an.2 p.an.1 w j hP hlt hl
def partC (calls : List Cl) (i : Nat) : List Cl := calls.filter fun c => plcK c.op.k == i
def partP (calls : List Cl) (pts : List Pt) (i : Nat) : List Pt := pts.filter fun p => shP calls p == i
/-- The parts as they lie. -/
structure Prt (cl : Nat → List Cl) (pl : Nat → List Pt) (B : Nat) (U V : Nat → Value) (W : World) : Prop where
  box : W.heap[B]? = some (.cells #[U 0, V 0, U 1, V 1, U 2, V 2, U 3, V 3] 37)
  cs : ∀ i, i < 4 → SlF ccs 10 W (U i) (cl i)
  ps : ∀ i, i < 4 → SlF pks 5 W (V i) (pl i)
def gN (U : Nat → Value) (n i : Nat) : Value := if i < n then U i else .slice none 0 0
theorem gN8 (U V : Nat → Value) {n : Nat} (hn : n < 4) : ((#[gN U n 0, gN V n 0, gN U n 1, gN V n 1, gN U n 2, gN V n 2, gN U n 3, gN V n 3] : Array Value).setIfInBounds (n * 2) (U n)).setIfInBounds (n * 2 + 1) (V n) = #[gN U (n + 1) 0, gN V (n + 1) 0, gN U (n + 1) 1, gN V (n + 1) 1, gN U (n + 1) 2, gN V (n + 1) 2, gN U (n + 1) 3, gN V (n + 1) 3] := by
  rcases n with _ | _ | _ | _ | n
  · rfl
  · rfl
  · rfl
  · rfl
  · omega
theorem gN4 (U V : Nat → Value) : (#[gN U 4 0, gN V 4 0, gN U 4 1, gN V 4 1, gN U 4 2, gN V 4 2, gN U 4 3, gN V 4 3] : Array Value) = #[U 0, V 0, U 1, V 1, U 2, V 2, U 3, V 3] := rfl
theorem made8 : (madeCells (Value.agg #[.slice none 0 0, .slice none 0 0]).cells (4 * 2)).toList = (#[.slice none 0 0, .slice none 0 0, .slice none 0 0, .slice none 0 0, .slice none 0 0, .slice none 0 0, .slice none 0 0, .slice none 0 0] : Array Value).toList := by kernel_rfl
theorem Tryd.info37 : (Tryd.prog.info? 37).map (fun i => (i.zero, i.size, i.bytes)) = some (some (.agg #[.slice none 0 0, .slice none 0 0]), 2, 48) := by kernel_rfl
set_option maxRecDepth 20000 in
set_option maxHeartbeats 3000000 in
theorem Split_any (calls : List Cl) (pts : List Pt) (vc vp : Value) (w : World) (hc : SlF ccs 10 w vc calls) (hp : SlF pks 5 w vp pts) (lc : calls.length ≤ 2000) (lp : pts.length ≤ 2000) (wc : ∀ c ∈ calls, wfK (ck c)) (wp : ∀ p ∈ pts, wfK (pk2 p)) (hk : ∀ c ∈ calls, c.op.k.length ≤ 140737488351232) (he : EnvK w) :
    Calls Tryd.prog 9 #[vc, vp] w fun e W' => ∃ B U V, e = .returned (.tuple #[.slice (some ⟨B, 0, none⟩) 4 4, .int .i64 0]) ∧ Prt (partC calls) (partP calls pts) B U V W' ∧ Below w.heap.size w W' := by
  obtain ⟨va, vcap, rfl⟩ := hc.slice
  obtain ⟨pa, pcap, rfl⟩ := hp.slice
  have l1 : ¬ ((2000 : Int) < (calls.length : Int)) := by omega
  have l2 : ¬ ((2000 : Int) < (pts.length : Int)) := by omega
  obtain ⟨i0, hi, hz0, hz1, hz2⟩ := info_parts Tryd.info37
  have hSh := shardsOf_any calls _ w hc (by omega) wc hk he
  obtain ⟨N, hN⟩ : ∃ N, w.heap.size = N := ⟨_, rfl⟩
  rw [hN] at hSh
  have HN : Hid (w.heap.size = N) := hN
  have HV : Hid (∀ W, Below N w W → SlF ccs 10 W (.slice va calls.length vcap) calls) := fun W hW => hc.on hW (by omega)
  have HP : Hid (∀ W, Below N w W → SlF pks 5 W (.slice pa pts.length pcap) pts) := fun W hW => hp.on hW (by omega)
  have HE : Hid (∀ W, Below N w W → EnvK W) := fun W hW => he.below hW (by have := he.size; omega)
  have HK : Hid ((∀ c ∈ calls, wfK (ck c)) ∧ (∀ p ∈ pts, wfK (pk2 p)) ∧ (∀ c ∈ calls, c.op.k.length ≤ 140737488351232) ∧ calls.length ≤ 2000 ∧ pts.length ≤ 2000) := ⟨wc, wp, hk, lc, lp⟩
  have HI : Hid (Tryd.prog.info? 37 = some i0 ∧ i0.zero = some (.agg #[.slice none 0 0, .slice none 0 0]) ∧ i0.size = 2 ∧ i0.bytes = 48) := ⟨hi, hz0, hz1, hz2⟩
  clear hc hp hN wc wp hk he lc lp hi hz0 hz1 hz2
  go_enter Tryd.func9, Tryd.ntmps9
  go_upto_region 4 with (go_at_call 22; refine hSh.mono ?_; clear hSh; rintro e w1 ⟨q, Q, rfl, hM, hQ, hNq, hB⟩)
  -- the map in a cell of its own
  obtain ⟨P, hP⟩ : ∃ P, w1.heap.size = P := ⟨_, rfl⟩
  have rP := heap_alloc_new w1 (.cells #[.map (some q)] 72)
  have hbP := (Below.refl w1.heap.size w1).alloc (Nat.le_refl _) (.cells #[.map (some q)] 72)
  obtain ⟨W2, hW2⟩ : ∃ W, w1.alloc (.cells #[.map (some q)] 72) = W := ⟨_, rfl⟩
  have hNP : N ≤ P := by have := hB.size; have := HN.out; omega
  have hqP : q < P := by rw [← hP]; exact hM.lt rfl
  rw [hW2] at rP hbP ⊢
  rw [hP] at rP hbP ⊢
  have hz2 : W2.heap.size = P + 1 := by rw [← hW2, World.size_alloc, hP]
  have hB2 : Below N w W2 := hB.trans (hbP.mono hNP)
  have hM2 : MapAt W2 81 (some q) (Q.map sent) := hM.keep fun b e => by injection e with e; subst e; exact hbP.block q hqP
  have HM2 : Hid (W2.heap[P]? = some (.cells #[.map (some q)] 72) ∧ MapAt W2 81 (some q) (Q.map sent) ∧ QS calls calls.length Q ∧ Below N w W2 ∧ N ≤ P ∧ q < P ∧ W2.heap.size = P + 1) := ⟨rP, hM2, hQ, hB2, hNP, hqP, hz2⟩
  have hC1 : Calls Tryd.prog 23 #[.slice va calls.length vcap, .func (.func 24) #[] #[]] W2 fun e W' => ∃ U : Nat → Value, e = .returned (.agg #[U 0, U 1, U 2, U 3]) ∧ (∀ i, i < 4 → SlF ccs 10 W' (U i) (partC calls i)) ∧ Below (P + 1) W2 W' := by
    have h := apartC_any calls (fun c => plcK c.op.k) (fun c => plcK_lt _) _ _ rfl W2 (HV.out _ hB2) (by have := HK.out.2.2.2.1; omega) (fun W hW x hx => shardOf_any _ _ _ _ _ _ _ _ _ _ W (HK.out.2.2.1 x hx) ((HE.out _ hB2).next hW))
    rw [hz2] at h
    exact h
  clear hM hQ hNq hB rP hbP hW2 hNP hqP hP hz2 hB2 hM2
  go_upto_region 5 with (go_at_call 23; refine hC1.mono ?_; clear hC1; rintro e w3 ⟨U, rfl, hU, hB3⟩; obtain ⟨aU0, cU0, eU0⟩ := (hU 0 (by decide)).slice; obtain ⟨aU1, cU1, eU1⟩ := (hU 1 (by decide)).slice; obtain ⟨aU2, cU2, eU2⟩ := (hU 2 (by decide)).slice; obtain ⟨aU3, cU3, eU3⟩ := (hU 3 (by decide)).slice; obtain ⟨nU0, mU0⟩ : ∃ n, (partC calls 0).length = n := ⟨_, rfl⟩; rw [mU0] at eU0; clear mU0; obtain ⟨nU1, mU1⟩ : ∃ n, (partC calls 1).length = n := ⟨_, rfl⟩; rw [mU1] at eU1; clear mU1; obtain ⟨nU2, mU2⟩ : ∃ n, (partC calls 2).length = n := ⟨_, rfl⟩; rw [mU2] at eU2; clear mU2; obtain ⟨nU3, mU3⟩ : ∃ n, (partC calls 3).length = n := ⟨_, rfl⟩; rw [mU3] at eU3; clear mU3; rw [eU0, eU1, eU2, eU3])
  rw [← eU0, ← eU1, ← eU2, ← eU3]
  clear eU0 eU1 eU2 eU3
  obtain ⟨C, hCs⟩ : ∃ C, w3.heap.size = C := ⟨_, rfl⟩
  have rC := heap_alloc_new w3 (.cells #[U 0, U 1, U 2, U 3] 74)
  have hbC := (Below.refl w3.heap.size w3).alloc (Nat.le_refl _) (.cells #[U 0, U 1, U 2, U 3] 74)
  obtain ⟨W4, hW4⟩ : ∃ W, w3.alloc (.cells #[U 0, U 1, U 2, U 3] 74) = W := ⟨_, rfl⟩
  have hPC : P + 1 ≤ C := by have := hB3.size; have := HM2.out.2.2.2.2.2.2; omega
  rw [hW4] at rC hbC ⊢
  have hU4 : ∀ i, i < 4 → SlF ccs 10 W4 (U i) (partC calls i) := fun i hi => (hU i hi).on hbC (Nat.le_refl _)
  rw [hCs] at rC hbC ⊢
  have hz4 : W4.heap.size = C + 1 := by rw [← hW4, World.size_alloc, hCs]
  have hb4 : Below (P + 1) W2 W4 := hB3.trans (hbC.mono hPC)
  have HM4 : Hid (W4.heap[C]? = some (.cells #[U 0, U 1, U 2, U 3] 74) ∧ (∀ i, i < 4 → SlF ccs 10 W4 (U i) (partC calls i)) ∧ Below (P + 1) W2 W4 ∧ P + 1 ≤ C ∧ W4.heap.size = C + 1) := ⟨rC, hU4, hb4, hPC, hz4⟩
  have hC2 : Calls Tryd.prog 25 #[.slice pa pts.length pcap, .func (.func 26) #[] #[.pointer (some ⟨P, 0, none⟩)]] W4 fun e W' => ∃ V : Nat → Value, e = .returned (.agg #[V 0, V 1, V 2, V 3]) ∧ (∀ i, i < 4 → SlF pks 5 W' (V i) (partP calls pts i)) ∧ Below (C + 1) W4 W' := by
    have hw4 : Below N w W4 := HM2.out.2.2.2.1.trans (hb4.mono (by have := HM2.out.2.2.2.2.1; omega))
    have h := apartP_any pts (shP calls) (shP_lt calls) _ P _ rfl W4 (HP.out _ hw4) (by have := HK.out.2.2.2.2; omega) (fun W hW x hx => by
      have hb : Below (P + 1) W2 W := hb4.trans (hW.mono (by omega))
      exact clo_any x W (cellB ((hb.block P (by omega)).trans HM2.out.1) 0 _ rfl) (HM2.out.2.1.keep fun b e => by injection e with e; subst e; exact hb.block q (by have := HM2.out.2.2.2.2.2.1; omega)) HM2.out.2.2.1 (HK.out.2.1 x hx))
    rw [hz4] at h
    exact h
  clear hU hB3 rC hbC hW4 hU4 hPC hb4 hz4 hCs
  go_upto_region 6 with (go_at_call 25; refine hC2.mono ?_; clear hC2; rintro e w5 ⟨V, rfl, hV, hB5⟩; obtain ⟨aV0, cV0, eV0⟩ := (hV 0 (by decide)).slice; obtain ⟨aV1, cV1, eV1⟩ := (hV 1 (by decide)).slice; obtain ⟨aV2, cV2, eV2⟩ := (hV 2 (by decide)).slice; obtain ⟨aV3, cV3, eV3⟩ := (hV 3 (by decide)).slice; obtain ⟨nV0, mV0⟩ : ∃ n, (partP calls pts 0).length = n := ⟨_, rfl⟩; rw [mV0] at eV0; clear mV0; obtain ⟨nV1, mV1⟩ : ∃ n, (partP calls pts 1).length = n := ⟨_, rfl⟩; rw [mV1] at eV1; clear mV1; obtain ⟨nV2, mV2⟩ : ∃ n, (partP calls pts 2).length = n := ⟨_, rfl⟩; rw [mV2] at eV2; clear mV2; obtain ⟨nV3, mV3⟩ : ∃ n, (partP calls pts 3).length = n := ⟨_, rfl⟩; rw [mV3] at eV3; clear mV3; rw [eV0, eV1, eV2, eV3])
  rw [← eV0, ← eV1, ← eV2, ← eV3]
  clear eV0 eV1 eV2 eV3
  obtain ⟨D, hD⟩ : ∃ D, w5.heap.size = D := ⟨_, rfl⟩
  have rD := heap_alloc_new w5 (.cells #[V 0, V 1, V 2, V 3] 77)
  have hbD := (Below.refl w5.heap.size w5).alloc (Nat.le_refl _) (.cells #[V 0, V 1, V 2, V 3] 77)
  obtain ⟨W6, hW6⟩ : ∃ W, w5.alloc (.cells #[V 0, V 1, V 2, V 3] 77) = W := ⟨_, rfl⟩
  have hCD : C + 1 ≤ D := by have := hB5.size; have := HM4.out.2.2.2.2; omega
  rw [hW6] at rD hbD ⊢
  have hV6 : ∀ i, i < 4 → SlF pks 5 W6 (V i) (partP calls pts i) := fun i hi => (hV i hi).on hbD (Nat.le_refl _)
  rw [hD] at rD hbD ⊢
  have hz6 : W6.heap.size = D + 1 := by rw [← hW6, World.size_alloc, hD]
  have hb6 : Below (C + 1) W4 W6 := hB5.trans (hbD.mono hCD)
  have HM6 : Hid (W6.heap[C]? = some (.cells #[U 0, U 1, U 2, U 3] 74) ∧ W6.heap[D]? = some (.cells #[V 0, V 1, V 2, V 3] 77) ∧ (∀ i, i < 4 → SlF ccs 10 W6 (U i) (partC calls i)) ∧ (∀ i, i < 4 → SlF pks 5 W6 (V i) (partP calls pts i)) ∧ Below N w W6 ∧ N ≤ D ∧ C < D ∧ W6.heap.size = D + 1) :=
    ⟨(hb6.block C (by omega)).trans HM4.out.1, rD, fun i hi => (HM4.out.2.1 i hi).on hb6 (by have := HM4.out.2.2.2.2; omega), hV6, HM2.out.2.2.2.1.trans ((HM4.out.2.2.1.trans (hb6.mono (by have := HM4.out.2.2.2.1; omega))).mono (by have := HM2.out.2.2.2.2.1; omega)), by have := HM2.out.2.2.2.2.1; have := HM4.out.2.2.2.1; omega, by omega, hz6⟩
  clear hV hB5 rD hbD hW6 hCD hV6 hb6 hz6 hD
  go_upto_region 7 with (first
    | (at_make; refine wpList_make_full _ rfl _ _ 26 rfl W6.heap.size 37 i0 (.agg #[.slice none 0 0, .slice none 0 0]) 2 Tryd.underlying26 HI.out.1 HI.out.2.1 HI.out.2.2.1 .i64 .i64 _ _ 4 rfl rfl rfl rfl (by rw [HI.out.2.2.2]; decide) (by decide) (Nat.le_refl _) ?_; intro w7 hown7 hg7))
  have hX : W6.heap.size = D + 1 := HM6.out.2.2.2.2.2.2.2
  rw [hX] at hown7
  try rw [hX]
  have hK7 : w7.heap[D + 1]? = some (.cells #[.slice none 0 0, .slice none 0 0, .slice none 0 0, .slice none 0 0, .slice none 0 0, .slice none 0 0, .slice none 0 0, .slice none 0 0] 37) := by
    rcases hown7.2 with ⟨e, _⟩ | ⟨g, cap, cur, e, _, hh, _, _, hsz, htk⟩
    · cases e
    · injection e with e1 _ e3
      injection e1 with e1
      injection e1 with e1
      subst e3
      rw [e1, hh]
      have hcl : cur = #[.slice none 0 0, .slice none 0 0, .slice none 0 0, .slice none 0 0, .slice none 0 0, .slice none 0 0, .slice none 0 0, .slice none 0 0] := by
        apply Array.toList_inj.1
        have : cur.toList.take (4 * 2) = cur.toList := List.take_of_length_le (by rw [Array.length_toList, hsz]; exact Nat.le_refl _)
        rw [← this, htk]
        exact made8
      rw [hcl]
  have hb7 : Below (D + 1) W6 w7 := by rw [← hX]; exact (Below.refl _ W6).grown hg7 (Nat.le_refl _) (fun q hq => by cases hq)
  have HM7 : Hid (w7.heap[D + 1]? = some (.cells #[gN U 0 0, gN V 0 0, gN U 0 1, gN V 0 1, gN U 0 2, gN V 0 2, gN U 0 3, gN V 0 3] 37) ∧ Below (D + 1) W6 w7) := ⟨hK7, hb7⟩
  clear hown7 hg7 hK7 hb7 hX HM2 HM4 HI HV HP HE
  go_wp2_with fail
  go_loopg [29] 4 (fun gk j wr => ∃ n : Nat, n + gk = 4 ∧ j = .int .i64 n ∧ wr.heap[D + 1]? = some (.cells #[gN U n 0, gN V n 0, gN U n 1, gN V n 1, gN U n 2, gN V n 2, gN U n 3, gN V n 3] 37) ∧ Below (D + 1) W6 wr)
  case atStart => exact ⟨0, by omega, rfl, HM7.out.1, HM7.out.2⟩
  case round =>
    obtain ⟨n, hnn, rfl, hbx, hB⟩ := hrel
    by_cases hn1 : n = 4
    · subst hn1
      have HR : Hid (wr.heap[D + 1]? = some (.cells #[U 0, V 0, U 1, V 1, U 2, V 2, U 3, V 3] 37) ∧ Below (D + 1) W6 wr) := ⟨hbx, hB⟩
      clear hbx hB HM7
      go_wp2
      have hz := HM6.out.2.2.2.2.2.2.2
      refine bodyPost_ret (v := .tuple #[.slice (some ⟨D + 1, 0, none⟩) 4 4, .int .i64 0]) (by simp [results, Tryd.f9, go_sem]) rfl ?_
      exact ⟨D + 1, U, V, rfl, ⟨HR.out.1, fun i hi => (HM6.out.2.2.1 i hi).on HR.out.2 (by omega), fun i hi => (HM6.out.2.2.2.1 i hi).on HR.out.2 (by omega)⟩, by rw [HN.out]; exact HM6.out.2.2.2.2.1.trans (HR.out.2.mono (by have := HM6.out.2.2.2.2.2.1; omega))⟩
    · have hn4 : n < 4 := by omega
      have c0 := box_at ((hB.block C (by have := HM6.out.2.2.2.2.2.2.1; omega)).trans HM6.out.1) hn4
      have c1 := box_at ((hB.block D (by omega)).trans HM6.out.2.1) hn4
      obtain ⟨an, cn, eUn⟩ := (HM6.out.2.2.1 n hn4).slice
      obtain ⟨bn, dn, eVn⟩ := (HM6.out.2.2.2.1 n hn4).slice
      obtain ⟨kn, hkn⟩ : ∃ k, (partC calls n).length = k := ⟨_, rfl⟩
      obtain ⟨ln, hln⟩ : ∃ k, (partP calls pts n).length = k := ⟨_, rfl⟩
      rw [hkn] at eUn
      rw [hln] at eVn
      rw [eUn] at c0
      rw [eVn] at c1
      clear hkn hln
      have HUV : Hid (U n = .slice an kn cn ∧ V n = .slice bn ln dn) := ⟨eUn, eVn⟩
      clear eUn eVn
      have HBX : Hid (wr.heap[D + 1]? = some (.cells #[gN U n 0, gN V n 0, gN U n 1, gN V n 1, gN U n 2, gN V n 2, gN U n 3, gN V n 3] 37) ∧ Below (D + 1) W6 wr ∧ n < 4) := ⟨hbx, hB, hn4⟩
      have d0 : (0 : Int) ≤ (n : Int) := by omega
      have d1 : (n : Int) < 4 := by omega
      clear hbx HM7 hB hn4
      go_upto_region 10 with fail
      refine region_Z 99 (fun W => W.cell? ⟨C, n, none⟩ = some (.slice an kn cn) ∧ W.cell? ⟨D, n, none⟩ = some (.slice bn ln dn)) (by kernel_rfl) ?_
      have hS0 : wr.drew.cell? ⟨C, n, none⟩ = some (.slice an kn cn) ∧ wr.drew.cell? ⟨D, n, none⟩ = some (.slice bn ln dn) := ⟨c0, c1⟩
      refine Y_take (i := 0) (v := ?_) rfl (by kernel_rfl) (by kernel_rfl) (by kernel_rfl) (by kernel_rfl) (fun _ _ _ h => h) (by rfl) hS0 ?_ ?_
      rotate_left
      · (intro w' hSw; obtain ⟨hS1, hS2⟩ := hSw; go_simp; (try with_reducible rfl))
      simp only [Act.put, List.setIfInBounds_toArray, List.getElem_toArray, List.getElem_cons_zero, List.set_cons_succ, List.set_cons_zero]
      refine Y_take (i := 1) (v := ?_) rfl (by kernel_rfl) (by kernel_rfl) (by kernel_rfl) (by kernel_rfl) (fun _ _ _ h => h) (by rfl) hS0 ?_ ?_
      rotate_left
      · (intro w' hSw; obtain ⟨hS1, hS2⟩ := hSw; go_simp; (try with_reducible rfl))
      simp only [Act.put, List.setIfInBounds_toArray, List.getElem_toArray, List.getElem_cons_succ, List.getElem_cons_zero, List.set_cons_succ, List.set_cons_zero]
      refine Y_take (i := 2) (v := ?_) rfl (by kernel_rfl) (by kernel_rfl) (by kernel_rfl) (by kernel_rfl) (fun _ _ _ h => h) (by rfl) hS0 ?_ ?_
      rotate_left
      · (intro w' hSw; obtain ⟨hS1, hS2⟩ := hSw; go_simp; (try with_reducible rfl))
      simp only [Act.put, List.setIfInBounds_toArray, List.getElem_toArray, List.getElem_cons_succ, List.getElem_cons_zero, List.set_cons_succ, List.set_cons_zero]
      refine Y_take (i := 3) (v := ?_) rfl (by kernel_rfl) (by kernel_rfl) (by kernel_rfl) (by kernel_rfl) (fun _ _ _ h => h) (by rfl) hS0 ?_ ?_
      rotate_left
      · (intro w' hSw; obtain ⟨hS1, hS2⟩ := hSw; go_simp; (try with_reducible rfl))
      simp only [Act.put, List.setIfInBounds_toArray, List.getElem_toArray, List.getElem_cons_succ, List.getElem_cons_zero, List.set_cons_succ, List.set_cons_zero]
      refine Y_take (i := 4) (v := ?_) rfl (by kernel_rfl) (by kernel_rfl) (by kernel_rfl) (by kernel_rfl) (fun _ _ _ h => h) (by rfl) hS0 ?_ ?_
      rotate_left
      · (intro w' hSw; obtain ⟨hS1, hS2⟩ := hSw; go_simp; (try with_reducible rfl))
      simp only [Act.put, List.setIfInBounds_toArray, List.getElem_toArray, List.getElem_cons_succ, List.getElem_cons_zero, List.set_cons_succ, List.set_cons_zero]
      refine Y_take (i := 5) (v := ?_) rfl (by kernel_rfl) (by kernel_rfl) (by kernel_rfl) (by kernel_rfl) (fun _ _ _ h => h) (by rfl) hS0 ?_ ?_
      rotate_left
      · (intro w' hSw; obtain ⟨hS1, hS2⟩ := hSw; go_simp; (try with_reducible rfl))
      simp only [Act.put, List.setIfInBounds_toArray, List.getElem_toArray, List.getElem_cons_succ, List.getElem_cons_zero, List.set_cons_succ, List.set_cons_zero]
      refine Y_take (i := 6) (v := ?_) rfl (by kernel_rfl) (by kernel_rfl) (by kernel_rfl) (by kernel_rfl) (fun _ _ _ h => h) (by rfl) hS0 ?_ ?_
      rotate_left
      · (intro w' hSw; obtain ⟨hS1, hS2⟩ := hSw; go_simp; (try with_reducible rfl))
      simp only [Act.put, List.setIfInBounds_toArray, List.getElem_toArray, List.getElem_cons_succ, List.getElem_cons_zero, List.set_cons_succ, List.set_cons_zero]
      refine Y_take (i := 7) (v := ?_) rfl (by kernel_rfl) (by kernel_rfl) (by kernel_rfl) (by kernel_rfl) (fun _ _ _ h => h) (by rfl) hS0 ?_ ?_
      rotate_left
      · (intro w' hSw; obtain ⟨hS1, hS2⟩ := hSw; go_simp; (try with_reducible rfl))
      simp only [Act.put, List.setIfInBounds_toArray, List.getElem_toArray, List.getElem_cons_succ, List.getElem_cons_zero, List.set_cons_succ, List.set_cons_zero]
      refine Y_take (i := 8) (v := ?_) rfl (by kernel_rfl) (by kernel_rfl) (by kernel_rfl) (by kernel_rfl) (fun _ _ _ h => h) (by rfl) hS0 ?_ ?_
      rotate_left
      · (intro w' hSw; obtain ⟨hS1, hS2⟩ := hSw; go_simp; (try with_reducible rfl))
      simp only [Act.put, List.setIfInBounds_toArray, List.getElem_toArray, List.getElem_cons_succ, List.getElem_cons_zero, List.set_cons_succ, List.set_cons_zero]
      refine Y_take (i := 9) (v := ?_) rfl (by kernel_rfl) (by kernel_rfl) (by kernel_rfl) (by kernel_rfl) (fun _ _ _ h => h) (by rfl) hS0 ?_ ?_
      rotate_left
      · (intro w' hSw; obtain ⟨hS1, hS2⟩ := hSw; go_simp; (try with_reducible rfl))
      simp only [Act.put, List.setIfInBounds_toArray, List.getElem_toArray, List.getElem_cons_succ, List.getElem_cons_zero, List.set_cons_succ, List.set_cons_zero]
      have hbx : wr.heap[D + 1]? = some (.cells #[gN U n 0, gN V n 0, gN U n 1, gN V n 1, gN U n 2, gN V n 2, gN U n 3, gN V n 3] 37) := HBX.out.1
      have q0 := cellB hbx (n * 2) (gN U n n) (by have := HBX.out.2.2; rcases n with _ | _ | _ | _ | n; rfl; rfl; rfl; rfl; omega)
      have q1 := cellB hbx (n * 2 + 1) (gN V n n) (by have := HBX.out.2.2; rcases n with _ | _ | _ | _ | n; rfl; rfl; rfl; rfl; omega)
      have f0 := frozenB hbx (n * 2)
      have f1 := frozenB hbx (n * 2 + 1)
      have hs2 := setB (setB hbx (n * 2) (U n)) (n * 2 + 1) (V n)
      rw [gN8 U V HBX.out.2.2, HUV.out.1, HUV.out.2] at hs2
      have HS2 : Hid (_) := hs2
      have HB2 : Hid (Below (D + 1) W6 wr) := HBX.out.2.1
      clear hbx hs2
      refine Z_step (i := 10) (by kernel_rfl) rfl (fun K' hK => ?_)
      go_simp
      refine hK _ _ (fun _ => ?_) (Z_done (by kernel_rfl) ?_ _)
      · have hCD := HM6.out.2.2.2.2.2.2.1
        have far : ∀ k, k < D + 1 → (((wr.setCell ⟨D + 1, n * 2, none⟩ (.slice an kn cn)).setCell ⟨D + 1, n * 2 + 1, none⟩ (.slice bn ln dn)).drew).heap[k]? = wr.heap[k]? := fun k hk => (set_far (by omega) _ _).trans (set_far (by omega) _ _)
        have h0 := c0
        have h1 := c1
        constructor
        · unfold World.cell? at h0 ⊢
          rw [far C (by omega)]
          exact h0
        · unfold World.cell? at h1 ⊢
          rw [far D (by omega)]
          exact h1
      clear hK K' c0 c1 hS0 q0 q1 f0 f1
      go_wp2_with fail
      go_roundg (4 - (n + 1))
      case measure => omega
      case rel => exact ⟨n + 1, by omega, by go_num, HS2.out, below_drew ((HB2.out.setCell (p := ⟨D + 1, n * 2, none⟩) (Nat.le_refl _) _).setCell (p := ⟨D + 1, n * 2 + 1, none⟩) (Nat.le_refl _) _)⟩
end Go.Proofs.YtihilkdokfdoeaaDoor
