/- Moots: Load, walked; there and back. -/
import Derived.Test.YtfolnlgceighbaaGreatDoorMpQ
import Derived.Test.YtfolnlgceighbaaGreatDoorMoQ
import Derived.ProofKit
import Derived.OpenShut
import Derived.Deep.Slices
import Derived.Deep.Strs
import Derived.Lib.SmallJoins
import Derived.Laws.IdiomArrays
namespace Go.Proofs.YtfolnlgceighbaaGreatDoor
section
section
open Go.RowKit
variable {P : Program} {md : Region.Mode} {ops : Array Oper} {Q : Exit → Act → World → Prop} {z : Nat} {S : World → Prop}
theorem Y_skip {i : Nat} {oi : Oper} {fuel : Nat} {listed : Array Bool} {a : Act} {w : World} (hi : ops[i]? = some oi)
    (hs : Region.noSelect ops = true) (hf : Region.free md ops listed i = true) (hr : (Region.ready md ops listed).contains i = true) (hz : ops[z]? = none)
    (hQ : ∀ c a w, Q (.panic c) (a.put oi.dst undef) w → Q (.panic c) a w) (hw : Region.wanted oi (yielded ops a.tmps) = false) (hS : S w)
    (h : anyZ P md ops Q z S fuel (listed.setIfInBounds i true) (a.put oi.dst undef) w) : anyZ P md ops Q z S (fuel + 1) listed a w :=
  Y_first hi (Region.noSelect_spec hs) hz hQ fuel listed a w (Region.free_spec hi hf) (by simpa using hr) (.inr ⟨hw, rfl⟩) hS h
end
open Go.RowKit
attribute [local go_sem ↓] Go.wp_at_zero Go.wp_at_succ

/-- The moot that a text says: its configurations, its commands, its clients. -/
def loadM (s : List UInt8) : Option (List (List Nat × List Nat) × List C3 × List Kn) :=
  match texts s with
  | [a, b] => match (un3 a).bind (tkAll [] []) with
    | some r => ((un3 b).bind (mtAll 0 zK)).map fun cl => (r.1, r.2, cl)
    | none => none
  | _ => none
def MLd (s : List UInt8) (base : Nat) (p : Option Addr) (E : Int) (W' : World) : Prop :=
  match loadM s with
  | some x => E = 0 ∧ ∃ M B v u L, p = some ⟨M, 0, none⟩ ∧ cls L = x.1 ∧ MtAt base W' M B v u L x.2.1 x.2.2
  | none => p = none ∧ E = 4
theorem MtAt.low' {base base' : Nat} {w : World} {M B : Nat} {v u : Value} {L : List Rc} {T : List C3} {cl : List Kn} (h : MtAt base w M B v u L T cl) (hb : base' ≤ base) : MtAt base' w M B v u L T cl :=
  have ow : ∀ {e : TypeId} {s n : Nat} {x : Value} {xs : List Value}, w.ownsRow base e s x n xs → w.ownsRow base' e s x n xs := fun h => by
    obtain ⟨q1, q2⟩ := h
    rcases q2 with q2 | ⟨g, cap, cur, e1, q3, q4⟩
    · exact ⟨q1, .inl q2⟩
    · exact ⟨q1, .inr ⟨g, cap, cur, e1, by omega, q4⟩⟩
  ⟨h.blk, h.len, ⟨h.ch.blk, ow h.ch.own, h.ch.ne, Nat.le_trans hb h.ch.low, fun i r hr => by
    obtain ⟨a, b, c, d⟩ := h.ch.ok i r hr
    exact ⟨a, b, c, fun k hk => by
      obtain ⟨e1, e2, e3⟩ := d k hk
      exact ⟨Nat.le_trans hb e1, e2, e3⟩⟩⟩, ow h.row, Nat.le_trans hb h.low, h.nB, h.nv, h.nu, h.nr, h.ap, h.run, h.tl⟩
theorem loadM_len {s : List UInt8} {L : List (List UInt8)} (hL : texts s = L) (h : ¬ L.length = 2) : loadM s = none := by
  unfold loadM
  rw [hL]
  match L, h with
  | [], _ => rfl
  | [_], _ => rfl
  | [_, _], h => exact absurd rfl h
  | _ :: _ :: _ :: _, _ => rfl
theorem list2 {α : Type} {l : List α} (h : l.length = 2) : ∃ a b, l = [a, b] := by
  match l, h with
  | [a, b], _ => exact ⟨a, b, rfl⟩
set_option maxRecDepth 20000 in
set_option maxHeartbeats 4000000 in
theorem MLoad_any (s : List UInt8) (w : World) (hs : s.length ≤ 1000000) (he : Env w) :
    Calls Tryz.prog 19 #[.string (bs s)] w fun e W' => ∃ p E, e = .returned (.tuple #[.pointer p, .int .i64 E]) ∧ MLd s w.heap.size p E W' ∧ Below w.heap.size w W' := by
  have hU := Unpack_any s w hs he
  have HNO : Hid (loadM s = none → ∀ W', MLd s w.heap.size none 4 W') := fun h W' => by unfold MLd; rw [h]; exact ⟨rfl, rfl⟩
  have HYS : Hid (∀ {x p E W'}, loadM s = some x → (E = 0 ∧ ∃ M B v u L, p = some ⟨M, 0, none⟩ ∧ cls L = x.1 ∧ MtAt w.heap.size W' M B v u L x.2.1 x.2.2) → MLd s w.heap.size p E W') := fun {x p E W'} h h2 => by unfold MLd; rw [h]; exact h2
  have HE : Hid (∀ W, Below w.heap.size w W → Env W) := fun W hb => he.next hb
  have HSZ : Hid (s.length ≤ 1000000) := hs
  obtain ⟨L, hL⟩ : ∃ L, texts s = L := ⟨_, rfl⟩
  have HL : Hid (texts s = L) := hL
  have HTS0 : Hid (∀ t ∈ L, t.length ≤ s.length) := fun t ht => texts_mem_len (by rw [hL]; exact ht)
  rcases err_cases s with e0 | e0
  · rw [e0, hL] at hU
    have hll := Nat.le_trans (texts_count s) hs
    rw [hL] at hll
    clear he hs e0 hL
    by_cases h2 : L.length = 2
    · obtain ⟨a, b, hab⟩ := list2 h2
      subst hab
      clear h2 hll
      go_enter Tryz.func19, Tryz.ntmps19
      go_upto_region 4 with (first
        | (go_at_call 36; refine hU.mono ?_; clear hU; rintro e w1 ⟨v, rfl, hown, hb1⟩; obtain ⟨va, vc, rfl⟩ := owns_slice hown; have HO1 : Hid (w1.ownsRow w.heap.size 9 1 (.slice va [a, b].length vc) [a, b].length (strs [a, b])) := hown; have HB1 : Hid (Below w.heap.size w w1) := hb1; clear hown hb1))
      have hSl := Sl.of_owns HO1.out
      obtain ⟨b1, o1, hva, _⟩ := Sl_at hSl (i := 0) (t := a) rfl
      subst hva
      have HSC : Hid (∀ W, Below w1.heap.size w1 W → W.cell? ⟨b1, o1, none⟩ = some (.string (bs a)) ∧ W.cell? ⟨b1, o1 + 1, none⟩ = some (.string (bs b))) := fun W hW => by
        have hS2 := hSl.below hW (Nat.le_refl _)
        obtain ⟨x0, z0, e0, q0⟩ := Sl_at hS2 (i := 0) (t := a) rfl
        obtain ⟨x1, z1, e1, q1⟩ := Sl_at hS2 (i := 1) (t := b) rfl
        injection e0 with e0; injection e0 with e01 e02
        injection e1 with e1; injection e1 with e11 e12
        subst e01 e02 e11 e12
        exact ⟨q0, q1⟩
      have HLA : Hid (a.length ≤ 1000000) := Nat.le_trans (HTS0.out a (by simp)) HSZ.out
      have HLB : Hid (b.length ≤ 1000000) := Nat.le_trans (HTS0.out b (by simp)) HSZ.out
      have hNew := MNew_any w1
      clear hSl HO1
      go_upto_region 5 with (first
        | (go_at_call 23; refine hNew.mono ?_; clear hNew; rintro e w2 ⟨M, B, rfl, hM0, hb2⟩; have HM2 : Hid (MtAt w1.heap.size w2 M B (.slice none 0 0) (.slice none 0 0) [] [] zK) := hM0; have HB2 : Hid (Below w1.heap.size w1 w2) := hb2; clear hM0 hb2))
      have HTA : Hid (∀ W, Below w2.heap.size w2 W → Calls Tryz.prog 46 #[.pointer (some ⟨M, 0, none⟩), .string (bs a)] W fun e W' => ∃ b, e = .returned (.bool b) ∧ TaPost a w1.heap.size M B (.slice none 0 0) (.slice none 0 0) [] [] zK b W W') := fun W hW => takeAll_any a HLA.out w1.heap.size M B _ _ [] [] zK W (HM2.out.next hW) (HE.out W (HB1.out.trans ((HB2.out.trans (hW.mono HB2.out.size)).mono HB1.out.size)))
      cases hta : (un3 a).bind (tkAll [] []) with
      | none =>
        have HTN : Hid ((un3 a).bind (tkAll (cls []) []) = none) := hta
        have HLN : Hid (loadM s = none) := by show _ = _; unfold loadM; rw [HL.out]; show (match (un3 a).bind (tkAll [] []) with | some r => ((un3 b).bind (mtAll 0 zK)).map fun cl => (r.1, r.2, cl) | none => none) = none; rw [hta]
        clear hta
        refine region_Z 99 (fun w' => w'.cell? ⟨b1, o1, none⟩ = some (.string (bs a)) ∧ w'.cell? ⟨b1, o1 + 1, none⟩ = some (.string (bs b))) (by kernel_rfl) ?_
        have hS0 := HSC.out w2.drew (below_drew HB2.out)
        have hTk := HTA.out w2.drew (below_drew (Below.refl _ _))
        refine Y_take (i := 0) (v := ?_) rfl (by kernel_rfl) (by kernel_rfl) (by kernel_rfl) (by kernel_rfl) (fun _ _ _ h => h) (by rfl) hS0 ?_ ?_
        rotate_left
        · (intro w' hSw; obtain ⟨e0, e1⟩ := hSw; go_simp; (try with_reducible rfl))
        simp only [Act.put, List.setIfInBounds_toArray]
        refine Y_take (i := 1) (v := ?_) rfl (by kernel_rfl) (by kernel_rfl) (by kernel_rfl) (by kernel_rfl) (fun _ _ _ h => h) (by rfl) hS0 ?_ ?_
        rotate_left
        · (intro w' hSw; obtain ⟨e0, e1⟩ := hSw; go_simp; (try with_reducible rfl))
        simp only [Act.put]
        refine Y_take (i := 2) (v := ?_) rfl (by kernel_rfl) (by kernel_rfl) (by kernel_rfl) (by kernel_rfl) (fun _ _ _ h => h) (by rfl) hS0 ?_ ?_
        rotate_left
        · (intro w' hSw; obtain ⟨e0, e1⟩ := hSw; go_simp; (try with_reducible rfl))
        simp only [Act.put]
        refine Y_take (i := 3) (v := ?_) rfl (by kernel_rfl) (by kernel_rfl) (by kernel_rfl) (by kernel_rfl) (fun _ _ _ h => h) (by rfl) hS0 ?_ ?_
        rotate_left
        · (intro w' hSw; obtain ⟨e0, e1⟩ := hSw; go_simp; (try with_reducible rfl))
        simp only [Act.put]
        refine Y_take (i := 4) (v := ?_) rfl (by kernel_rfl) (by kernel_rfl) (by kernel_rfl) (by kernel_rfl) (fun _ _ _ h => h) (by rfl) hS0 ?_ ?_
        rotate_left
        · (intro w' hSw; obtain ⟨e0, e1⟩ := hSw; go_simp; (try with_reducible rfl))
        simp only [Act.put]
        refine Y_take (i := 5) (v := ?_) rfl (by kernel_rfl) (by kernel_rfl) (by kernel_rfl) (by kernel_rfl) (fun _ _ _ h => h) (by rfl) hS0 ?_ ?_
        rotate_left
        · (intro w' hSw; obtain ⟨e0, e1⟩ := hSw; go_simp; (try with_reducible rfl))
        simp only [Act.put]
        refine Z_step (i := 6) (by kernel_rfl) rfl (fun K' hK => ?_)
        go_simp
        refine hTk.mono ?_
        clear hTk
        rintro e w3 ⟨bb, rfl, v3, u3, L3, T3, t1, t2, t3, t4⟩
        have hB3 := t2.below (HM2.out.next (below_drew (Below.refl _ _))) (below_drew HB2.out)
        have hS3 := HSC.out w3 hB3
        obtain rfl := t4 HTN.out
        refine hK _ _ (fun _ => hS3) ?_
        clear hK K'
        have HB3 : Hid (Below w1.heap.size w1 w3) := hB3
        clear t1 t2 t3 t4 hB3
        refine Y_take (i := 7) (v := ?_) rfl (by kernel_rfl) (by kernel_rfl) (by kernel_rfl) (by kernel_rfl) (fun _ _ _ h => h) (by rfl) hS3 ?_ ?_
        rotate_left
        · (intro w' hSw; obtain ⟨e0, e1⟩ := hSw; go_simp; (try with_reducible rfl))
        simp only [Act.put]
        refine Y_take (i := 8) (v := ?_) rfl (by kernel_rfl) (by kernel_rfl) (by kernel_rfl) (by kernel_rfl) (fun _ _ _ h => h) (by rfl) hS3 ?_ ?_
        rotate_left
        · (intro w' hSw; obtain ⟨e0, e1⟩ := hSw; go_simp; (try with_reducible rfl))
        simp only [Act.put]
        refine Y_skip (i := 9) rfl (by kernel_rfl) (by kernel_rfl) (by kernel_rfl) (by kernel_rfl) (fun _ _ _ h => h) (by rfl) hS3 ?_
        simp only [Act.put]
        refine Y_skip (i := 10) rfl (by kernel_rfl) (by kernel_rfl) (by kernel_rfl) (by kernel_rfl) (fun _ _ _ h => h) (by rfl) hS3 ?_
        simp only [Act.put]
        refine Y_skip (i := 11) rfl (by kernel_rfl) (by kernel_rfl) (by kernel_rfl) (by kernel_rfl) (fun _ _ _ h => h) (by rfl) hS3 ?_
        simp only [Act.put]
        refine Y_skip (i := 12) rfl (by kernel_rfl) (by kernel_rfl) (by kernel_rfl) (by kernel_rfl) (fun _ _ _ h => h) (by rfl) hS3 ?_
        simp only [Act.put]
        refine Y_skip (i := 13) rfl (by kernel_rfl) (by kernel_rfl) (by kernel_rfl) (by kernel_rfl) (fun _ _ _ h => h) (by rfl) hS3 ?_
        simp only [Act.put]
        refine Y_skip (i := 14) rfl (by kernel_rfl) (by kernel_rfl) (by kernel_rfl) (by kernel_rfl) (fun _ _ _ h => h) (by rfl) hS3 ?_
        simp only [Act.put]
        refine Z_step (i := 15) (by kernel_rfl) rfl (fun K' hK => ?_)
        go_simp
        refine hK _ _ (fun _ => hS3) (Z_done (by kernel_rfl) ?_ _)
        clear hK K'
        clear hS0 hS3
        go_wp2_with fail
        exact bodyPost_ret (v := .tuple #[.pointer none, .int .i64 4]) (by simp [results, Tryz.f19, go_sem]) rfl ⟨_, _, rfl, HNO.out HLN.out _, HB1.out.trans (HB3.out.mono HB1.out.size)⟩
      | some r =>
        have HTS : Hid ((un3 a).bind (tkAll (cls []) []) = some r) := hta
        have HLR : Hid (loadM s = ((un3 b).bind (mtAll 0 zK)).map fun cl => (r.1, r.2, cl)) := by show _ = _; unfold loadM; rw [HL.out]; show (match (un3 a).bind (tkAll [] []) with | some r => ((un3 b).bind (mtAll 0 zK)).map fun cl => (r.1, r.2, cl) | none => none) = _; rw [hta]
        clear hta
        cases hme : (un3 b).bind (mtAll 0 zK) with
        | none =>
          have HMN : Hid ((un3 b).bind (mtAll 0 zK) = none) := hme
          have HLN : Hid (loadM s = none) := by show _ = _; rw [HLR.out, hme]; rfl
          clear hme
          refine region_Z 99 (fun w' => w'.cell? ⟨b1, o1, none⟩ = some (.string (bs a)) ∧ w'.cell? ⟨b1, o1 + 1, none⟩ = some (.string (bs b))) (by kernel_rfl) ?_
          have hS0 := HSC.out w2.drew (below_drew HB2.out)
          have hTk := HTA.out w2.drew (below_drew (Below.refl _ _))
          refine Y_take (i := 0) (v := ?_) rfl (by kernel_rfl) (by kernel_rfl) (by kernel_rfl) (by kernel_rfl) (fun _ _ _ h => h) (by rfl) hS0 ?_ ?_
          rotate_left
          · (intro w' hSw; obtain ⟨e0, e1⟩ := hSw; go_simp; (try with_reducible rfl))
          simp only [Act.put, List.setIfInBounds_toArray]
          refine Y_take (i := 1) (v := ?_) rfl (by kernel_rfl) (by kernel_rfl) (by kernel_rfl) (by kernel_rfl) (fun _ _ _ h => h) (by rfl) hS0 ?_ ?_
          rotate_left
          · (intro w' hSw; obtain ⟨e0, e1⟩ := hSw; go_simp; (try with_reducible rfl))
          simp only [Act.put]
          refine Y_take (i := 2) (v := ?_) rfl (by kernel_rfl) (by kernel_rfl) (by kernel_rfl) (by kernel_rfl) (fun _ _ _ h => h) (by rfl) hS0 ?_ ?_
          rotate_left
          · (intro w' hSw; obtain ⟨e0, e1⟩ := hSw; go_simp; (try with_reducible rfl))
          simp only [Act.put]
          refine Y_take (i := 3) (v := ?_) rfl (by kernel_rfl) (by kernel_rfl) (by kernel_rfl) (by kernel_rfl) (fun _ _ _ h => h) (by rfl) hS0 ?_ ?_
          rotate_left
          · (intro w' hSw; obtain ⟨e0, e1⟩ := hSw; go_simp; (try with_reducible rfl))
          simp only [Act.put]
          refine Y_take (i := 4) (v := ?_) rfl (by kernel_rfl) (by kernel_rfl) (by kernel_rfl) (by kernel_rfl) (fun _ _ _ h => h) (by rfl) hS0 ?_ ?_
          rotate_left
          · (intro w' hSw; obtain ⟨e0, e1⟩ := hSw; go_simp; (try with_reducible rfl))
          simp only [Act.put]
          refine Y_take (i := 5) (v := ?_) rfl (by kernel_rfl) (by kernel_rfl) (by kernel_rfl) (by kernel_rfl) (fun _ _ _ h => h) (by rfl) hS0 ?_ ?_
          rotate_left
          · (intro w' hSw; obtain ⟨e0, e1⟩ := hSw; go_simp; (try with_reducible rfl))
          simp only [Act.put]
          refine Z_step (i := 6) (by kernel_rfl) rfl (fun K' hK => ?_)
          go_simp
          refine hTk.mono ?_
          clear hTk
          rintro e w3 ⟨bb, rfl, v3, u3, L3, T3, t1, t2, t3, t4⟩
          have hB3 := t2.below (HM2.out.next (below_drew (Below.refl _ _))) (below_drew HB2.out)
          have hS3 := HSC.out w3 hB3
          obtain ⟨rfl, q1, q2⟩ := t3 _ HTS.out
          subst q2
          refine hK _ _ (fun _ => hS3) ?_
          clear hK K'
          have HB3 : Hid (Below w1.heap.size w1 w3) := hB3
          have HM3 : Hid (MtAt w1.heap.size w3 M B v3 u3 L3 r.2 zK ∧ cls L3 = r.1) := ⟨t1, q1⟩
          have hMe := meetAll_any b HLB.out w1.heap.size M B v3 u3 L3 r.2 zK w3 t1 (HE.out w3 (HB1.out.trans (hB3.mono HB1.out.size)))
          clear t1 t2 t3 t4 hB3 q1
          refine Y_take (i := 7) (v := ?_) rfl (by kernel_rfl) (by kernel_rfl) (by kernel_rfl) (by kernel_rfl) (fun _ _ _ h => h) (by rfl) hS3 ?_ ?_
          rotate_left
          · (intro w' hSw; obtain ⟨e0, e1⟩ := hSw; go_simp; (try with_reducible rfl))
          simp only [Act.put]
          refine Y_take (i := 8) (v := ?_) rfl (by kernel_rfl) (by kernel_rfl) (by kernel_rfl) (by kernel_rfl) (fun _ _ _ h => h) (by rfl) hS3 ?_ ?_
          rotate_left
          · (intro w' hSw; obtain ⟨e0, e1⟩ := hSw; go_simp; (try with_reducible rfl))
          simp only [Act.put]
          refine Y_take (i := 9) (v := ?_) rfl (by kernel_rfl) (by kernel_rfl) (by kernel_rfl) (by kernel_rfl) (fun _ _ _ h => h) (by rfl) hS3 ?_ ?_
          rotate_left
          · (intro w' hSw; obtain ⟨e0, e1⟩ := hSw; go_simp; (try with_reducible rfl))
          simp only [Act.put]
          refine Y_take (i := 10) (v := ?_) rfl (by kernel_rfl) (by kernel_rfl) (by kernel_rfl) (by kernel_rfl) (fun _ _ _ h => h) (by rfl) hS3 ?_ ?_
          rotate_left
          · (intro w' hSw; obtain ⟨e0, e1⟩ := hSw; go_simp; (try with_reducible rfl))
          simp only [Act.put]
          refine Y_take (i := 11) (v := ?_) rfl (by kernel_rfl) (by kernel_rfl) (by kernel_rfl) (by kernel_rfl) (fun _ _ _ h => h) (by rfl) hS3 ?_ ?_
          rotate_left
          · (intro w' hSw; obtain ⟨e0, e1⟩ := hSw; go_simp; (try with_reducible rfl))
          simp only [Act.put]
          refine Y_take (i := 12) (v := ?_) rfl (by kernel_rfl) (by kernel_rfl) (by kernel_rfl) (by kernel_rfl) (fun _ _ _ h => h) (by rfl) hS3 ?_ ?_
          rotate_left
          · (intro w' hSw; obtain ⟨e0, e1⟩ := hSw; go_simp; (try with_reducible rfl))
          simp only [Act.put]
          refine Z_step (i := 13) (by kernel_rfl) rfl (fun K' hK => ?_)
          go_simp
          refine hMe.mono ?_
          clear hMe
          rintro e w4 ⟨bb, rfl, c4, m1, m2, m3, m4⟩
          have hB4 := m2.below HM3.out.1 HB3.out
          have hS4 := HSC.out w4 hB4
          obtain rfl := m4 HMN.out
          refine hK _ _ (fun _ => hS4) ?_
          clear hK K'
          have HB4 : Hid (Below w1.heap.size w1 w4) := hB4
          clear m1 m2 m3 m4 hB4
          refine Z_step (i := 14) (by kernel_rfl) rfl (fun K' hK => ?_)
          go_simp
          refine hK _ _ (fun _ => hS4) ?_
          clear hK K'
          refine Z_step (i := 15) (by kernel_rfl) rfl (fun K' hK => ?_)
          go_simp
          refine hK _ _ (fun _ => hS4) (Z_done (by kernel_rfl) ?_ _)
          clear hK K'
          clear hS0 hS3 hS4
          go_wp2_with fail
          exact bodyPost_ret (v := .tuple #[.pointer none, .int .i64 4]) (by simp [results, Tryz.f19, go_sem]) rfl ⟨_, _, rfl, HNO.out HLN.out _, HB1.out.trans (HB4.out.mono HB1.out.size)⟩
        | some c5 =>
          have HMS : Hid ((un3 b).bind (mtAll 0 zK) = some c5) := hme
          have HLY : Hid (loadM s = some (r.1, r.2, c5)) := by show _ = _; rw [HLR.out, hme]; rfl
          clear hme
          refine region_Z 99 (fun w' => w'.cell? ⟨b1, o1, none⟩ = some (.string (bs a)) ∧ w'.cell? ⟨b1, o1 + 1, none⟩ = some (.string (bs b))) (by kernel_rfl) ?_
          have hS0 := HSC.out w2.drew (below_drew HB2.out)
          have hTk := HTA.out w2.drew (below_drew (Below.refl _ _))
          refine Y_take (i := 0) (v := ?_) rfl (by kernel_rfl) (by kernel_rfl) (by kernel_rfl) (by kernel_rfl) (fun _ _ _ h => h) (by rfl) hS0 ?_ ?_
          rotate_left
          · (intro w' hSw; obtain ⟨e0, e1⟩ := hSw; go_simp; (try with_reducible rfl))
          simp only [Act.put, List.setIfInBounds_toArray]
          refine Y_take (i := 1) (v := ?_) rfl (by kernel_rfl) (by kernel_rfl) (by kernel_rfl) (by kernel_rfl) (fun _ _ _ h => h) (by rfl) hS0 ?_ ?_
          rotate_left
          · (intro w' hSw; obtain ⟨e0, e1⟩ := hSw; go_simp; (try with_reducible rfl))
          simp only [Act.put]
          refine Y_take (i := 2) (v := ?_) rfl (by kernel_rfl) (by kernel_rfl) (by kernel_rfl) (by kernel_rfl) (fun _ _ _ h => h) (by rfl) hS0 ?_ ?_
          rotate_left
          · (intro w' hSw; obtain ⟨e0, e1⟩ := hSw; go_simp; (try with_reducible rfl))
          simp only [Act.put]
          refine Y_take (i := 3) (v := ?_) rfl (by kernel_rfl) (by kernel_rfl) (by kernel_rfl) (by kernel_rfl) (fun _ _ _ h => h) (by rfl) hS0 ?_ ?_
          rotate_left
          · (intro w' hSw; obtain ⟨e0, e1⟩ := hSw; go_simp; (try with_reducible rfl))
          simp only [Act.put]
          refine Y_take (i := 4) (v := ?_) rfl (by kernel_rfl) (by kernel_rfl) (by kernel_rfl) (by kernel_rfl) (fun _ _ _ h => h) (by rfl) hS0 ?_ ?_
          rotate_left
          · (intro w' hSw; obtain ⟨e0, e1⟩ := hSw; go_simp; (try with_reducible rfl))
          simp only [Act.put]
          refine Y_take (i := 5) (v := ?_) rfl (by kernel_rfl) (by kernel_rfl) (by kernel_rfl) (by kernel_rfl) (fun _ _ _ h => h) (by rfl) hS0 ?_ ?_
          rotate_left
          · (intro w' hSw; obtain ⟨e0, e1⟩ := hSw; go_simp; (try with_reducible rfl))
          simp only [Act.put]
          refine Z_step (i := 6) (by kernel_rfl) rfl (fun K' hK => ?_)
          go_simp
          refine hTk.mono ?_
          clear hTk
          rintro e w3 ⟨bb, rfl, v3, u3, L3, T3, t1, t2, t3, t4⟩
          have hB3 := t2.below (HM2.out.next (below_drew (Below.refl _ _))) (below_drew HB2.out)
          have hS3 := HSC.out w3 hB3
          obtain ⟨rfl, q1, q2⟩ := t3 _ HTS.out
          subst q2
          refine hK _ _ (fun _ => hS3) ?_
          clear hK K'
          have HB3 : Hid (Below w1.heap.size w1 w3) := hB3
          have HM3 : Hid (MtAt w1.heap.size w3 M B v3 u3 L3 r.2 zK ∧ cls L3 = r.1) := ⟨t1, q1⟩
          have hMe := meetAll_any b HLB.out w1.heap.size M B v3 u3 L3 r.2 zK w3 t1 (HE.out w3 (HB1.out.trans (hB3.mono HB1.out.size)))
          clear t1 t2 t3 t4 hB3 q1
          refine Y_take (i := 7) (v := ?_) rfl (by kernel_rfl) (by kernel_rfl) (by kernel_rfl) (by kernel_rfl) (fun _ _ _ h => h) (by rfl) hS3 ?_ ?_
          rotate_left
          · (intro w' hSw; obtain ⟨e0, e1⟩ := hSw; go_simp; (try with_reducible rfl))
          simp only [Act.put]
          refine Y_take (i := 8) (v := ?_) rfl (by kernel_rfl) (by kernel_rfl) (by kernel_rfl) (by kernel_rfl) (fun _ _ _ h => h) (by rfl) hS3 ?_ ?_
          rotate_left
          · (intro w' hSw; obtain ⟨e0, e1⟩ := hSw; go_simp; (try with_reducible rfl))
          simp only [Act.put]
          refine Y_take (i := 9) (v := ?_) rfl (by kernel_rfl) (by kernel_rfl) (by kernel_rfl) (by kernel_rfl) (fun _ _ _ h => h) (by rfl) hS3 ?_ ?_
          rotate_left
          · (intro w' hSw; obtain ⟨e0, e1⟩ := hSw; go_simp; (try with_reducible rfl))
          simp only [Act.put]
          refine Y_take (i := 10) (v := ?_) rfl (by kernel_rfl) (by kernel_rfl) (by kernel_rfl) (by kernel_rfl) (fun _ _ _ h => h) (by rfl) hS3 ?_ ?_
          rotate_left
          · (intro w' hSw; obtain ⟨e0, e1⟩ := hSw; go_simp; (try with_reducible rfl))
          simp only [Act.put]
          refine Y_take (i := 11) (v := ?_) rfl (by kernel_rfl) (by kernel_rfl) (by kernel_rfl) (by kernel_rfl) (fun _ _ _ h => h) (by rfl) hS3 ?_ ?_
          rotate_left
          · (intro w' hSw; obtain ⟨e0, e1⟩ := hSw; go_simp; (try with_reducible rfl))
          simp only [Act.put]
          refine Y_take (i := 12) (v := ?_) rfl (by kernel_rfl) (by kernel_rfl) (by kernel_rfl) (by kernel_rfl) (fun _ _ _ h => h) (by rfl) hS3 ?_ ?_
          rotate_left
          · (intro w' hSw; obtain ⟨e0, e1⟩ := hSw; go_simp; (try with_reducible rfl))
          simp only [Act.put]
          refine Z_step (i := 13) (by kernel_rfl) rfl (fun K' hK => ?_)
          go_simp
          refine hMe.mono ?_
          clear hMe
          rintro e w4 ⟨bb, rfl, c4, m1, m2, m3, m4⟩
          have hB4 := m2.below HM3.out.1 HB3.out
          have hS4 := HSC.out w4 hB4
          obtain ⟨rfl, q2⟩ := m3 _ HMS.out
          subst q2
          refine hK _ _ (fun _ => hS4) ?_
          clear hK K'
          have HB4 : Hid (Below w1.heap.size w1 w4) := hB4
          have HM4 : Hid (MtAt w1.heap.size w4 M B v3 u3 L3 r.2 c4) := m1
          clear m1 m2 m3 m4 hB4
          refine Z_step (i := 14) (by kernel_rfl) rfl (fun K' hK => ?_)
          go_simp
          refine hK _ _ (fun _ => hS4) ?_
          clear hK K'
          refine Z_step (i := 15) (by kernel_rfl) rfl (fun K' hK => ?_)
          go_simp
          refine hK _ _ (fun _ => hS4) (Z_done (by kernel_rfl) ?_ _)
          clear hK K'
          clear hS0 hS3 hS4
          go_wp2_with fail
          exact bodyPost_ret (v := .tuple #[.pointer (some ⟨M, 0, none⟩), .int .i64 0]) (by simp [results, Tryz.f19, go_sem]) rfl ⟨_, _, rfl, HYS.out HLY.out ⟨rfl, M, B, v3, u3, L3, rfl, HM3.out.2, HM4.out.low' HB1.out.size⟩, HB1.out.trans (HB4.out.mono HB1.out.size)⟩
    · have HLN : Hid (loadM s = none) := loadM_len HL.out h2
      have hq : ((L.length : Int) != 2) = true := by rw [bne_iff_ne]; omega
      clear h2
      go_enter Tryz.func19, Tryz.ntmps19
      go_wp2_with (first
        | (go_at_call 36; refine hU.mono ?_; clear hU; rintro e w1 ⟨v, rfl, hown, hb1⟩; obtain ⟨va, vc, rfl⟩ := owns_slice hown; have HB1 : Hid (Below w.heap.size w w1) := hb1; clear hown hb1))
      exact bodyPost_ret (v := .tuple #[.pointer none, .int .i64 4]) (by simp [results, Tryz.f19, go_sem]) rfl ⟨_, _, rfl, HNO.out HLN.out _, HB1.out⟩
  · have hT : texts s = [] := texts_bad (by rw [e0]; decide)
    have HLN : Hid (loadM s = none) := loadM_len hT (by decide)
    rw [e0, hT] at hU
    clear he hs e0 hL hT
    go_enter Tryz.func19, Tryz.ntmps19
    go_wp2_with (first
      | (go_at_call 36; refine hU.mono ?_; clear hU; rintro e w1 ⟨v, rfl, hown, hb1⟩; obtain ⟨va, vc, rfl⟩ := owns_slice hown; have HB1 : Hid (Below w.heap.size w w1) := hb1; clear hown hb1))
    exact bodyPost_ret (v := .tuple #[.pointer none, .int .i64 4]) (by simp [results, Tryz.f19, go_sem]) rfl ⟨_, _, rfl, HNO.out HLN.out _, HB1.out⟩
end
section
open Go.RowKit

theorem nxE_range (num : Int) (ns os : List Int) (k g s : Int) : 0 ≤ nxE num ns os k g s ∧ nxE num ns os k g s ≤ 151 := by
  unfold nxE
  split
  · split
    · split
      · split <;> decide
      · decide
    · decide
  · decide
theorem doE_range (cs : List (List Nat × List Nat)) (k g s : Int) : 0 ≤ doE cs k g s ∧ doE cs k g s ≤ 999 := by
  unfold doE
  split
  · decide
  · have := nxE_range cs.length (zi (cfgP cs cs.length).1) (zi (cfgP cs cs.length).2) k g s
    omega
theorem doE_cmd {cs : List (List Nat × List Nat)} {k g s : Int} (h : doE cs k g s = 0) : ok3 (k, g, s) := by
  have hc : isCmd k g s = true := by
    cases hc : isCmd k g s with
    | true => rfl
    | false =>
      unfold doE at h
      split at h
      · cases h
      · unfold nxE at h
        rw [hc] at h
        split at h
        · cases h
        · cases h
  unfold isCmd at hc
  simp only [Bool.and_eq_true] at hc
  obtain ⟨⟨h1, h2⟩, h3⟩ := hc
  have h1 := wi_t h1
  have h2 := wi_t h2
  have h3 := wi_t h3
  have h4 : (if k = 3 then (3 : Int) else 0) ≤ 3 := by split <;> decide
  exact ⟨⟨(by omega : (0 : Int) ≤ k), (by omega : k ≤ 1099511627776)⟩, ⟨(by omega : (0 : Int) ≤ g), (by omega : g ≤ 1099511627776)⟩, (by omega : (0 : Int) ≤ s), (by omega : s ≤ 1099511627776)⟩
theorem doC_le (cs : List (List Nat × List Nat)) (k g s : Int) : (doC cs k g s).length ≤ cs.length + 1 := by
  unfold doC
  split
  · rw [List.length_append]; exact Nat.le_refl _
  · omega
theorem runC_le : ∀ (l : List C3) (cs : List (List Nat × List Nat)), (runC cs l).length ≤ cs.length + l.length
  | [], _ => Nat.le_refl _
  | x :: l, cs => by
    have h1 := runC_le l (doC cs x.1 x.2.1 x.2.2)
    have h2 := doC_le cs x.1 x.2.1 x.2.2
    show (runC (doC cs x.1 x.2.1 x.2.2) l).length ≤ cs.length + (l.length + 1)
    omega
/-- Where as many configurations came as commands, all were taken. -/
theorem run_all : ∀ (l : List C3) (cs : List (List Nat × List Nat)) (T : List C3), (runC cs l).length = cs.length + l.length → tkAll cs T l = some (runC cs l, T ++ l) ∧ ∀ x ∈ l, ok3 x
  | [], cs, T, _ => ⟨by rw [List.append_nil]; rfl, fun x hx => by cases hx⟩
  | x :: l, cs, T, h => by
    replace h : (runC (doC cs x.1 x.2.1 x.2.2) l).length = cs.length + (l.length + 1) := h
    have h1 := runC_le l (doC cs x.1 x.2.1 x.2.2)
    have hE : doE cs x.1 x.2.1 x.2.2 = 0 := by
      by_cases e : doE cs x.1 x.2.1 x.2.2 = 0
      · exact e
      · have : doC cs x.1 x.2.1 x.2.2 = cs := by unfold doC; rw [if_neg e]
        rw [this] at h1 h
        omega
    have hd : (doC cs x.1 x.2.1 x.2.2).length = cs.length + 1 := by unfold doC; rw [if_pos hE, List.length_append]; rfl
    obtain ⟨i1, i2⟩ := run_all l (doC cs x.1 x.2.1 x.2.2) (T ++ [x]) (by omega)
    refine ⟨?_, fun y hy => ?_⟩
    · show (if doE cs x.1 x.2.1 x.2.2 = 0 then tkAll (doC cs x.1 x.2.1 x.2.2) (T ++ [x]) l else none) = _
      rw [if_pos hE, i1, List.append_assoc]
      rfl
    · rcases List.mem_cons.1 hy with rfl | hy
      · exact doE_cmd hE
      · exact i2 y hy
def flatI (l : List C3) : List Int := l.flatMap fun x => [x.1, x.2.1, x.2.2]
theorem flat3_nums (l : List C3) : flat3 l = numsT (flatI l) := by
  induction l with
  | nil => rfl
  | cons x l ih =>
    show trio x ++ flat3 l = numsT ([x.1, x.2.1, x.2.2] ++ flatI l)
    rw [ih]
    simp [trio, numsT]
theorem chunk_flat (l : List C3) : chunk3 (flatI l) = l := by
  induction l with
  | nil => rfl
  | cons x l ih =>
    show (x.1, x.2.1, x.2.2) :: chunk3 (flatI l) = _
    rw [ih]
theorem flatI_ok {l : List C3} (h : ∀ x ∈ l, ok3 x) : ∀ n ∈ flatI l, -9223372036854775808 ≤ n ∧ n ≤ 9223372036854775807 := fun n hn => by
  simp only [flatI, List.mem_flatMap] at hn
  obtain ⟨x, hx, hn⟩ := hn
  obtain ⟨a, b, c⟩ := h x hx
  simp at hn
  rcases hn with rfl | rfl | rfl <;> omega
theorem un3_pack {l : List C3} (h : ∀ x ∈ l, ok3 x) : un3 (packT l) = some l := by
  obtain ⟨_, h2⟩ := flat3_small h
  have hm : ∀ t ∈ flat3 l, t.length ≤ 1000000000 := fun t ht => Nat.le_trans (h2 t ht) (by decide)
  have hg : errOf (packT l) = 0 := good_err.2 (good_pack _ hm)
  have ht : texts (packT l) = flat3 l := texts_pack _ hm
  unfold un3
  rw [ht, if_pos ⟨hg, by rw [flat3_len]; omega⟩, flat3_nums, numsOf_T _ (flatI_ok h)]
  show some (chunk3 (flatI l)) = _
  rw [chunk_flat]
/-- Clients as a moot of commands knows them. -/
def okK3 (cl : List Kn) : Prop := ∀ x ∈ cl, x.1 ≤ 1099511627776 ∧ 0 ≤ x.2 ∧ x.2 ≤ 999 ∧ (x.1 = 0 → x.2 = 0)
theorem okK3.two {cl : List Kn} (h : okK3 cl) : okK2 cl := fun x hx => by
  obtain ⟨a, b, c, _⟩ := h x hx
  exact ⟨a, b, c⟩
theorem okK3_zero : okK3 zK := by
  intro x hx
  have : x = ((0, 0) : Kn) := by simpa [zK] using hx
  subst this
  exact ⟨by decide, by decide, by decide, fun _ => rfl⟩
theorem okK3_do {cl : List Kn} (h : okK3 cl) (cs : List (List Nat × List Nat)) (c n k g s : Int) : okK3 (moC cs cl c n k g s) := by
  unfold moC
  cases hN : moN cl c n with
  | false => exact h
  | true =>
    rw [if_pos rfl]
    intro x hx
    rcases List.mem_or_eq_of_mem_set hx with hx | rfl
    · exact h x hx
    · unfold moN at hN
      rw [Bool.and_eq_true] at hN
      obtain ⟨h1, h2, h3, h4⟩ := isA_z hN.1
      obtain ⟨a, b⟩ := doE_range cs k g s
      refine ⟨by show n.toNat ≤ _; omega, a, b, fun e => ?_⟩
      have : n.toNat = 0 := e
      omega
theorem mt_back : ∀ (r pre : List Kn) (ls : Int), okK3 r → pre.length + r.length = 8 → ls ≤ pre.length → mtAll ls (pre ++ List.replicate r.length ((0, 0) : Kn)) (knF pre.length r) = some (pre ++ r)
  | [], pre, ls, _, _, _ => rfl
  | x :: r, pre, ls, h, h8, hl => by
    obtain ⟨a, b, c, d⟩ := h x (List.mem_cons_self ..)
    have hr : okK3 r := fun y hy => h y (List.mem_cons_of_mem _ hy)
    rw [List.length_cons] at h8
    have h8' : (pre ++ [x]).length + r.length = 8 := by simp; omega
    have hlen : (pre ++ [x]).length = pre.length + 1 := by simp
    show mtAll ls (pre ++ List.replicate (r.length + 1) ((0, 0) : Kn)) ((if 0 < x.1 then [((pre.length : Int), (x.1 : Int), x.2)] else []) ++ knF (pre.length + 1) r) = _
    by_cases h0 : 0 < x.1
    · rw [if_pos h0]
      show (if isA (pre.length : Int) (x.1 : Int) = true ∧ ls ≤ (pre.length : Int) ∧ wi x.2 0 999 = true then mtAll ((pre.length : Int) + 1) ((pre ++ List.replicate (r.length + 1) ((0, 0) : Kn)).set ((pre.length : Int)).toNat (((x.1 : Int)).toNat, x.2)) (knF (pre.length + 1) r) else none) = _
      have hA : isA (pre.length : Int) (x.1 : Int) = true := by
        unfold isA wi
        rw [decide_eq_true (show (0 : Int) ≤ (pre.length : Int) by omega), decide_eq_true (show (pre.length : Int) ≤ 7 by omega), decide_eq_true (show (1 : Int) ≤ (x.1 : Int) by omega), decide_eq_true (show (x.1 : Int) ≤ 1099511627776 by omega)]
        rfl
      have hW : wi x.2 0 999 = true := by
        unfold wi
        rw [decide_eq_true b, decide_eq_true c]
        rfl
      rw [if_pos ⟨hA, hl, hW⟩, Int.toNat_natCast, Int.toNat_natCast, List.set_append_right _ _ (Nat.le_refl _), Nat.sub_self, List.replicate_succ]
      have := mt_back r (pre ++ [x]) ((pre.length : Int) + 1) hr h8' (by rw [hlen]; omega)
      rw [hlen, List.append_assoc, List.append_assoc] at this
      exact this
    · rw [if_neg h0, List.nil_append, List.replicate_succ]
      have hx : x = ((0, 0) : Kn) := by
        have h1 : x.1 = 0 := by omega
        exact Prod.ext h1 (d h1)
      have := mt_back r (pre ++ [x]) ls hr h8' (by rw [hlen]; omega)
      rw [hlen, List.append_assoc, List.append_assoc, hx] at this
      rw [hx]
      exact this
/-- THERE AND BACK. -/
theorem load_moot {T : List C3} {cl : List Kn} (hT : (runC [] T).length = T.length) (h40 : T.length ≤ 40) (hK : okK3 cl) (h8 : cl.length = 8) : loadM (mootT T cl) = some (runC [] T, T, cl) ∧ (mootT T cl).length ≤ 1000000 ∧ ∀ x ∈ T, ok3 x := by
  obtain ⟨r1, r2⟩ := run_all T [] [] (by simpa using hT)
  have k3 := knF_ok cl 0 hK.two (by omega)
  have h1 := (flat3_small r2).1
  have h2 := flat3_len T
  have h3 := pack_len (flat3 T) (by omega)
  have g0 := knF_len cl 0
  have g1 := (flat3_small k3).1
  have g2 := flat3_len (knF 0 cl)
  have g3 := pack_len (flat3 (knF 0 cl)) (by omega)
  have e1 : (packT T).length ≤ 60 * T.length + 22 * (flat3 T).length := by unfold packT; omega
  have e2 : (packT (knF 0 cl)).length ≤ 60 * (knF 0 cl).length + 22 * (flat3 (knF 0 cl)).length := by unfold packT; omega
  have ht : tot [packT T, packT (knF 0 cl)] ≤ 20000 := by
    rw [tot_cons, tot_cons]
    have : tot [] = 0 := rfl
    omega
  have hm : ∀ t ∈ [packT T, packT (knF 0 cl)], t.length ≤ 1000000000 := fun t ht => by
    simp only [List.mem_cons, List.not_mem_nil, or_false] at ht
    rcases ht with rfl | rfl <;> omega
  refine ⟨?_, ?_, r2⟩
  · unfold loadM mootT
    rw [texts_pack _ hm]
    show (match (un3 (packT T)).bind (tkAll [] []) with | some r => ((un3 (packT (knF 0 cl))).bind (mtAll 0 zK)).map fun cl => (r.1, r.2, cl) | none => none) = _
    rw [un3_pack r2, un3_pack k3]
    show (match tkAll [] [] T with | some r => (mtAll 0 zK (knF 0 cl)).map fun cl => (r.1, r.2, cl) | none => none) = _
    rw [r1]
    have hb := mt_back cl [] 0 hK (by simpa using h8) (by simp)
    rw [h8, List.nil_append, List.nil_append] at hb
    have hz : List.replicate 8 ((0, 0) : Kn) = zK := rfl
    rw [hz] at hb
    show (mtAll 0 zK (knF ([] : List Kn).length cl)).map _ = _
    rw [hb]
    rfl
  · have := pack_len [packT T, packT (knF 0 cl)] (by omega)
    have hl : [packT T, packT (knF 0 cl)].length = 2 := rfl
    unfold mootT
    omega
end
section
open Go.RowKit
attribute [local go_sem ↓] Go.wp_at_zero Go.wp_at_succ

theorem MtAt.all {base : Nat} {w : World} {M B : Nat} {v u : Value} {L : List Rc} {T : List C3} {cl : List Kn} (h : MtAt base w M B v u L T cl) : (runC [] T).length = T.length ∧ T.length ≤ 40 := by
  refine ⟨?_, by rw [h.tl]; exact h.forty⟩
  rw [← h.run, cls_len, h.tl]
/-- Two moots of the same commands and clients, apart. -/
structure Tw (w : World) (M B : Nat) (v u : Value) (L : List Rc) (M2 B2 : Nat) (v2 u2 : Value) (L2 : List Rc) (T : List C3) (cl : List Kn) (wr : World) : Prop where
  a : MtAt w.heap.size wr M B v u L T cl
  b : MtAt w.heap.size wr M2 B2 v2 u2 L2 T cl
  c : cls L2 = cls L
  d : ∀ k, MOwn M B v u L k → ¬ MOwn M2 B2 v2 u2 L2 k
  bel : Below w.heap.size w wr
  k : okK3 cl
theorem Tw.next {w : World} {M B : Nat} {v u : Value} {L : List Rc} {M2 B2 : Nat} {v2 u2 : Value} {L2 : List Rc} {T : List C3} {cl : List Kn} {wr w' : World} (h : Tw w M B v u L M2 B2 v2 u2 L2 T cl wr) (hb : Below wr.heap.size wr w') : Tw w M B v u L M2 B2 v2 u2 L2 T cl w' :=
  ⟨h.a.next hb, h.b.next hb, h.c, h.d, h.bel.trans (hb.mono h.bel.size), h.k⟩
set_option maxRecDepth 20000 in
set_option maxHeartbeats 8000000 in
theorem mback_any (l1 l2 : List S5) (va vb : Value) (w : World) (ha : Ss w va l1) (hb : Ss w vb l2) (he : Env w) :
    Calls Tryz.prog 5 #[va, vb] w fun e W' => e = .returned (.bool true) ∧ Below w.heap.size w W' := by
  have hO := fun W => one_any W
  have hN := MNew_any w
  obtain ⟨a1, ac, rfl⟩ := ha.slice
  obtain ⟨b1, bc, rfl⟩ := hb.slice
  have HA : Hid (Ss w (.slice a1 l1.length ac) l1) := ha
  have HB : Hid (Ss w (.slice b1 l2.length bc) l2) := hb
  have HE : Hid (∀ W, Below w.heap.size w W → Env W) := fun W hb => he.next hb
  clear ha hb he
  by_cases hbig : 60 < l1.length
  · have hq : (60 : Int) < (l1.length : Int) := by omega
    go_enter Tryz.func5, Tryz.ntmps5
    go_wp2_with (first
      | (go_at_call 23; refine hN.mono ?_; rintro e w1 ⟨M, B, rfl, hM0, hb1⟩; clear hM0)
      | (go_at_call 18; refine (hO _).mono ?_; rintro e w5 ⟨rfl, hb5⟩; have hB5 := hb1.trans (hb5.mono hb1.size)))
    go_ret
    exact ⟨rfl, hB5⟩
  have hq : ¬ (60 : Int) < (l1.length : Int) := by omega
  by_cases hbig2 : 60 < l2.length
  · have hq2 : (60 : Int) < (l2.length : Int) := by omega
    go_enter Tryz.func5, Tryz.ntmps5
    go_wp2_with (first
      | (go_at_call 23; refine hN.mono ?_; rintro e w1 ⟨M, B, rfl, hM0, hb1⟩; clear hM0)
      | (go_at_call 18; refine (hO _).mono ?_; rintro e w5 ⟨rfl, hb5⟩; have hB5 := hb1.trans (hb5.mono hb1.size)))
    go_ret
    exact ⟨rfl, hB5⟩
  have hq2 : ¬ (60 : Int) < (l2.length : Int) := by omega
  have HLN : Hid (l1.length ≤ 60 ∧ l2.length ≤ 60) := ⟨by omega, by omega⟩
  clear hbig hbig2
  go_enter Tryz.func5, Tryz.ntmps5
  go_upto_region 2 with (first
    | (go_at_call 23; refine hN.mono ?_; rintro e w1 ⟨M, B, rfl, hM0, hb1⟩; have HR0 : Hid (MtAt w.heap.size w1 M B (.slice none 0 0) (.slice none 0 0) [] [] zK ∧ Below w.heap.size w w1) := ⟨hM0, hb1⟩; clear hM0 hb1))
  clear hN
  go_wp2_with fail
  clear hq hq2
  go_loopg [38] l1.length (fun gk i wr => ∃ (j : Nat) (vv ut : Value) (L : List Rc) (T : List C3) (cl : List Kn), j + gk = l1.length ∧ i = .int .i64 j ∧ MtAt w.heap.size wr M B vv ut L T cl ∧ Below w.heap.size w wr ∧ okK3 cl)
  case atStart => exact ⟨0, _, _, [], [], zK, by omega, rfl, HR0.out.1, HR0.out.2, okK3_zero⟩
  case round =>
    obtain ⟨j, vv, ut, L, T, cl, hj, rfl, hm, hB, hK⟩ := hrel
    clear HR0
    by_cases hlt : j < l1.length
    · obtain ⟨x, hx⟩ : ∃ x, l1[j]? = some x := ⟨_, List.getElem?_eq_getElem hlt⟩
      obtain ⟨c1, n1, k1, g1, s1⟩ := x
      obtain ⟨cb, co, hva, y0, y1, y2, y3, y4⟩ := (HA.out.next hB).at hx
      subst hva
      have hbA := (Below.refl wr.heap.size wr).alloc (Nat.le_refl _) (.cells #[.int .i64 c1, .int .i64 n1, .int .i64 k1, .int .i64 g1, .int .i64 s1] 61)
      have hmA := hm.next hbA
      have hBA := hB.trans (hbA.mono hB.size)
      have rD := heap_alloc_new wr (.cells #[.int .i64 c1, .int .i64 n1, .int .i64 k1, .int .i64 g1, .int .i64 s1] 61)
      obtain ⟨⟨a, b, E⟩, hr⟩ : ∃ r, moR (cls L) cl c1 n1 k1 g1 s1 = r := ⟨_, rfl⟩
      have hDo := MDo_told hmA rfl hr
      obtain ⟨WA, hWA⟩ : ∃ W, wr.alloc (.cells #[.int .i64 c1, .int .i64 n1, .int .i64 k1, .int .i64 g1, .int .i64 s1] 61) = W := ⟨_, rfl⟩
      rw [hWA] at rD hmA hDo hBA
      obtain ⟨D, hD⟩ : ∃ D, wr.heap.size = D := ⟨_, rfl⟩
      rw [hD] at rD
      have HV : Hid (wr.alloc (.cells #[.int .i64 c1, .int .i64 n1, .int .i64 k1, .int .i64 g1, .int .i64 s1] 61) = WA) := hWA
      have HD : Hid (wr.heap.size = D) := hD
      have f0 := cellB rD 0 _ rfl
      have f1 := cellB rD 1 _ rfl
      have f2 := cellB rD 2 _ rfl
      have f3 := cellB rD 3 _ rfl
      have f4 := cellB rD 4 _ rfl
      have HM : Hid (MtAt w.heap.size WA M B vv ut L T cl ∧ Below w.heap.size w WA ∧ okK3 cl) := ⟨hmA, hBA, hK⟩
      have j0 : (0 : Int) ≤ (j : Int) := by omega
      have j1 : (j : Int) < (l1.length : Int) := by omega
      have hj9 : j ≤ 60 := by have := HLN.out.1; omega
      clear hx hm hB hK hbA hmA hBA rD hWA hD hr
      go_upto_region 7 with fail
      rw [HV.out, HD.out]
      clear HV y0 y1 y2 y3 y4 HD
      go_wp2_with (first
        | (go_at_call 24; refine hDo.mono ?_; clear hDo; rintro e w2 ⟨rfl, v3, u3, L3, T3, t0, d1, d2, d3⟩; have H2 : Hid (MtAt w.heap.size w2 M B v3 u3 L3 T3 (moC (cls L) cl c1 n1 k1 g1 s1) ∧ Below w.heap.size w w2) := ⟨d2, d3.below HM.out.1 HM.out.2.1⟩; clear t0 d1 d2 d3))
      go_roundg (l1.length - (j + 1))
      case measure => omega
      case rel => exact ⟨j + 1, v3, u3, L3, T3, moC (cls L) cl c1 n1 k1 g1 s1, by omega, by go_num, H2.out.1, H2.out.2, okK3_do HM.out.2.2 _ _ _ _ _ _⟩
    · have hkl : j = l1.length := by omega
      subst hkl
      obtain ⟨hr1, hr2⟩ := hm.all
      obtain ⟨g1, g2, g3⟩ := load_moot hr1 hr2 hK hm.len
      have hTx := MText_any w.heap.size M B vv ut L T cl wr hm g3 hK.two ⟨(HE.out wr hB).pow, (HE.out wr hB).size⟩
      have HM : Hid (MtAt w.heap.size wr M B vv ut L T cl ∧ Below w.heap.size w wr ∧ okK3 cl) := ⟨hm, hB, hK⟩
      have HLd : Hid (∀ W, Below w.heap.size w W → Calls Tryz.prog 19 #[.string (bs (mootT T cl))] W fun e W' => ∃ M2 B2 v2 u2 L2, e = .returned (.tuple #[.pointer (some ⟨M2, 0, none⟩), .int .i64 0]) ∧ cls L2 = runC [] T ∧ MtAt W.heap.size W' M2 B2 v2 u2 L2 T cl ∧ Below W.heap.size W W') := fun W hW => by
        refine (MLoad_any (mootT T cl) W g2 (HE.out W hW)).mono ?_
        rintro e W' ⟨p, E, rfl, hp, hb⟩
        unfold MLd at hp
        rw [g1] at hp
        obtain ⟨rfl, M2, B2, v2, u2, L2, rfl, q1, q2⟩ := hp
        exact ⟨M2, B2, v2, u2, L2, rfl, q1, q2, hb⟩
      obtain ⟨Z, hZ⟩ : ∃ Z, mootT T cl = Z := ⟨_, rfl⟩
      rw [hZ] at hTx HLd
      obtain ⟨ws, rfl⟩ : ∃ ws, ws = wr := ⟨_, rfl⟩
      clear hm hB hK hr1 hr2 g1 g2 g3 hZ hj hlt
      go_upto_region 10 with (first
        | (go_at_call 21; refine hTx.mono ?_; clear hTx; rintro e w2 ⟨rfl, hb2⟩; have HB2 : Hid (Below ws.heap.size ws w2) := hb2; clear hb2)
        | (go_at_call 19; refine (HLd.out w2 (HM.out.2.1.trans (HB2.out.mono HM.out.2.1.size))).mono ?_; clear HLd; rintro e w3 ⟨M2, B2, v2, u2, L2, rfl, q1, q2, q3⟩; have H3 : Hid (cls L2 = runC [] T ∧ MtAt w2.heap.size w3 M2 B2 v2 u2 L2 T cl ∧ Below w2.heap.size w2 w3) := ⟨q1, q2, q3⟩; clear q1 q2 q3))
      have HTW : Hid (Tw w M B vv ut L M2 B2 v2 u2 L2 T cl w3) := by
        obtain ⟨hm, hB, hK⟩ := HM.out
        obtain ⟨q1, q2, q3⟩ := H3.out
        have hb23 := HB2.out.trans (q3.mono HB2.out.size)
        refine ⟨hm.next hb23, q2.low' (Nat.le_trans hB.size HB2.out.size), by rw [q1, hm.run], fun k h1 h2 => ?_, hB.trans (hb23.mono hB.size), hK⟩
        have := (hm.own_lt h1).2
        have := (q2.own_lt h2).1
        have := HB2.out.size
        omega
      clear H3 HM HB2
      go_wp2_with fail
      go_loopg [65] l2.length (fun gk i wr => ∃ (j : Nat) (vv ut : Value) (L : List Rc) (v2 u2 : Value) (L2 : List Rc) (T : List C3) (cl : List Kn), j + gk = l2.length ∧ i = .int .i64 j ∧ Tw w M B vv ut L M2 B2 v2 u2 L2 T cl wr)
      case atStart => exact ⟨0, _, _, _, _, _, _, _, _, by omega, rfl, HTW.out⟩
      case round =>
        clear HTW
        obtain ⟨j, vv, ut, L, v2, u2, L2, T, cl, hj, rfl, hTw⟩ := hrel
        by_cases hlt : j < l2.length
        · obtain ⟨x, hx⟩ : ∃ x, l2[j]? = some x := ⟨_, List.getElem?_eq_getElem hlt⟩
          obtain ⟨c1, n1, k1, g1, s1⟩ := x
          obtain ⟨cb, co, hva, y0, y1, y2, y3, y4⟩ := (HB.out.next hTw.bel).at hx
          subst hva
          have hbA := (Below.refl wr.heap.size wr).alloc (Nat.le_refl _) (.cells #[.int .i64 c1, .int .i64 n1, .int .i64 k1, .int .i64 g1, .int .i64 s1] 61)
          have hTA := hTw.next hbA
          have rD := heap_alloc_new wr (.cells #[.int .i64 c1, .int .i64 n1, .int .i64 k1, .int .i64 g1, .int .i64 s1] 61)
          obtain ⟨⟨a, b, E⟩, hr⟩ : ∃ r, moR (cls L) cl c1 n1 k1 g1 s1 = r := ⟨_, rfl⟩
          have hDo := MDo_told hTA.a rfl hr
          have hDs : wr.heap.size < (wr.alloc (.cells #[.int .i64 c1, .int .i64 n1, .int .i64 k1, .int .i64 g1, .int .i64 s1] 61)).heap.size := by simp
          obtain ⟨WA, hWA⟩ : ∃ W, wr.alloc (.cells #[.int .i64 c1, .int .i64 n1, .int .i64 k1, .int .i64 g1, .int .i64 s1] 61) = W := ⟨_, rfl⟩
          rw [hWA] at rD hTA hDo hDs
          have hn1 : ¬ MOwn M B vv ut L wr.heap.size := fun e => by have := (hTw.a.own_lt e).2; omega
          have hn2 : ¬ MOwn M2 B2 v2 u2 L2 wr.heap.size := fun e => by have := (hTw.b.own_lt e).2; omega
          obtain ⟨D, hD⟩ : ∃ D, wr.heap.size = D := ⟨_, rfl⟩
          rw [hD] at rD hn1 hn2 hDs
          have HV : Hid (wr.alloc (.cells #[.int .i64 c1, .int .i64 n1, .int .i64 k1, .int .i64 g1, .int .i64 s1] 61) = WA) := hWA
          have HD : Hid (wr.heap.size = D) := hD
          have f0 := cellB rD 0 _ rfl
          have f1 := cellB rD 1 _ rfl
          have f2 := cellB rD 2 _ rfl
          have f3 := cellB rD 3 _ rfl
          have f4 := cellB rD 4 _ rfl
          have HTA : Hid (Tw w M B vv ut L M2 B2 v2 u2 L2 T cl WA) := hTA
          have HRD : Hid (WA.heap[D]? = some (.cells #[.int .i64 c1, .int .i64 n1, .int .i64 k1, .int .i64 g1, .int .i64 s1] 61) ∧ ¬ MOwn M B vv ut L D ∧ ¬ MOwn M2 B2 v2 u2 L2 D ∧ D < WA.heap.size) := ⟨rD, hn1, hn2, hDs⟩
          have HRR : Hid (moR (cls L) cl c1 n1 k1 g1 s1 = (a, b, E)) := hr
          have j0 : (0 : Int) ≤ (j : Int) := by omega
          have j1 : (j : Int) < (l2.length : Int) := by omega
          have hj9 : j ≤ 60 := by have := HLN.out.2; omega
          clear hx hTw hbA hTA rD hn1 hn2 hDs hWA hD hr
          go_upto_region 15 with fail
          rw [HV.out, HD.out]
          clear HV y0 y1 y2 y3 y4 HD
          go_upto_region 16 with (first
            | (go_at_call 24; refine hDo.mono ?_; clear hDo; rintro e wa ⟨rfl, v3, u3, L3, T3, t0, d1, d2, d3⟩; have H2 : Hid (T3 = moT (cls L) T cl c1 n1 k1 g1 s1 ∧ cls L3 = moL (cls L) cl c1 n1 k1 g1 s1 ∧ MtAt w.heap.size wa M B v3 u3 L3 T3 (moC (cls L) cl c1 n1 k1 g1 s1) ∧ MK M B vv ut L v3 u3 L3 WA wa) := ⟨t0, d1, d2, d3⟩; clear t0 d1 d2 d3))
          clear f0 f1 f2 f3 f4
          obtain ⟨t0, d1, d2, d3⟩ := H2.out
          have hTA := HTA.out
          have rD2 := (d3.block D HRD.out.2.2.2 HRD.out.2.1).trans HRD.out.1
          have hb2 : MtAt w.heap.size wa M2 B2 v2 u2 L2 T cl := hTA.b.kept d3.size (fun k hk => d3.block k (hTA.b.own_lt hk).2 (fun ho => hTA.d k ho hk))
          have hDo2 := MDo_told hb2 rfl (show moR (cls L2) cl c1 n1 k1 g1 s1 = (a, b, E) by rw [hTA.c]; exact HRR.out)
          have f0 := cellB rD2 0 _ rfl
          have f1 := cellB rD2 1 _ rfl
          have f2 := cellB rD2 2 _ rfl
          have f3 := cellB rD2 3 _ rfl
          have f4 := cellB rD2 4 _ rfl
          clear t0 d1 d2 d3 hTA rD2
          have HB2 : Hid (MtAt w.heap.size wa M2 B2 v2 u2 L2 T cl) := hb2
          clear hb2
          go_upto_region 17 with (first
            | (go_at_call 24; refine hDo2.mono ?_; clear hDo2; rintro e wb ⟨rfl, v4, u4, L4, T4, t0, d1, d2, d3⟩; have H4 : Hid (T4 = moT (cls L2) T cl c1 n1 k1 g1 s1 ∧ cls L4 = moL (cls L2) cl c1 n1 k1 g1 s1 ∧ MtAt w.heap.size wb M2 B2 v4 u4 L4 T4 (moC (cls L2) cl c1 n1 k1 g1 s1) ∧ MK M2 B2 v2 u2 L2 v4 u4 L4 wa wb) := ⟨t0, d1, d2, d3⟩; clear t0 d1 d2 d3))
          clear f0 f1 f2 f3 f4
          have HTW : Hid (Tw w M B v3 u3 L3 M2 B2 v4 u4 L4 T3 (moC (cls L) cl c1 n1 k1 g1 s1) wb) := by
            obtain ⟨t0, d1, d2, d3⟩ := H2.out
            obtain ⟨r0, e1, e2, e3⟩ := H4.out
            have hTA := HTA.out
            rw [hTA.c] at r0 e1 e2
            have hT : T4 = T3 := r0.trans t0.symm
            subst hT
            have hd1 : ∀ k, MOwn M B v3 u3 L3 k → ¬ MOwn M2 B2 v2 u2 L2 k := fun k h1 h2 => (d3.new k h1).elim (fun q => hTA.d k q h2) (fun q => by have := (hTA.b.own_lt h2).2; omega)
            have hba := d3.below hTA.a hTA.bel
            refine ⟨d2.kept e3.size (fun k hk => e3.block k (d2.own_lt hk).2 (hd1 k hk)), e2, by rw [e1, d1], fun k h1 h2 => (e3.new k h2).elim (hd1 k h1) (fun q => by have := (d2.own_lt h1).2; omega), e3.below HB2.out hba, okK3_do hTA.k _ _ _ _ _ _⟩
          obtain ⟨CL, hCL⟩ : ∃ CL, moC (cls L) cl c1 n1 k1 g1 s1 = CL := ⟨_, rfl⟩
          rw [hCL] at HTW
          clear H2 H4 HB2 HTA HRD HRR hCL
          have hTw := HTW.out
          obtain ⟨hr1, hr2⟩ := hTw.a.all
          obtain ⟨_, _, g3⟩ := load_moot hr1 hr2 hTw.k hTw.a.len
          have heb := HE.out wb hTw.bel
          have hT1 := MText_any w.heap.size M B v3 u3 L3 T3 CL wb hTw.a g3 hTw.k.two ⟨heb.pow, heb.size⟩
          have HT2 : Hid (∀ W, Below wb.heap.size wb W → Calls Tryz.prog 21 #[.pointer (some ⟨M2, 0, none⟩)] W fun e W' => e = .returned (.string (bs (mootT T3 CL))) ∧ Below W.heap.size W W') := fun W hW => MText_any w.heap.size M2 B2 v4 u4 L4 T3 CL W (hTw.b.next hW) g3 hTw.k.two ⟨(heb.next hW).pow, (heb.next hW).size⟩
          obtain ⟨m, hm⟩ : ∃ m, L3.length = m := ⟨_, rfl⟩
          have hm4 : L4.length = m := by rw [← cls_len L4, hTw.c, cls_len, hm]
          have HL1 : Hid (∀ W, Below wb.heap.size wb W → Calls Tryz.prog 25 #[.pointer (some ⟨M, 0, none⟩)] W fun e W' => ∃ qa qn qc p q r t, e = .returned (.agg (cf (m : Int) (.slice qa qn qc) p q r t)) ∧ Below W.heap.size W W') := fun W hW => by
            refine (MLast_any w.heap.size M B v3 u3 L3 T3 CL W (hTw.a.next hW)).mono ?_
            rintro e W' ⟨x, rfl, u, p, q, r, t, i1, rfl, i3, i4, i5⟩
            obtain ⟨qa, qc, rfl⟩ := i3.slice
            exact ⟨_, _, _, _, _, _, _, by rw [hm], i5⟩
          have HL2 : Hid (∀ W, Below wb.heap.size wb W → Calls Tryz.prog 25 #[.pointer (some ⟨M2, 0, none⟩)] W fun e W' => ∃ qa qn qc p q r t, e = .returned (.agg (cf (m : Int) (.slice qa qn qc) p q r t)) ∧ Below W.heap.size W W') := fun W hW => by
            refine (MLast_any w.heap.size M2 B2 v4 u4 L4 T3 CL W (hTw.b.next hW)).mono ?_
            rintro e W' ⟨x, rfl, u, p, q, r, t, i1, rfl, i3, i4, i5⟩
            obtain ⟨qa, qc, rfl⟩ := i3.slice
            exact ⟨_, _, _, _, _, _, _, by rw [hm4], i5⟩
          obtain ⟨Z2, hZ⟩ : ∃ Z, mootT T3 CL = Z := ⟨_, rfl⟩
          rw [hZ] at hT1 HT2
          have z3 : ∀ qa qn qc p q r t W, (Instr.field 25 (.agg (cf (m : Int) (.slice qa qn qc) p q r t)) 0).run Tryz.prog W = .ok (.int .i64 (m : Int)) W := fun qa qn qc p q r t W => fld0 m _ p q r t W
          clear hTw hr1 hr2 g3 heb hZ hm hm4
          go_wp2_with (first
            | (go_at_call 21; have hg := H21.out; refine (HT2.out _ hg).mono ?_; rintro e w22 ⟨rfl, hb22⟩; have H22 : Hid (Below wb.heap.size wb w22) := hg.trans (hb22.mono hg.size); clear hb22 hg)
            | (go_at_call 21; refine hT1.mono ?_; clear hT1; rintro e w21 ⟨rfl, hb21⟩; have H21 : Hid (Below wb.heap.size wb w21) := hb21; clear hb21)
            | (go_at_call 25; have hg := H25.out; refine (HL2.out _ hg).mono ?_; rintro e w26 ⟨ra, rn, rc, rp, rq, rr, rt, rfl, hb26⟩; have H26 : Hid (Below wb.heap.size wb w26) := hg.trans (hb26.mono hg.size); clear hb26 hg)
            | (go_at_call 25; have hg := H22.out; refine (HL1.out _ hg).mono ?_; rintro e w25 ⟨qa, qn, qc, p, q, r, t, rfl, hb25⟩; have H25 : Hid (Below wb.heap.size wb w25) := hg.trans (hb25.mono hg.size); clear hb25 hg))
          go_roundg (l2.length - (j + 1))
          case measure => omega
          case rel => exact ⟨j + 1, _, _, _, _, _, _, _, _, by omega, by go_num, HTW.out.next H26.out⟩
        · have hkl : j = l2.length := by omega
          subst hkl
          have hO1 := hO wr
          have hbel := hTw.bel
          clear hTw
          go_wp2_with (first
            | (go_at_call 18; refine hO1.mono ?_; rintro e w5 ⟨rfl, hb5⟩; have hB5 := hbel.trans (hb5.mono hbel.size)))
          go_ret
          exact ⟨rfl, hB5⟩
end
section
open Go.ChangeShapes Go.WideShapes Go.ChangeAt Go.RowKit Go.Deep

theorem Tryz.cells61 : Tryz.prog.cellsOf 61 = 5 := by kernel_rfl
theorem Tryz.cells59 : Tryz.prog.cellsOf 59 = 3 := by kernel_rfl
theorem Tryz.cells3b : Tryz.prog.cellsOf 3 = 1 := by kernel_rfl
theorem list3b {cs : List Value} (h : cs.length = 3) : ∃ c0 c1 c2, cs = [c0, c1, c2] := by
  match cs, h with
  | [c0, c1, c2], _ => exact ⟨c0, c1, c2, rfl⟩
theorem list5b {cs : List Value} (h : cs.length = 5) : ∃ c0 c1 c2 c3 c4, cs = [c0, c1, c2, c3, c4] := by
  match cs, h with
  | [c0, c1, c2, c3, c4], _ => exact ⟨c0, c1, c2, c3, c4, rfl⟩
set_option maxRecDepth 100000 in
theorem open_cmd_cells {H : Type} {enc : TypeId × Value → H} {W : World} {fuel : Nat} {cs : List Value} {y : DataW H × List MemPlace} (h : DataW.trod enc Tryz.prog W 0 (fun _ => true) true fuel 59 cs = some y) : ∃ x : C3, cs = c3s x := by
  obtain ⟨xs, n, _, rfl, hl, hlen, hf⟩ := DataW.trod_struct Tryz.underlying59 h
  rw [Tryz.cells59] at hl
  obtain ⟨c0, c1, c2, rfl⟩ := list3b hl
  obtain ⟨y0, y1, y2, rfl⟩ : ∃ y0 y1 y2, xs = [y0, y1, y2] := by
    have h3 : xs.length = 3 := by simpa using hlen
    match xs, h3 with
    | [y0, y1, y2], _ => exact ⟨y0, y1, y2, rfl⟩
  have h0 := hf 0 _ rfl
  have h1 := hf 1 _ rfl
  have h2 := hf 2 _ rfl
  simp [Tryz.cells3b] at h0 h1 h2
  obtain ⟨a0, e0, _, _⟩ := DataW.trod_int Tryz.underlying3 h0
  obtain ⟨a1, e1, _, _⟩ := DataW.trod_int Tryz.underlying3 h1
  obtain ⟨a2, e2, _, _⟩ := DataW.trod_int Tryz.underlying3 h2
  simp at e0 e1 e2
  subst e0 e1 e2
  exact ⟨(a0, a1, a2), rfl⟩
set_option maxRecDepth 100000 in
theorem open_step_cells {H : Type} {enc : TypeId × Value → H} {W : World} {fuel : Nat} {cs : List Value} {y : DataW H × List MemPlace} (h : DataW.trod enc Tryz.prog W 0 (fun _ => true) true fuel 61 cs = some y) : ∃ x : S5, cs = s5s x := by
  obtain ⟨xs, n, _, rfl, hl, hlen, hf⟩ := DataW.trod_struct Tryz.underlying61 h
  rw [Tryz.cells61] at hl
  obtain ⟨c0, c1, c2, c3, c4, rfl⟩ := list5b hl
  obtain ⟨y0, y1, y2, rfl⟩ : ∃ y0 y1 y2, xs = [y0, y1, y2] := by
    have h3 : xs.length = 3 := by simpa using hlen
    match xs, h3 with
    | [y0, y1, y2], _ => exact ⟨y0, y1, y2, rfl⟩
  have h0 := hf 0 _ rfl
  have h1 := hf 1 _ rfl
  have h2 := hf 2 _ rfl
  simp [Tryz.cells3b, Tryz.cells59] at h0 h1 h2
  obtain ⟨a0, e0, _, _⟩ := DataW.trod_int Tryz.underlying3 h0
  obtain ⟨a1, e1, _, _⟩ := DataW.trod_int Tryz.underlying3 h1
  obtain ⟨⟨k, g, s⟩, e2⟩ := open_cmd_cells h2
  simp [c3s] at e0 e1 e2
  obtain ⟨e2, e3, e4⟩ := e2
  subst e0 e1 e2 e3 e4
  exact ⟨(a0, a1, k, g, s), rfl⟩
set_option maxRecDepth 100000 in
theorem open_steps {H : Type} {enc : TypeId × Value → H} {W : World} {base : Nat} {v : Value} {d : DataW H} {p : List MemPlace} (hval : Value.okWide Tryz.prog W .any base 56 v) (hh : DataW.Trod enc Tryz.prog W 0 (fun _ => true) true 56 v d p) : ∃ l : List S5, Ss W v l := by
  obtain ⟨a0, len0, cap0, rfl⟩ := okWide_slice (show Tryz.prog.underlying 56 = some (.slice 61) by kernel_rfl) hval
  obtain ⟨fuel, h⟩ := hh
  rcases open_slice (show Tryz.prog.underlying 56 = some (.slice 61) by kernel_rfl) h with ⟨hcs, _⟩ | ⟨x, len, cap, m, n, D, Pl, hcs, _, hl, hm, hmm, hdd, hx⟩
  · simp [Value.cells] at hcs
    obtain ⟨rfl, rfl, rfl⟩ := hcs
    exact ⟨[], .inl ⟨rfl, none, 0, rfl⟩⟩
  · simp [Value.cells] at hcs
    obtain ⟨rfl, rfl, rfl⟩ := hcs
    have hmc : m = cap0 := by simpa using hmm
    subst hmc
    by_cases h0 : len0 = 0
    · subst h0; exact ⟨[], .inl ⟨rfl, _, _, rfl⟩⟩
    · have each : ∀ i, i < m → ∃ s : S5, ∀ k u, (s5s s)[k]? = some u → W.cell? (x.add (i * 5 + k)) = some u := by
        intro i hi
        obtain ⟨cs', h1, h2⟩ := hx i hi
        rw [Tryz.cells61] at h1
        obtain ⟨_, hlen, hcell⟩ := World.cells?_some h1
        obtain ⟨s, e1⟩ := open_step_cells h2
        refine ⟨s, fun k u hu => ?_⟩
        have hk : k < 5 := by
          have := (List.getElem?_eq_some_iff.1 hu).1
          simpa [s5s] using this
        have := hcell k hk
        rw [Addr.add_add] at this
        rw [this, e1]
        exact hu
      obtain ⟨b, off, spot⟩ := x
      obtain ⟨s0, hc0⟩ := each 0 (by omega)
      have hc00 := hc0 0 _ rfl
      have hspot : spot = none := by simpa [Addr.add] using World.cell?_spot hc00
      subst hspot
      have hbb : b < W.heap.size := by simpa [Addr.add] using World.block_lt_of_cell? W _ hc00
      obtain ⟨f, hf⟩ : ∃ f : Nat → S5, ∀ i, i < m → ∀ k u, (s5s (f i))[k]? = some u → W.cell? ((⟨b, off, none⟩ : Addr).add (i * 5 + k)) = some u :=
        ⟨fun i => if h : i < m then (each i h).choose else (0, 0, 0, 0, 0), fun i hi => by simp only [dif_pos hi]; exact (each i hi).choose_spec⟩
      refine ⟨(List.range len0).map f, .inr ⟨b, off, m, by simp, hbb, fun i s hs => ?_⟩⟩
      have hi : i < len0 := by have := (List.getElem?_eq_some_iff.1 hs).1; simpa using this
      rw [List.getElem?_map, List.getElem?_range hi] at hs
      simp at hs
      subst hs
      intro k u hu
      have := hf i (by omega) k u hu
      rw [Addr.add_mid] at this
      rw [Nat.add_assoc]
      exact this
end
end Go.Proofs.YtfolnlgceighbaaGreatDoor
