import Derived.Test.YtifalaigfinciaaDoorSiH
import Derived.Deep.DeepCutAuto
/- A region that draws its order, and whose last operation waits for all others: what is held of the world need not be held behind it. -/
namespace Go.Proofs.YtifalaigfinciaaDoor
open Go.RowKit

section
variable {P : Program} {md : Region.Mode} {ops : Array Oper} {Q : Exit → Act → World → Prop} {z : Nat} {S : World → Prop}
/-- Whatever order is picked; S holds behind every operation but number z. -/
def anyZ (P : Program) (md : Region.Mode) (ops : Array Oper) (Q : Exit → Act → World → Prop) (z : Nat) (S : World → Prop) : Nat → Array Bool → Act → World → Prop
  | 0, listed, a, w => Region.ready md ops listed = [] ∧ Q .normal a w
  | fuel + 1, listed, a, w => (Region.ready md ops listed = [] → Q .normal a w) ∧ ∀ j ∈ Region.ready md ops listed, wpOp P ops Q j (fun a' w' => (j ≠ z → S w') ∧ anyZ P md ops Q z S fuel (listed.setIfInBounds j true) a' w') a w
theorem any_of_Z : ∀ (fuel : Nat) (listed : Array Bool) (a : Act) (w : World), anyZ P md ops Q z S fuel listed a w → wpAny P md ops Q fuel listed a w
  | 0, _, _, _, h => h
  | fuel + 1, _, _, _, h => ⟨h.1, fun i hi => wpOp_mono (fun a' w' h' => any_of_Z fuel _ a' w' h'.2) (h.2 i hi)⟩
/-- Does number z wait for number i? -/
def waitsFor (md : Region.Mode) (ops : Array Oper) (z i : Nat) : Bool := ((ops[z]?).map fun o => o.after.any fun e => Region.binds md e && e.on == i).getD false
theorem not_ready {i : Nat} {listed : Array Bool} (hz : waitsFor md ops z i = true) (hi : i ∈ Region.ready md ops listed) : z ∉ Region.ready md ops listed := by
  intro hz2
  obtain ⟨_, o, ho, hall⟩ := mem_ready.1 hz2
  have h0 := (mem_ready.1 hi).1
  simp only [waitsFor, ho, Option.map_some, Option.getD_some, Array.any_eq_true, Bool.and_eq_true, beq_iff_eq] at hz
  obtain ⟨k, hk, hb, he⟩ := hz
  have h1 := hall _ (Array.getElem_mem hk) hb
  rw [he] at h1
  rcases Nat.lt_or_ge i listed.size with h' | h'
  · simp [h'] at h0 h1; rw [h0] at h1; cases h1
  · simp [Array.getElem?_eq_none h'] at h1
theorem Z_first {i : Nat} {oi : Oper} {v : Value} (hi : ops[i]? = some oi) (hsel : ∀ (j : Nat) (o : Oper) cs b, ops[j]? = some o → o.op ≠ .select cs b) (hz : waitsFor md ops z i = true)
    (hQ : ∀ c a w, Q (.panic c) (a.put oi.dst v) w → Q (.panic c) a w) :
    ∀ (fuel : Nat) (listed : Array Bool) (a : Act) (w : World),
      (∀ j oj, ops[j]? = some oj → j ≠ i → listed.getD j true = false → (∀ e ∈ oj.after, Region.binds md e = true → e.on ≠ i) → oi.apart ops oj = true) →
      i ∈ Region.ready md ops listed → YieldsIf P ops S oi v a → S w →
      anyZ P md ops Q z S fuel (listed.setIfInBounds i true) (a.put oi.dst v) w → anyZ P md ops Q z S (fuel + 1) listed a w
  | 0, listed, a, w, _, hr, hy, hS, H => by
    refine ⟨fun h => (by rw [h] at hr; cases hr), fun j hj => ?_⟩
    by_cases hji : j = i
    · subst hji; exact hy.wpOp hi hS ⟨fun _ => hS, H⟩
    · have := ready_mono hj hji
      rw [H.1] at this
      cases this
  | fuel + 1, listed, a, w, hfree, hr, hy, hS, H => by
    refine ⟨fun h => (by rw [h] at hr; cases hr), fun j hj => ?_⟩
    by_cases hji : j = i
    · subst hji; exact hy.wpOp hi hS ⟨fun _ => hS, H⟩
    have hjz : j ≠ z := fun e => not_ready hz hr (e ▸ hj)
    obtain ⟨hjun, oj, hoj, hall⟩ := mem_ready.1 hj
    have hnot : ∀ e ∈ oj.after, Region.binds md e = true → e.on ≠ i := fun e he hb heq => by
      have h1 := hall e he hb
      have h0 := (mem_ready.1 hr).1
      rw [heq] at h1
      rcases Nat.lt_or_ge i listed.size with h' | h'
      · simp [h'] at h0 h1; rw [h0] at h1; cases h1
      · simp [Array.getElem?_eq_none h'] at h1
    refine wpOp_mono (fun a' w' h3 => ?_) (wpOp_putIf hoj (hfree j oj hoj hji hjun hnot) (fun cs b => hsel i oi cs b hi) (fun cs b => hsel j oj cs b hoj) hQ hy (H.2 j (ready_mono hj hji)))
    have hS' := h3.2.1 hjz
    refine ⟨fun _ => hS', Z_first hi hsel hz hQ fuel (listed.setIfInBounds j true) a' w' (fun k ok hk hki hun hno => hfree k ok hk hki ?_ hno) (ready_mono hr (Ne.symm hji)) h3.1 hS' ?_⟩
    · by_cases hjk : j = k
      · subst hjk; exact hjun
      · rw [getD_set_ne true hjk] at hun; exact hun
    · rw [Array.setIfInBounds_comm _ _ hji]
      exact h3.2.2
theorem Z_take {i : Nat} {oi : Oper} {v : Value} {fuel : Nat} {listed : Array Bool} {a : Act} {w : World} (hi : ops[i]? = some oi)
    (hs : Region.noSelect ops = true) (hf : Region.free md ops listed i = true) (hr : (Region.ready md ops listed).contains i = true) (hz : waitsFor md ops z i = true)
    (hQ : ∀ c a w, Q (.panic c) (a.put oi.dst v) w → Q (.panic c) a w) (hw : Region.wanted oi (yielded ops a.tmps) = true) (hS : S w) (hy : ∀ w, S w → (execOp a.eval oi).run P w = .ok (.value v) w)
    (h : anyZ P md ops Q z S fuel (listed.setIfInBounds i true) (a.put oi.dst v) w) : anyZ P md ops Q z S (fuel + 1) listed a w :=
  Z_first hi (Region.noSelect_spec hs) hz hQ fuel listed a w (Region.free_spec hi hf) (by simpa using hr) (.inl ⟨hw, hy⟩) hS h
theorem Z_step {i : Nat} {o : Oper} {fuel : Nat} {listed : Array Bool} {a : Act} {w : World} (hr : Region.ready md ops listed = [i]) (ho : ops[i]? = some o)
    (h : ∀ K' : Act → World → Prop, (∀ a w, (i ≠ z → S w) → anyZ P md ops Q z S fuel (listed.setIfInBounds i true) a w → K' a w) → if Region.wanted o (yielded ops a.tmps) = true then Oper.wp P o a w K' Q else K' (a.put o.dst undef) w) : anyZ P md ops Q z S (fuel + 1) listed a w := by
  refine ⟨fun h0 => (by rw [hr] at h0; cases h0), fun j hj => ?_⟩
  rw [hr, List.mem_singleton] at hj
  subst hj
  exact wpOp_step ho fun K' hK => h K' fun a w h1 h2 => hK a w ⟨h1, h2⟩
theorem Z_done {listed : Array Bool} {a : Act} {w : World} (hr : Region.ready md ops listed = []) (h : Q .normal a w) : ∀ fuel, anyZ P md ops Q z S fuel listed a w
  | 0 => ⟨hr, h⟩
  | _ + 1 => ⟨fun _ => h, by rw [hr]; simp⟩
end
theorem region_Z {P : Program} {ops : Array Oper} {Q : Exit → Act → World → Prop} (z : Nat) (S : World → Prop) {id : Nat} {a : Act} {w : World} (hm : P.follows .mixedOrders = true)
    (h : anyZ P .any ops Q z S ops.size (Array.replicate ops.size false) a w.drew) : (Code.region id ops true).wp P Q a w :=
  wp_region_any hm (any_of_Z _ _ _ _ h)
end Go.Proofs.YtifalaigfinciaaDoor
/- A change carried over into the document's own: walked. -/
namespace Go.Proofs.YtifalaigfinciaaDoor
open Go.RowKit
attribute [local go_sem ↓] Go.wp_at_zero Go.wp_at_succ

def z40 : Obj := .cells #[.int .i64 0, .int .i64 0, .string ⟨#[]⟩, .int .i64 0, .slice none 0 0, .slice none 0 0] 40
set_option maxRecDepth 20000 in
set_option maxHeartbeats 2000000 in
theorem refs_any (c : Bq) (l : List Bq) (mu bu : Value) (w : World) (hcT : c.T.length ≤ 1000) (hlT : ∀ b ∈ l, b.T.length ≤ 1000) (hll : l.length ≤ 1000) (hm : Tl w mu c.T) (hb : Ml w.heap.size w bu l) :
    Calls Tryd.prog 10 #[.agg #[.int .i64 c.n, .int .i64 c.v, .string (bs c.x), .int .i64 c.g, mu, bu]] w fun e W' => ∃ mv bv, e = .returned (.agg #[.int .i64 c.n, .int .i64 c.v, .string (bs c.x), .int .i64 c.g, mv, bv]) ∧ Tl W' mv c.T ∧ Ml W'.heap.size W' bv l ∧ Below w.heap.size w W' := by
  obtain ⟨ma, mc, rfl⟩ := hm.slice
  obtain ⟨ba, bc, rfl⟩ := hb.slice
  have h1 : Below w.heap.size w (w.alloc (.cells #[.int .i64 c.n, .int .i64 c.v, .string (bs c.x), .int .i64 c.g, .slice ma c.T.length mc, .slice ba l.length bc] 27)) := (Below.refl _ w).alloc (Nat.le_refl _) _
  have h2 := h1.alloc h1.size z40
  have rA := heap_alloc_new w (.cells #[.int .i64 c.n, .int .i64 c.v, .string (bs c.x), .int .i64 c.g, .slice ma c.T.length mc, .slice ba l.length bc] 27)
  have rB := heap_alloc_new (w.alloc (.cells #[.int .i64 c.n, .int .i64 c.v, .string (bs c.x), .int .i64 c.g, .slice ma c.T.length mc, .slice ba l.length bc] 27)) z40
  have rA2 := (Below.heap_alloc (w.alloc (.cells #[.int .i64 c.n, .int .i64 c.v, .string (bs c.x), .int .i64 c.g, .slice ma c.T.length mc, .slice ba l.length bc] 27)) z40 w.heap.size (by simp)).trans rA
  rw [World.size_alloc] at rB
  obtain ⟨W0, hW0⟩ : ∃ W, (w.alloc (.cells #[.int .i64 c.n, .int .i64 c.v, .string (bs c.x), .int .i64 c.g, .slice ma c.T.length mc, .slice ba l.length bc] 27)).alloc z40 = W := ⟨_, rfl⟩
  have HW : Hid ((w.alloc (.cells #[.int .i64 c.n, .int .i64 c.v, .string (bs c.x), .int .i64 c.g, .slice ma c.T.length mc, .slice ba l.length bc] 27)).alloc (.cells #[.int .i64 0, .int .i64 0, .string ⟨#[]⟩, .int .i64 0, .slice none 0 0, .slice none 0 0] 40) = W0) := hW0
  rw [hW0] at h2 rB rA2
  obtain ⟨P, hP⟩ : ∃ P, w.heap.size = P := ⟨_, rfl⟩
  have HP : Hid (w.heap.size = P) := hP
  rw [hP] at rA2 rB
  have hlA := (Array.getElem?_eq_some_iff.1 rA2).1
  have hlB := (Array.getElem?_eq_some_iff.1 rB).1
  have HK : Hid (∀ W, Below W0.heap.size W0 W → W.cell? ⟨P, 0, none⟩ = some (.int .i64 c.n) ∧ W.cell? ⟨P, 1, none⟩ = some (.int .i64 c.v) ∧ W.cell? ⟨P, 2, none⟩ = some (.string (bs c.x)) ∧ W.cell? ⟨P, 3, none⟩ = some (.int .i64 c.g) ∧ W.cell? ⟨P, 4, none⟩ = some (.slice ma c.T.length mc) ∧ W.cell? ⟨P, 5, none⟩ = some (.slice ba l.length bc)) := fun W hb => by
    have r := (hb.block _ hlA).trans rA2
    exact ⟨cellB r 0 _ rfl, cellB r 1 _ rfl, cellB r 2 _ rfl, cellB r 3 _ rfl, cellB r 4 _ rfl, cellB r 5 _ rfl⟩
  have HR : Hid (∀ W, Below W0.heap.size W0 W → Calls Tryd.prog 24 #[.agg #[.string (bs c.x), .int .i64 c.g, .slice ma c.T.length mc]] W fun e W' => ∃ u, e = .returned (.agg #[.string (bs c.x), .int .i64 c.g, u]) ∧ Tp W' u c.T ∧ Fr W.heap.size u ∧ Below W.heap.size W W') := fun W hW => ref_any (bs c.x) c.g c.T _ W hcT ((hm.below h2 (Nat.le_refl _)).below hW (Nat.le_refl _))
  have HM : Hid (∀ W, Below w.heap.size w W → Ml w.heap.size W (.slice ba l.length bc) l) := fun W hW => hb.below hW
  have HlT : Hid (∀ b ∈ l, b.T.length ≤ 1000) := hlT
  have Hb0 : Hid (Below w.heap.size w W0) := h2
  have HrB : Hid (W0.heap[P + 1]? = some z40) := rB
  obtain ⟨k0, k1, k2, k3, k4, k5⟩ := HK.out W0 (Below.refl _ _)
  clear hW0 h1 h2 rA rA2 rB hm hb hP hcT hlT
  go_enter Tryd.func10, Tryd.ntmps10
  go_upto_region 1 with fail
  rw [HW.out, HP.out]
  clear HW
  have hbA : Below W0.heap.size W0 W0.drew := below_drew (Below.refl _ _)
  have hbB : Below W0.heap.size W0 (W0.alloc (.cells #[.int .i64 0, .int .i64 0, .string ⟨#[]⟩, .int .i64 0, .slice none 0 0, .slice none 0 0] 40)).drew := below_drew ((Below.refl _ W0).alloc (Nat.le_refl _) _)
  have HZ : Hid ((W0.alloc (.cells #[.int .i64 0, .int .i64 0, .string ⟨#[]⟩, .int .i64 0, .slice none 0 0, .slice none 0 0] 40)).drew.heap[W0.heap.size]? = some (.cells #[.int .i64 0, .int .i64 0, .string ⟨#[]⟩, .int .i64 0, .slice none 0 0, .slice none 0 0] 40) ∧ W0.heap.size < (W0.alloc (.cells #[.int .i64 0, .int .i64 0, .string ⟨#[]⟩, .int .i64 0, .slice none 0 0, .slice none 0 0] 40)).drew.heap.size) := ⟨heap_alloc_new W0 _, by show _ < (W0.alloc _).heap.size; simp⟩
  have hPne : P ≠ W0.heap.size := by omega
  go_cut [3] (fun p wx => ∃ (O : Nat) (ua : Option Addr) (uc : Nat), p = .pointer (some ⟨O, 0, none⟩) ∧ wx.heap[O]? = some (.cells #[.int .i64 c.n, .int .i64 c.v, .string (bs c.x), .int .i64 c.g, .slice ua c.T.length uc, .slice none 0 0] 40) ∧ W0.heap.size ≤ O ∧ Hid (Tl wx (.slice ua c.T.length uc) c.T ∧ ∀ k, (Value.slice ua c.T.length uc).ownBlock = some k → c.T ≠ [] → W0.heap.size ≤ k ∧ k ≠ O) ∧ Below W0.heap.size W0 wx)
  case first =>
    go_region_held3 (fun w' => w'.cell? ⟨P, 0, none⟩ = some (.int .i64 c.n) ∧ w'.cell? ⟨P, 1, none⟩ = some (.int .i64 c.v) ∧ w'.cell? ⟨P, 2, none⟩ = some (.string (bs c.x)) ∧ w'.cell? ⟨P, 3, none⟩ = some (.int .i64 c.g) ∧ w'.cell? ⟨P, 4, none⟩ = some (.slice ma c.T.length mc)) (first | go_keep | (refine ⟨?_, ?_, ?_, ?_, ?_⟩ <;> first | exact (put6_cell hPne _ _ _ _ _ _).trans (by assumption) | exact (put6_cell hPn1 _ _ _ _ _ _).trans (by assumption)))
      (first
        | (go_at_call 24; refine (HR.out _ (by first | exact hbA | exact hbB)).mono ?_; rintro e w1 ⟨u, rfl, hT, hFr, hb1⟩; obtain ⟨ua, uc, rfl⟩ := hT.tl.slice; (first | (have hB1 := hbB.trans (hb1.mono hbB.size); have rO := (hb1.block W0.heap.size HZ.out.2).trans HZ.out.1; have f0 := frozenB rO 0; have f1 := frozenB rO 1; have f2 := frozenB rO 2; have f3 := frozenB rO 3; have f4 := frozenB rO 4; have f5 := frozenB rO 5; have o0 := cellB rO 0 _ rfl; have o1 := cellB rO 1 _ rfl; have o2 := cellB rO 2 _ rfl; have o3 := cellB rO 3 _ rfl; have o4 := cellB rO 4 _ rfl; have o5 := cellB rO 5 _ rfl) | (have hB1 := hbA.trans (hb1.mono hbA.size))); obtain ⟨k0, k1, k2, k3, k4, k5⟩ := HK.out _ hB1; have hPn1 : P ≠ w1.heap.size := by have := hB1.size; omega))
    · have hT2 := hT.tl.below ((Below.refl _ w1).alloc (Nat.le_refl _) (.cells #[.int .i64 c.n, .int .i64 c.v, .string (bs c.x), .int .i64 c.g, .slice ua c.T.length uc, .slice none 0 0] 40)) (Nat.le_refl _)
      have hB2 := hB1.alloc hB1.size (.cells #[.int .i64 c.n, .int .i64 c.v, .string (bs c.x), .int .i64 c.g, .slice ua c.T.length uc, .slice none 0 0] 40)
      have hb := hT.tl
      go_wp2_with fail
      go_meet
      case rel => exact ⟨w1.heap.size, ua, uc, rfl, heap_alloc_new _ _, hB1.size, ⟨hT2, fun k hk hne => ⟨hFr k hk, by have := hb.lt hne k hk; omega⟩⟩, hB2⟩
    · have hz := HZ.out.2
      have hT2 := hT.tl.put6 (B := W0.heap.size) (fun k hk _ => by have := hFr k hk; omega) (.int .i64 c.n) (.int .i64 c.v) (.string (bs c.x)) (.int .i64 c.g) (.slice ua c.T.length uc) (.slice none 0 0)
      have hB2 := put6_below hB1 (Nat.le_refl _) (.int .i64 c.n) (.int .i64 c.v) (.string (bs c.x)) (.int .i64 c.g) (.slice ua c.T.length uc) (.slice none 0 0)
      have r2 := put6_blk rO (.int .i64 c.n) (.int .i64 c.v) (.string (bs c.x)) (.int .i64 c.g) (.slice ua c.T.length uc) (.slice none 0 0)
      unfold put6 at hT2 hB2 r2
      go_wp2_with fail
      go_meet
      case rel => exact ⟨W0.heap.size, ua, uc, rfl, r2, Nat.le_refl _, ⟨hT2, fun k hk hne => ⟨by have := hFr k hk; omega, by have := hFr k hk; omega⟩⟩, hB2⟩
  case rest =>
    obtain ⟨O, ua, uc, rfl, rO, hOl, HT, hBc⟩ := hcut
    clear k0 k1 k2 k3 k4 k5 hbA hbB HZ HR
    obtain ⟨k0, k1, k2, k3, k4, k5⟩ := HK.out wc hBc
    have hOc : O < wc.heap.size := (Array.getElem?_eq_some_iff.1 rO).1
    have hWc := hBc.size
    clear k0 k1 k2 k3 k4
    go_wp2
    clear k5
    obtain ⟨i0, hi, hz0, hz1, hz2⟩ := info_parts Tryd.info72
    have HZ : Hid (Tryd.prog.info? 72 = some i0 ∧ i0.zero = some (.agg #[.int .i64 0, .int .i64 0, .string ⟨#[]⟩, .int .i64 0, .slice none 0 0]) ∧ i0.size = 5 ∧ i0.bytes = 64) := ⟨hi, hz0, hz1, hz2⟩
    clear hi hz0 hz1 hz2
    go_loopw [17] (fun p wr => ∃ (k : Nat) (R : List Rq) (u : Value), p = .int .i64 k ∧ k ≤ l.length ∧ Hid (R.map (·.1) = l.take k) ∧ wr.heap[O]? = some (.cells #[.int .i64 c.n, .int .i64 c.v, .string (bs c.x), .int .i64 c.g, .slice ua c.T.length uc, u] 40) ∧ Hid (Rw wc.heap.size 72 wr u R) ∧ Hid (∀ j, j < wc.heap.size → j ≠ O → wr.heap[j]? = wc.heap[j]?) ∧ Below W0.heap.size W0 wr ∧ wc.heap.size ≤ wr.heap.size)
      (fun p _ => l.length - (intOf p).toNat)
    case atStart => exact ⟨0, [], .slice none 0 0, rfl, Nat.zero_le _, rfl, rO, Rw.nil _ _ _, fun _ _ _ => rfl, hBc, Nat.le_refl _⟩
    case round =>
      obtain ⟨k, R, u, rfl, hk, HRm, rO2, HRw, HKp, hB, hwl⟩ := hrel
      obtain ⟨oa, oc, rfl⟩ := owns_slice HRw.out.1
      have hRl : R.length = k := by have := congrArg List.length HRm.out; rw [List.length_map, List.length_take] at this; omega
      have HRl : Hid (R.length = k) := hRl
      clear hRl
      by_cases hk1 : k = l.length
      · subst hk1
        have hM := HRw.out.ml
        have hRe : R.map (·.1) = l := by rw [HRm.out, List.take_length]
        have rB2 : wr.heap[P + 1]? = some z40 := (hB.block _ hlB).trans HrB.out
        unfold z40 at rB2
        have hTm : Tl wr (.slice ua c.T.length uc) c.T := HT.out.1.keep hwl (fun hl q hq => HKp.out q (HT.out.1.lt hl q hq) (HT.out.2 q hq hl).2)
        have hTz := hTm.put6 (B := P + 1) (fun q hq hl => by have := (HT.out.2 q hq hl).1; omega) (.int .i64 c.n) (.int .i64 c.v) (.string (bs c.x)) (.int .i64 c.g) (.slice ua c.T.length uc) (.slice oa R.length oc)
        have hRz := (HRw.out.put6 (B := P + 1) (by omega) (.int .i64 c.n) (.int .i64 c.v) (.string (bs c.x)) (.int .i64 c.g) (.slice ua c.T.length uc) (.slice oa R.length oc)).ml
        rw [hRe] at hRz
        have hBw : Below w.heap.size w wr := Hb0.out.trans (hB.mono Hb0.out.size)
        obtain ⟨z0, z1, z2, z3, z4, z5, hBz⟩ := fin6 rB2 hBw (by have := HP.out; omega) (.int .i64 c.n) (.int .i64 c.v) (.string (bs c.x)) (.int .i64 c.g) (.slice ua c.T.length uc) (.slice oa R.length oc)
        unfold put6 at z0 z1 z2 z3 z4 z5 hBz hTz hRz
        have HF : Hid (_ ∧ _ ∧ _ ∧ _ ∧ _ ∧ _ ∧ _ ∧ _ ∧ _) := ⟨z0, z1, z2, z3, z4, z5, hBz, hTz, hRz⟩
        have f0 := frozenB rB2 0
        have f1 := frozenB rB2 1
        have f2 := frozenB rB2 2
        have f3 := frozenB rB2 3
        have f4 := frozenB rB2 4
        have f5 := frozenB rB2 5
        have s0 := cellB rB2 0 _ rfl
        have s1 := cellB rB2 1 _ rfl
        have s2 := cellB rB2 2 _ rfl
        have s3 := cellB rB2 3 _ rfl
        have s4 := cellB rB2 4 _ rfl
        have s5 := cellB rB2 5 _ rfl
        have o0 := cellB rO2 0 _ rfl
        have o1 := cellB rO2 1 _ rfl
        have o2 := cellB rO2 2 _ rfl
        have o3 := cellB rO2 3 _ rfl
        have o4 := cellB rO2 4 _ rfl
        have o5 := cellB rO2 5 _ rfl
        clear z0 z1 z2 z3 z4 z5 hBz hTz hRz hTm hM hRe hBw
        go_wp2
        obtain ⟨z0, z1, z2, z3, z4, z5, hBz, hTz, hRz⟩ := HF.out
        exact bodyPost_ret (v := .agg #[.int .i64 c.n, .int .i64 c.v, .string (bs c.x), .int .i64 c.g, .slice ua c.T.length uc, .slice oa R.length oc]) (by simp [results, Tryd.f10, go_sem, z0, z1, z2, z3, z4, z5]) rfl ⟨_, _, rfl, hTz, hRz, hBz⟩
      · have hk2 : k < l.length := by omega
        obtain ⟨b, hb⟩ : ∃ b, l[k]? = some b := ⟨_, List.getElem?_eq_getElem hk2⟩
        have hBw : Below w.heap.size w wr := Hb0.out.trans (hB.mono Hb0.out.size)
        obtain ⟨vb, vo, ta, tc, rfl, hvl, d0, d1, d2, d3, d4, hT⟩ := (HM.out _ hBw).cells hb
        have hbT := HlT.out b (List.mem_of_getElem? hb)
        have HTK : Hid (l.take (k + 1) = l.take k ++ [b]) := by show _ = _; rw [List.take_add_one, hb]; rfl
        have ha2 := (Below.refl wr.heap.size wr).alloc (Nat.le_refl _) (.cells #[.int .i64 b.n, .int .i64 b.v, .string (bs b.x), .int .i64 b.g, .slice ta b.T.length tc] 55)
        have rX := heap_alloc_new wr (.cells #[.int .i64 b.n, .int .i64 b.v, .string (bs b.x), .int .i64 b.g, .slice ta b.T.length tc] 55)
        obtain ⟨W2, hW2⟩ : ∃ W, wr.alloc (.cells #[.int .i64 b.n, .int .i64 b.v, .string (bs b.x), .int .i64 b.g, .slice ta b.T.length tc] 55) = W := ⟨_, rfl⟩
        have HW2 : Hid (wr.alloc (.cells #[.int .i64 b.n, .int .i64 b.v, .string (bs b.x), .int .i64 b.g, .slice ta b.T.length tc] 55) = W2) := hW2
        rw [hW2] at ha2 rX
        obtain ⟨X, hX⟩ : ∃ X, wr.heap.size = X := ⟨_, rfl⟩
        have HX : Hid (wr.heap.size = X) := hX
        rw [hX] at rX
        have hlX : X < W2.heap.size := (Array.getElem?_eq_some_iff.1 rX).1
        have hOX : O < X := by omega
        have rO3 := (ha2.block O (by omega)).trans rO2
        have HRw2 : Hid (Rw wc.heap.size 72 W2 (.slice oa R.length oc) R) := HRw.out.below ha2
        have hgR := ref_any (bs b.x) b.g b.T (.slice ta b.T.length tc) W2.drew hbT ((hT.below ha2 (Nat.le_refl _)).below (below_drew (Below.refl _ W2)) (Nat.le_refl _))
        have HB2 : Hid (Below W0.heap.size W0 W2) := by rw [← hW2]; exact hB.alloc hB.size _
        have HKp2 : Hid (∀ j, j < wc.heap.size → j ≠ O → W2.heap[j]? = wc.heap[j]?) := fun j h1 h2 => (ha2.block j (by omega)).trans (HKp.out j h1 h2)
        have x0 := cellB rX 0 _ rfl
        have x1 := cellB rX 1 _ rfl
        have x2 := cellB rX 2 _ rfl
        have x3 := cellB rX 3 _ rfl
        have x4 := cellB rX 4 _ rfl
        have o5 := cellB rO3 5 _ rfl
        have hXO : X ≠ O := by omega
        have hml : R.length + 1 ≤ maxLen := by have := HRl.out; unfold maxLen; omega
        have hmb : (R.length + 1) * 64 ≤ 140737488355328 := by have := HRl.out; omega
        have hOo : some O ≠ (Value.slice oa R.length oc).ownBlock := fun h => by have := (HRw.out.1.lt O h.symm).1; omega
        have hXo : some X ≠ (Value.slice oa R.length oc).ownBlock := fun h => by have := (HRw.out.1.lt X h.symm).2; omega
        obtain ⟨XS, hXS⟩ : ∃ x, R.flatMap m5 = x := ⟨_, rfl⟩
        have HXS : Hid (R.flatMap m5 = XS) := hXS
        have HS : Hid (∀ w1, Below W2.heap.size W2 w1 → w1.ownsRow wc.heap.size 72 5 (.slice oa R.length oc) R.length XS) := fun w1 h => by rw [← hXS]; exact (HRw2.out.below h).1
        have hwW : wc.heap.size ≤ W2.heap.size := by have := ha2.size; omega
        clear hb hT hbT ha2 hW2 hX hXS rO2 HRw HKp hB
        go_upto_region 5 with fail
        rw [HW2.out, HX.out]
        clear HW2
        have hS0 : W2.drew.cell? ⟨X, 0, none⟩ = some (.int .i64 b.n) ∧ W2.drew.cell? ⟨X, 1, none⟩ = some (.int .i64 b.v) ∧ W2.drew.cell? ⟨X, 2, none⟩ = some (.string (bs b.x)) ∧ W2.drew.cell? ⟨X, 3, none⟩ = some (.int .i64 b.g) ∧ W2.drew.cell? ⟨X, 4, none⟩ = some (.slice ta b.T.length tc) ∧ W2.drew.cell? ⟨O, 5, none⟩ = some (.slice oa R.length oc) := ⟨x0, x1, x2, x3, x4, o5⟩
        refine region_Z 13 (fun w' => w'.cell? ⟨X, 0, none⟩ = some (.int .i64 b.n) ∧ w'.cell? ⟨X, 1, none⟩ = some (.int .i64 b.v) ∧ w'.cell? ⟨X, 2, none⟩ = some (.string (bs b.x)) ∧ w'.cell? ⟨X, 3, none⟩ = some (.int .i64 b.g) ∧ w'.cell? ⟨X, 4, none⟩ = some (.slice ta b.T.length tc) ∧ w'.cell? ⟨O, 5, none⟩ = some (.slice oa R.length oc)) (by kernel_rfl) ?_
        refine Z_take (i := 0) (v := ?_) rfl (by kernel_rfl) (by kernel_rfl) (by kernel_rfl) (by kernel_rfl) (fun _ _ _ h => h) (by rfl) hS0 ?_ ?_
        rotate_left
        · (intro w' hSw; obtain ⟨e0, e1, e2, e3, e4, e5⟩ := hSw; go_simp; (try with_reducible rfl))
        simp only [Act.put, List.setIfInBounds_toArray]
        refine Z_take (i := 1) (v := ?_) rfl (by kernel_rfl) (by kernel_rfl) (by kernel_rfl) (by kernel_rfl) (fun _ _ _ h => h) (by rfl) hS0 ?_ ?_
        rotate_left
        · (intro w' hSw; obtain ⟨e0, e1, e2, e3, e4, e5⟩ := hSw; go_simp; (try with_reducible rfl))
        simp only [Act.put]
        refine Z_take (i := 2) (v := ?_) rfl (by kernel_rfl) (by kernel_rfl) (by kernel_rfl) (by kernel_rfl) (fun _ _ _ h => h) (by rfl) hS0 ?_ ?_
        rotate_left
        · (intro w' hSw; obtain ⟨e0, e1, e2, e3, e4, e5⟩ := hSw; go_simp; (try with_reducible rfl))
        simp only [Act.put]
        refine Z_take (i := 3) (v := ?_) rfl (by kernel_rfl) (by kernel_rfl) (by kernel_rfl) (by kernel_rfl) (fun _ _ _ h => h) (by rfl) hS0 ?_ ?_
        rotate_left
        · (intro w' hSw; obtain ⟨e0, e1, e2, e3, e4, e5⟩ := hSw; go_simp; (try with_reducible rfl))
        simp only [Act.put]
        refine Z_take (i := 4) (v := ?_) rfl (by kernel_rfl) (by kernel_rfl) (by kernel_rfl) (by kernel_rfl) (fun _ _ _ h => h) (by rfl) hS0 ?_ ?_
        rotate_left
        · (intro w' hSw; obtain ⟨e0, e1, e2, e3, e4, e5⟩ := hSw; go_simp; (try with_reducible rfl))
        simp only [Act.put]
        refine Z_take (i := 5) (v := ?_) rfl (by kernel_rfl) (by kernel_rfl) (by kernel_rfl) (by kernel_rfl) (fun _ _ _ h => h) (by rfl) hS0 ?_ ?_
        rotate_left
        · (intro w' hSw; obtain ⟨e0, e1, e2, e3, e4, e5⟩ := hSw; go_simp; (try with_reducible rfl))
        simp only [Act.put]
        refine Z_take (i := 6) (v := ?_) rfl (by kernel_rfl) (by kernel_rfl) (by kernel_rfl) (by kernel_rfl) (fun _ _ _ h => h) (by rfl) hS0 ?_ ?_
        rotate_left
        · (intro w' hSw; obtain ⟨e0, e1, e2, e3, e4, e5⟩ := hSw; go_simp; (try with_reducible rfl))
        simp only [Act.put]
        refine Z_take (i := 7) (v := ?_) rfl (by kernel_rfl) (by kernel_rfl) (by kernel_rfl) (by kernel_rfl) (fun _ _ _ h => h) (by rfl) hS0 ?_ ?_
        rotate_left
        · (intro w' hSw; obtain ⟨e0, e1, e2, e3, e4, e5⟩ := hSw; go_simp; (try with_reducible rfl))
        simp only [Act.put]
        refine Z_step (i := 8) (by kernel_rfl) rfl (fun K hK => ?_)
        go_simp
        refine hgR.mono ?_
        clear hgR
        rintro e w1 ⟨u1, rfl, hT1, hFr1, hb1'⟩
        obtain ⟨ua1, uc1, rfl⟩ := hT1.tl.slice
        have hb1 : Below W2.heap.size W2 w1 := ⟨hb1'.os, hb1'.tape, hb1'.output, hb1'.size, hb1'.block⟩
        have rX1 := (hb1.block X hlX).trans rX
        have rO1 := (hb1.block O (by omega)).trans rO3
        have haN := (Below.refl w1.heap.size w1).alloc (Nat.le_refl _) (.cells #[.int .i64 b.n, .int .i64 b.v, .string (bs b.x), .int .i64 b.g, .slice ua1 b.T.length uc1] 72)
        have rXN := (haN.block X (Nat.lt_of_lt_of_le hlX hb1.size)).trans rX1
        have rON := (haN.block O (Nat.lt_of_lt_of_le (Nat.lt_trans hOX hlX) hb1.size)).trans rO1
        have hS1 : w1.cell? ⟨X, 0, none⟩ = some (.int .i64 b.n) ∧ w1.cell? ⟨X, 1, none⟩ = some (.int .i64 b.v) ∧ w1.cell? ⟨X, 2, none⟩ = some (.string (bs b.x)) ∧ w1.cell? ⟨X, 3, none⟩ = some (.int .i64 b.g) ∧ w1.cell? ⟨X, 4, none⟩ = some (.slice ta b.T.length tc) ∧ w1.cell? ⟨O, 5, none⟩ = some (.slice oa R.length oc) := ⟨cellB rX1 0 _ rfl, cellB rX1 1 _ rfl, cellB rX1 2 _ rfl, cellB rX1 3 _ rfl, cellB rX1 4 _ rfl, cellB rO1 5 _ rfl⟩
        have hownN := (HS.out w1 hb1).alloc (.cells #[.int .i64 b.n, .int .i64 b.v, .string (bs b.x), .int .i64 b.g, .slice ua1 b.T.length uc1] 72)
        have hsN := Nat.le_trans hb1.size haN.size
        have hlXN := Nat.lt_of_lt_of_le hlX hsN
        have hlON := Nat.lt_of_lt_of_le (Nat.lt_trans hOX hlX) hsN
        have hBN := Nat.le_trans hwW hsN
        refine hK _ _ (fun _ => hS1) ?_
        clear hK K hS0
        refine Z_take (i := 9) (v := ?_) rfl (by kernel_rfl) (by kernel_rfl) (by kernel_rfl) (by kernel_rfl) (fun _ _ _ h => h) (by rfl) hS1 ?_ ?_
        rotate_left
        · (intro w' hSw; go_simp; (try with_reducible rfl))
        simp only [Act.put]
        refine Z_step (i := 10) (by kernel_rfl) rfl (fun K hK => ?_)
        go_simp
        refine hK _ _ (fun _ => ⟨cellB rXN 0 _ rfl, cellB rXN 1 _ rfl, cellB rXN 2 _ rfl, cellB rXN 3 _ rfl, cellB rXN 4 _ rfl, cellB rON 5 _ rfl⟩) ?_
        clear hK K
        refine Z_step (i := 11) (by kernel_rfl) rfl (fun K hK => ?_)
        refine step_append_lies _ (by rfl) _ _ 38 (by rfl) wc.heap.size 72 i0 (.agg #[.int .i64 0, .int .i64 0, .string ⟨#[]⟩, .int .i64 0, .slice none 0 0]) 5 64 Tryd.underlying38 HZ.out.1 HZ.out.2.1 HZ.out.2.2.1 HZ.out.2.2.2 rfl (by decide) _ R.length XS (by rfl) hownN ⟨w1.heap.size, 0, none⟩ 1 1 [.int .i64 b.n, .int .i64 b.v, .string (bs b.x), .int .i64 b.g, .slice ua1 b.T.length uc1] (by rfl) rfl (cells_new w1 #[.int .i64 b.n, .int .i64 b.v, .string (bs b.x), .int .i64 b.g, .slice ua1 b.T.length uc1] 72) (by simp [Value.oneCell']) (by decide) hml hmb hBN _ rfl ?_
        intro ga ca w7 hown7 hgrow hat hlt7
        have rX7 := (hgrow.block X hlXN hXo).trans rXN
        have rO7 := (hgrow.block O hlON hOo).trans rON
        have hS7 : w7.cell? ⟨X, 0, none⟩ = some (.int .i64 b.n) ∧ w7.cell? ⟨X, 1, none⟩ = some (.int .i64 b.v) ∧ w7.cell? ⟨X, 2, none⟩ = some (.string (bs b.x)) ∧ w7.cell? ⟨X, 3, none⟩ = some (.int .i64 b.g) ∧ w7.cell? ⟨X, 4, none⟩ = some (.slice ta b.T.length tc) ∧ w7.cell? ⟨O, 5, none⟩ = some (.slice oa R.length oc) := ⟨cellB rX7 0 _ rfl, cellB rX7 1 _ rfl, cellB rX7 2 _ rfl, cellB rX7 3 _ rfl, cellB rX7 4 _ rfl, cellB rO7 5 _ rfl⟩
        refine hK _ _ (fun _ => hS7) ?_
        clear hK K hS1
        simp only [Act.put]
        refine Z_take (i := 12) (v := ?_) rfl (by kernel_rfl) (by kernel_rfl) (by kernel_rfl) (by kernel_rfl) (fun _ _ _ h => h) (by rfl) hS7 ?_ ?_
        rotate_left
        · (intro w' hSw; go_simp; (try with_reducible rfl))
        simp only [Act.put]
        have t5 := hS7.2.2.2.2.2
        have ft := frozenB rO7 5
        refine Z_step (i := 13) (by kernel_rfl) rfl (fun K hK => ?_)
        go_simp
        refine hK _ _ (fun h => absurd rfl h) (Z_done (by kernel_rfl) ?_ _)
        clear hK K t5 ft hS7
        have hRN : Rw wc.heap.size 72 (w1.alloc (.cells #[.int .i64 b.n, .int .i64 b.v, .string (bs b.x), .int .i64 b.g, .slice ua1 b.T.length uc1] 72)) (.slice oa R.length oc) R := (HRw2.out.below hb1).below haN
        have hR7 := hRN.snoc (b, ua1, uc1) (hT1.tl.below haN (Nat.le_refl _)) (fun _ q hq => ⟨by have := hFr1 q hq; have h2 : W2.heap.size ≤ q := this; omega, fun he => by have h1 := hFr1 q hq; have h2 : W2.heap.size ≤ q := h1; have h3 := (HRw2.out.1.lt q he).2; omega⟩) (by rw [HXS.out]; exact hown7) hgrow hat rfl
        have HR8 : Hid (_) := hR7.set (B := O) hOc 5 (.slice (some ⟨ga, 0, none⟩) (R.length + 1) ca)
        have r8 := set1 rO7 5 (.slice (some ⟨ga, 0, none⟩) (R.length + 1) ca)
        have HK8 : Hid (∀ j, j < wc.heap.size → j ≠ O → (w7.setCell ⟨O, 5, none⟩ (.slice (some ⟨ga, 0, none⟩) (R.length + 1) ca)).heap[j]? = wc.heap[j]?) := fun j h1 h2 => (Below.heap_setCell _ _ _ _ h2).trans ((hgrow.block j (Nat.lt_of_lt_of_le h1 hBN) (fun he => by have := (HRw2.out.1.lt j he.symm).1; omega)).trans ((haN.block j (Nat.lt_of_lt_of_le (Nat.lt_of_lt_of_le h1 hwW) hb1.size)).trans ((hb1.block j (Nat.lt_of_lt_of_le h1 hwW)).trans (HKp2.out j h1 h2))))
        have hs7 := hgrow.size
        have HB8 : Hid (Below W0.heap.size W0 (w7.setCell ⟨O, 5, none⟩ (.slice (some ⟨ga, 0, none⟩) (R.length + 1) ca))) := by
          have h1 : Below W0.heap.size W0 w1 := HB2.out.trans (hb1.mono HB2.out.size)
          have h2 := (h1.trans (haN.mono h1.size)).grown hgrow (by omega) (fun q hq => by have := (HRw2.out.1.lt q hq).1; omega)
          exact h2.setCell (p := ⟨O, 5, none⟩) hOl _
        have HS8 : Hid (wc.heap.size ≤ (w7.setCell ⟨O, 5, none⟩ (.slice (some ⟨ga, 0, none⟩) (R.length + 1) ca)).heap.size) := by show _ ≤ _; simp only [World.setCell, Array.size_modify]; omega
        have HM8 : Hid ((R ++ [(b, ua1, uc1)]).map (·.1) = l.take (k + 1)) := by show _ = _; rw [HTK.out, ← HRm.out, List.map_append]; rfl
        clear hR7 hRN hown7 hgrow hat hlt7 rX7 rO7 hownN rXN rON haN hb1 hb1' rX1 rO1 hT1 hFr1 hs7 x0 x1 x2 x3 x4 o5
        go_wp2
        go_roundw
        case rel => exact ⟨k + 1, R ++ [(b, ua1, uc1)], .slice (some ⟨ga, 0, none⟩) (R.length + 1) ca, by go_num, hk2, HM8, r8, HR8, HK8, HB8.out, HS8.out⟩
        case measure => simp [intOf]; omega
end Go.Proofs.YtifalaigfinciaaDoor
