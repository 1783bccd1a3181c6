/- A region that draws its order, and whose last operation waits for all others: what is held of the world need not be held behind it. -/
import Derived.Test.YtgmobjdjojffgaaDoorSdP
import Derived.Test.YtgmobjdjojffgaaDoorSdI
namespace Go.Proofs.YtgmobjdjojffgaaDoor
section
open Go.RowKit

section
variable {P : Program} {md : Region.Mode} {ops : Array Oper} {Q : Exit → Act → World → Prop} {z : Nat} {S : World → Prop}
/-- Whatever order is picked; S holds behind every operation but number z. -/
def anyZ (P : Program) (md : Region.Mode) (ops : Array Oper) (Q : Exit → Act → World → Prop) (z : Nat) (S : World → Prop) : Nat → Array Bool → Act → World → Prop
  | 0, listed, a, w => Region.ready md ops listed = [] ∧ Q .normal a w
  | fuel + 1, listed, a, w => (Region.ready md ops listed = [] → Q .normal a w) ∧ ∀ j ∈ Region.ready md ops listed, wpOp P ops Q j (fun a' w' => (j ≠ z → S w') ∧ anyZ P md ops Q z S fuel (listed.setIfInBounds j true) a' w') a w
theorem any_of_Z : ∀ (fuel : Nat) (listed : Array Bool) (a : Act) (w : World), anyZ P md ops Q z S fuel listed a w → wpAny P md ops Q fuel listed a w
  | 0, _, _, _, h => h
  | fuel + 1, _, _, _, h => ⟨h.1, fun i hi => wpOp_mono (fun a' w' h' => any_of_Z fuel _ a' w' h'.2) (h.2 i hi)⟩
/-- Does number z wait for number i? -/
def waitsFor (md : Region.Mode) (ops : Array Oper) (z i : Nat) : Bool := ((ops[z]?).map fun o => o.after.any fun e => Region.binds md e && e.on == i).getD false
theorem not_ready {i : Nat} {listed : Array Bool} (hz : waitsFor md ops z i = true) (hi : i ∈ Region.ready md ops listed) : z ∉ Region.ready md ops listed := by
  intro hz2
  obtain ⟨_, o, ho, hall⟩ := mem_ready.1 hz2
  have h0 := (mem_ready.1 hi).1
  simp only [waitsFor, ho, Option.map_some, Option.getD_some, Array.any_eq_true, Bool.and_eq_true, beq_iff_eq] at hz
  obtain ⟨k, hk, hb, he⟩ := hz
  have h1 := hall _ (Array.getElem_mem hk) hb
  rw [he] at h1
  rcases Nat.lt_or_ge i listed.size with h' | h'
  · simp [h'] at h0 h1; rw [h0] at h1; cases h1
  · simp [Array.getElem?_eq_none h'] at h1
theorem Z_first {i : Nat} {oi : Oper} {v : Value} (hi : ops[i]? = some oi) (hsel : ∀ (j : Nat) (o : Oper) cs b, ops[j]? = some o → o.op ≠ .select cs b) (hz : waitsFor md ops z i = true)
    (hQ : ∀ c a w, Q (.panic c) (a.put oi.dst v) w → Q (.panic c) a w) :
    ∀ (fuel : Nat) (listed : Array Bool) (a : Act) (w : World),
      (∀ j oj, ops[j]? = some oj → j ≠ i → listed.getD j true = false → (∀ e ∈ oj.after, Region.binds md e = true → e.on ≠ i) → oi.apart ops oj = true) →
      i ∈ Region.ready md ops listed → YieldsIf P ops S oi v a → S w →
      anyZ P md ops Q z S fuel (listed.setIfInBounds i true) (a.put oi.dst v) w → anyZ P md ops Q z S (fuel + 1) listed a w
  | 0, listed, a, w, _, hr, hy, hS, H => by
    refine ⟨fun h => (by rw [h] at hr; cases hr), fun j hj => ?_⟩
    by_cases hji : j = i
    · subst hji; exact hy.wpOp hi hS ⟨fun _ => hS, H⟩
    · have := ready_mono hj hji
      rw [H.1] at this
      cases this
  | fuel + 1, listed, a, w, hfree, hr, hy, hS, H => by
    refine ⟨fun h => (by rw [h] at hr; cases hr), fun j hj => ?_⟩
    by_cases hji : j = i
    · subst hji; exact hy.wpOp hi hS ⟨fun _ => hS, H⟩
    have hjz : j ≠ z := fun e => not_ready hz hr (e ▸ hj)
    obtain ⟨hjun, oj, hoj, hall⟩ := mem_ready.1 hj
    have hnot : ∀ e ∈ oj.after, Region.binds md e = true → e.on ≠ i := fun e he hb heq => by
      have h1 := hall e he hb
      have h0 := (mem_ready.1 hr).1
      rw [heq] at h1
      rcases Nat.lt_or_ge i listed.size with h' | h'
      · simp [h'] at h0 h1; rw [h0] at h1; cases h1
      · simp [Array.getElem?_eq_none h'] at h1
    refine wpOp_mono (fun a' w' h3 => ?_) (wpOp_putIf hoj (hfree j oj hoj hji hjun hnot) (fun cs b => hsel i oi cs b hi) (fun cs b => hsel j oj cs b hoj) hQ hy (H.2 j (ready_mono hj hji)))
    have hS' := h3.2.1 hjz
    refine ⟨fun _ => hS', Z_first hi hsel hz hQ fuel (listed.setIfInBounds j true) a' w' (fun k ok hk hki hun hno => hfree k ok hk hki ?_ hno) (ready_mono hr (Ne.symm hji)) h3.1 hS' ?_⟩
    · by_cases hjk : j = k
      · subst hjk; exact hjun
      · rw [getD_set_ne true hjk] at hun; exact hun
    · rw [Array.setIfInBounds_comm _ _ hji]
      exact h3.2.2
theorem Z_take {i : Nat} {oi : Oper} {v : Value} {fuel : Nat} {listed : Array Bool} {a : Act} {w : World} (hi : ops[i]? = some oi)
    (hs : Region.noSelect ops = true) (hf : Region.free md ops listed i = true) (hr : (Region.ready md ops listed).contains i = true) (hz : waitsFor md ops z i = true)
    (hQ : ∀ c a w, Q (.panic c) (a.put oi.dst v) w → Q (.panic c) a w) (hw : Region.wanted oi (yielded ops a.tmps) = true) (hS : S w) (hy : ∀ w, S w → (execOp a.eval oi).run P w = .ok (.value v) w)
    (h : anyZ P md ops Q z S fuel (listed.setIfInBounds i true) (a.put oi.dst v) w) : anyZ P md ops Q z S (fuel + 1) listed a w :=
  Z_first hi (Region.noSelect_spec hs) hz hQ fuel listed a w (Region.free_spec hi hf) (by simpa using hr) (.inl ⟨hw, hy⟩) hS h
theorem Z_step {i : Nat} {o : Oper} {fuel : Nat} {listed : Array Bool} {a : Act} {w : World} (hr : Region.ready md ops listed = [i]) (ho : ops[i]? = some o)
    (h : ∀ K' : Act → World → Prop, (∀ a w, (i ≠ z → S w) → anyZ P md ops Q z S fuel (listed.setIfInBounds i true) a w → K' a w) → if Region.wanted o (yielded ops a.tmps) = true then Oper.wp P o a w K' Q else K' (a.put o.dst undef) w) : anyZ P md ops Q z S (fuel + 1) listed a w := by
  refine ⟨fun h0 => (by rw [hr] at h0; cases h0), fun j hj => ?_⟩
  rw [hr, List.mem_singleton] at hj
  subst hj
  exact wpOp_step ho fun K' hK => h K' fun a w h1 h2 => hK a w ⟨h1, h2⟩
theorem Z_done {listed : Array Bool} {a : Act} {w : World} (hr : Region.ready md ops listed = []) (h : Q .normal a w) : ∀ fuel, anyZ P md ops Q z S fuel listed a w
  | 0 => ⟨hr, h⟩
  | _ + 1 => ⟨fun _ => h, by rw [hr]; simp⟩
end
theorem region_Z {P : Program} {ops : Array Oper} {Q : Exit → Act → World → Prop} (z : Nat) (S : World → Prop) {id : Nat} {a : Act} {w : World} (hm : P.follows .mixedOrders = true)
    (h : anyZ P .any ops Q z S ops.size (Array.replicate ops.size false) a w.drew) : (Code.region id ops true).wp P Q a w :=
  wp_region_any hm (any_of_Z _ _ _ _ h)
end
section
open Go.RowKit
attribute [local go_sem ↓] Go.wp_at_zero Go.wp_at_succ

theorem idx_at0 (c : Nat → La) (w : World) : (Instr.index 67 (.agg (ccs c).toArray) (.int .i64 ((0 : Nat) : Int))).run Tryd.prog w = .ok (.agg #[.int .i64 (c 0).1, .int .i64 (c 0).2.1, .string (bs (c 0).2.2)]) w := by kernel_rfl
theorem idx_at1 (c : Nat → La) (w : World) : (Instr.index 67 (.agg (ccs c).toArray) (.int .i64 ((1 : Nat) : Int))).run Tryd.prog w = .ok (.agg #[.int .i64 (c 1).1, .int .i64 (c 1).2.1, .string (bs (c 1).2.2)]) w := by kernel_rfl
theorem idx_at2 (c : Nat → La) (w : World) : (Instr.index 67 (.agg (ccs c).toArray) (.int .i64 ((2 : Nat) : Int))).run Tryd.prog w = .ok (.agg #[.int .i64 (c 2).1, .int .i64 (c 2).2.1, .string (bs (c 2).2.2)]) w := by kernel_rfl
theorem idx_at3 (c : Nat → La) (w : World) : (Instr.index 67 (.agg (ccs c).toArray) (.int .i64 ((3 : Nat) : Int))).run Tryd.prog w = .ok (.agg #[.int .i64 (c 3).1, .int .i64 (c 3).2.1, .string (bs (c 3).2.2)]) w := by kernel_rfl
theorem idx_at4 (c : Nat → La) (w : World) : (Instr.index 67 (.agg (ccs c).toArray) (.int .i64 ((4 : Nat) : Int))).run Tryd.prog w = .ok (.agg #[.int .i64 (c 4).1, .int .i64 (c 4).2.1, .string (bs (c 4).2.2)]) w := by kernel_rfl
theorem idx_at5 (c : Nat → La) (w : World) : (Instr.index 67 (.agg (ccs c).toArray) (.int .i64 ((5 : Nat) : Int))).run Tryd.prog w = .ok (.agg #[.int .i64 (c 5).1, .int .i64 (c 5).2.1, .string (bs (c 5).2.2)]) w := by kernel_rfl
theorem idx_at6 (c : Nat → La) (w : World) : (Instr.index 67 (.agg (ccs c).toArray) (.int .i64 ((6 : Nat) : Int))).run Tryd.prog w = .ok (.agg #[.int .i64 (c 6).1, .int .i64 (c 6).2.1, .string (bs (c 6).2.2)]) w := by kernel_rfl
theorem idx_at7 (c : Nat → La) (w : World) : (Instr.index 67 (.agg (ccs c).toArray) (.int .i64 ((7 : Nat) : Int))).run Tryd.prog w = .ok (.agg #[.int .i64 (c 7).1, .int .i64 (c 7).2.1, .string (bs (c 7).2.2)]) w := by kernel_rfl
theorem idx_at (c : Nat → La) (j : Nat) (h : j < 8) (w : World) : (Instr.index 67 (.agg (ccs c).toArray) (.int .i64 j)).run Tryd.prog w = .ok (.agg #[.int .i64 (c j).1, .int .i64 (c j).2.1, .string (bs (c j).2.2)]) w := by
  match j, h with
  | 0, _ => exact idx_at0 c w
  | 1, _ => exact idx_at1 c w
  | 2, _ => exact idx_at2 c w
  | 3, _ => exact idx_at3 c w
  | 4, _ => exact idx_at4 c w
  | 5, _ => exact idx_at5 c w
  | 6, _ => exact idx_at6 c w
  | 7, _ => exact idx_at7 c w
  | n + 8, h => omega
theorem Tryd.size67 : (Tryd.prog.info? 67).map (·.size) = some 24 := by kernel_rfl
def contTo (t : List UInt8) (c : Nat → La) (j : Nat) : List (List UInt8) := t :: clsF c (List.range' 0 j)
theorem contTo_succ (t : List UInt8) (c : Nat → La) (j : Nat) : contTo t c (j + 1) = contTo t c j ++ cl1 j (c j) := by
  rw [contTo, contTo, List.range'_1_concat, Nat.zero_add]
  simp [clsF]
theorem contTo_len {c : Nat → La} (t : List UInt8) : ∀ j, (contTo t c j).length ≤ 1 + 4 * j
  | 0 => by simp [contTo, clsF]
  | j + 1 => by
    have := contTo_len (c := c) t j
    rw [contTo_succ, List.length_append]
    have : (cl1 j (c j)).length ≤ 4 := by unfold cl1; split <;> simp
    omega
theorem own_base {w : World} {base base' n : Nat} {e : TypeId} {s : Nat} {v : Value} {xs : List Value} (h : w.ownsRow base e s v n xs) (hb : base' ≤ base) : w.ownsRow base' e s v n xs := by
  obtain ⟨q1, q2⟩ := h
  rcases q2 with q2 | ⟨g, cap, cur, e1, q3, q4⟩
  · exact ⟨q1, .inl q2⟩
  · exact ⟨q1, .inr ⟨g, cap, cur, e1, by omega, q4⟩⟩
set_option maxRecDepth 20000 in
set_option maxHeartbeats 2000000 in
theorem hText_any {w : World} (he : EnvP w) {B : Nat} {s : Sh} {T : Nat} {v : Value} (h : ShAt w B s T v) (hc1 : hasC s.st = true) (hok : OkC s.c) : Calls Tryd.prog 38 #[.pointer (some ⟨B, 1, none⟩)] w fun e W' => e = .returned (.string (bs (contT s.l s.c))) ∧ Below w.heap.size w W' := by
  have hT := Text_any (h.tab hc1).1 he
  have ct := h.c1
  rw [hc1] at ct
  simp only [if_true] at ct
  have hlt := h.lt
  have HRG : Hid (∀ W, Below w.heap.size w W → W.rangeAt B 2 (ccs s.c)) := fun W hb j x hx => by
    have := (h.on hb).ch (j + 1) x (by simpa [hcs] using hx)
    rw [show 1 + (j + 1) = 2 + j by omega] at this
    exact this
  obtain ⟨tt, htt⟩ : ∃ t, textT s.l = t := ⟨_, rfl⟩
  have HP : Hid (∀ W u, Below w.heap.size w W → W.ownsRow w.heap.size 9 1 u (contTo tt s.c 8).length (strs (contTo tt s.c 8)) → Calls Tryd.prog 31 #[u] W fun e W' => e = .returned (.string (bs (contT s.l s.c))) ∧ Below w.heap.size w W') := fun W u hb ho => by
    have e : contTo tt s.c 8 = contL s.l s.c := by rw [contTo, contL, htt]; rfl
    rw [e] at ho
    obtain ⟨a1, a2, _⟩ := cont_tot (h.tab hc1).1.ok hok
    refine (Pack_any (contL s.l s.c) u W (by omega) (by omega) (he.next hb) (Sl.of_owns ho)).mono ?_
    rintro e W' ⟨rfl, h2⟩
    exact ⟨rfl, hb.trans (h2.mono hb.size)⟩
  have HIx : Hid (∀ (j : Nat), j < 8 → ∀ w, (Instr.index 67 (.agg (ccs s.c).toArray) (.int .i64 j)).run Tryd.prog w = .ok (.agg #[.int .i64 (s.c j).1, .int .i64 (s.c j).2.1, .string (bs (s.c j).2.2)]) w) := fun j hj w => idx_at s.c j hj w
  have HSz : Hid ((Tryd.prog.info? 67).map (·.size) = some (ccs s.c).length) := by show _ = _; rw [ccs_len]; exact Tryd.size67
  have HOk : Hid (OkC s.c) := hok
  obtain ⟨Z, hZ⟩ : ∃ Z, contT s.l s.c = Z := ⟨_, rfl⟩
  rw [hZ] at HP
  rw [hZ]
  rw [htt] at hT
  obtain ⟨c, hcc⟩ : ∃ c, s.c = c := ⟨_, rfl⟩
  rw [hcc] at HRG HP HIx HSz HOk
  obtain ⟨A, hA⟩ : ∃ A, ccs c = A := ⟨_, rfl⟩
  rw [hA] at HRG HIx HSz
  have HE : Hid (∀ W, Below w.heap.size w W → EnvP W) := fun W hb => he.next hb
  clear h hc1 hok hZ htt hcc hA he
  go_enter Tryd.func38, Tryd.ntmps38
  go_upto_region 2 with (first | (go_at_call 52; refine hT.mono ?_; clear hT; rintro e w1 ⟨rfl, hb1⟩))
  have hbA : Below w.heap.size w (w1.alloc (.cells #[.string (bs tt)] 9)) := hb1.alloc hb1.size _
  have hown0 : (w1.alloc (.cells #[.string (bs tt)] 9)).ownsRow w.heap.size 9 1 (.slice (some ⟨w1.heap.size, 0, none⟩) 1 1) (contTo tt c 0).length (strs (contTo tt c 0)) := own_base (owns_new w1 #[.string (bs tt)] 9 1 1 rfl (by decide)) hb1.size
  obtain ⟨WA, hWA⟩ : ∃ W, w1.alloc (.cells #[.string (bs tt)] 9) = W := ⟨_, rfl⟩
  rw [hWA] at hbA hown0
  rw [hWA]
  have hrg := HRG.out _ hbA
  clear hWA hb1
  go_wp2_with (first | (refine wpList_load_mid rfl 67 _ rfl B 2 rfl A _ hrg Tryd.underlying67 rfl HSz.out ?_))
  go_loopg [3, 16] 8 (fun gk l i wr => ∃ (j : Nat) (u : Value), j + gk = 8 ∧ i = .int .i64 (j : Int) ∧ l = u ∧ wr.ownsRow w.heap.size 9 1 u (contTo tt c j).length (strs (contTo tt c j)) ∧ Below w.heap.size w wr)
  case atStart => exact ⟨0, _, by omega, rfl, rfl, hown0, hbA⟩
  case round =>
    clear hown0 hbA hrg
    obtain ⟨j, u, hj, rfl, rfl, hown, hB⟩ := hrel
    by_cases hj8 : j = 8
    · subst hj8
      have hp := HP.out _ _ hB hown
      obtain ⟨ua, uc, rfl⟩ := owns_slice hown
      clear HP hown
      go_wp2_with (first | (go_at_call 31; refine hp.mono ?_; clear hp; rintro e w9 ⟨rfl, hb9⟩))
      go_ret
      exact ⟨rfl, hb9⟩
    have hlt8 : j < 8 := by omega
    have hix := HIx.out j hlt8
    have j0 : (0 : Int) ≤ (j : Int) := by omega
    have j1 : (j : Int) < 8 := by omega
    have hwj : IntKind.i64.wrap ((j : Int) + 1) = ((j + 1 : Nat) : Int) := wrap_to (by omega) (by omega) (by omega)
    have hoj := HOk.out.ok j
    have hlen := contTo_len (c := c) tt j
    have HS : Hid (contTo tt c (j + 1) = contTo tt c j ++ cl1 j (c j)) := contTo_succ tt c j
    obtain ⟨⟨N, E, V⟩, hcj⟩ : ∃ x, c j = x := ⟨_, rfl⟩
    rw [hcj] at hix hoj HS
    simp only at hix
    have n0 : 0 ≤ N := hoj.n0
    have n1 : N ≤ 1099511627776 := hoj.n1
    have e0 : 0 ≤ E := hoj.e0
    have e1 : E ≤ 999 := hoj.e1
    have hbX := (Below.refl wr.heap.size wr).alloc (Nat.le_refl _) (.cells #[.int .i64 N, .int .i64 E, .string (bs V)] 66)
    have rX := heap_alloc_new wr (.cells #[.int .i64 N, .int .i64 E, .string (bs V)] 66)
    obtain ⟨W2, hW2⟩ : ∃ W, wr.alloc (.cells #[.int .i64 N, .int .i64 E, .string (bs V)] 66) = W := ⟨_, rfl⟩
    have HW2 : Hid (wr.alloc (.cells #[.int .i64 N, .int .i64 E, .string (bs V)] 66) = W2) := hW2
    obtain ⟨X, hX⟩ : ∃ X, wr.heap.size = X := ⟨_, rfl⟩
    have HX : Hid (wr.heap.size = X) := hX
    rw [hW2] at hbX rX
    rw [hX] at rX
    have hlX : X < W2.heap.size := (Array.getElem?_eq_some_iff.1 rX).1
    have hB2 : Below w.heap.size w W2 := hB.trans (hbX.mono hB.size)
    have x0 := cellB rX 0 _ rfl
    have hown2 := own_kept hown hbX
    obtain ⟨ua, uc, rfl⟩ := owns_slice hown
    have HOX : Hid (∀ k, (Value.slice ua (contTo tt c j).length uc).ownBlock = some k → k < X) := fun k hk => by
      have := (hown.lt k hk).2
      omega
    obtain ⟨M, hM⟩ : ∃ M, contTo tt c j = M := ⟨_, rfl⟩
    rw [hM] at hown2 hlen HS HOX
    rw [hM]
    clear hcj hoj hown hW2 hX hbX hM
    by_cases hN0 : 0 < N
    case neg =>
      have HM : Hid (contTo tt c (j + 1) = M) := by
        show _ = _
        rw [HS.out, cl1, if_neg hN0, List.append_nil]
      have hN1 : ¬ N > 0 := hN0
      have hN2 : N ≤ 0 := by omega
      go_upto_region 5 with fail
      rw [HW2.out, HX.out]
      clear HW2 HX HS
      go_wp2
      go_roundg (8 - (j + 1))
      case measure => omega
      case rel => exact ⟨j + 1, _, by omega, rfl, rfl, by rw [HM.out]; exact hown2, hB2⟩
    have HM : Hid (contTo tt c (j + 1) = M ++ [Lib.itoa j, Lib.itoa N, Lib.itoa E, V]) := by
      show _ = _
      rw [HS.out, cl1, if_pos hN0]
    have hN1 := Num_any (j : Int) W2.drew (by omega) (by omega) (HE.out _ (below_drew hB2))
    have HC : Hid (∀ W, Below W2.heap.size W2 W → W.cell? ⟨X, 0, none⟩ = some (.int .i64 N) ∧ W.cell? ⟨X, 1, none⟩ = some (.int .i64 E) ∧ W.cell? ⟨X, 2, none⟩ = some (.string (bs V))) := fun W hb => by
      have := (hb.block X hlX).trans rX
      exact ⟨cellB this 0 _ rfl, cellB this 1 _ rfl, cellB this 2 _ rfl⟩
    have HN2 : Hid (∀ W, Below W2.heap.size W2 W → Calls Tryd.prog 32 #[.int .i64 N] W fun e W' => e = .returned (.string (bs (Lib.itoa N))) ∧ Below W.heap.size W W') := fun W hb => Num_any N W (by omega) (by omega) (HE.out _ (hB2.trans (hb.mono hB2.size)))
    have HN3 : Hid (∀ W, Below W2.heap.size W2 W → Calls Tryd.prog 32 #[.int .i64 E] W fun e W' => e = .returned (.string (bs (Lib.itoa E))) ∧ Below W.heap.size W W') := fun W hb => Num_any E W (by omega) (by omega) (HE.out _ (hB2.trans (hb.mono hB2.size)))
    obtain ⟨I1, hI1⟩ : ∃ x, Lib.itoa (j : Int) = x := ⟨_, rfl⟩
    obtain ⟨I2, hI2⟩ : ∃ x, Lib.itoa N = x := ⟨_, rfl⟩
    obtain ⟨I3, hI3⟩ : ∃ x, Lib.itoa E = x := ⟨_, rfl⟩
    rw [hI1] at hN1 HM
    rw [hI2] at HN2 HM
    rw [hI3] at HN3 HM
    obtain ⟨i0, hi, hy0, hy1, hy2⟩ := info_parts Tryd.info9
    have HI : Hid (Tryd.prog.info? 9 = some i0 ∧ i0.zero = some (.string ⟨#[]⟩) ∧ i0.size = 1 ∧ i0.bytes = 16) := ⟨hi, hy0, hy1, hy2⟩
    have hS0 := HC.out _ (below_drew (Below.refl W2.heap.size W2))
    have hml : M.length + 4 ≤ maxLen := by unfold maxLen; omega
    have hmb : (M.length + 4) * 16 ≤ 140737488355328 := by omega
    have HOw : Hid (∀ W, Below W2.heap.size W2 W → W.ownsRow w.heap.size 9 1 (.slice ua M.length uc) M.length (strs M)) := fun W hb => own_kept hown2 hb
    have HB2 : Hid (Below w.heap.size w W2) := hB2
    clear hI1 hI2 hI3 HS hi hy0 hy1 hy2 hown2 hB2 rX
    go_upto_region 6 with fail
    rw [HW2.out, HX.out]
    clear HW2 HX x0
    refine region_Z 15 (fun w' => w'.cell? ⟨X, 0, none⟩ = some (.int .i64 N) ∧ w'.cell? ⟨X, 1, none⟩ = some (.int .i64 E) ∧ w'.cell? ⟨X, 2, none⟩ = some (.string (bs V))) (by kernel_rfl) ?_
    refine Z_take (i := 0) (v := ?_) rfl (by kernel_rfl) (by kernel_rfl) (by kernel_rfl) (by kernel_rfl) (fun _ _ _ h => h) (by rfl) hS0 ?_ ?_
    rotate_left
    · (intro w' hSw; obtain ⟨e0, e1, e2⟩ := hSw; go_simp; (try with_reducible rfl))
    simp only [Act.put, List.setIfInBounds_toArray]
    refine Z_take (i := 1) (v := ?_) rfl (by kernel_rfl) (by kernel_rfl) (by kernel_rfl) (by kernel_rfl) (fun _ _ _ h => h) (by rfl) hS0 ?_ ?_
    rotate_left
    · (intro w' hSw; obtain ⟨e0, e1, e2⟩ := hSw; go_simp; (try with_reducible rfl))
    simp only [Act.put]
    refine Z_take (i := 3) (v := ?_) rfl (by kernel_rfl) (by kernel_rfl) (by kernel_rfl) (by kernel_rfl) (fun _ _ _ h => h) (by rfl) hS0 ?_ ?_
    rotate_left
    · (intro w' hSw; obtain ⟨e0, e1, e2⟩ := hSw; go_simp; (try with_reducible rfl))
    simp only [Act.put]
    refine Z_take (i := 4) (v := ?_) rfl (by kernel_rfl) (by kernel_rfl) (by kernel_rfl) (by kernel_rfl) (fun _ _ _ h => h) (by rfl) hS0 ?_ ?_
    rotate_left
    · (intro w' hSw; obtain ⟨e0, e1, e2⟩ := hSw; go_simp; (try with_reducible rfl))
    simp only [Act.put]
    refine Z_take (i := 6) (v := ?_) rfl (by kernel_rfl) (by kernel_rfl) (by kernel_rfl) (by kernel_rfl) (fun _ _ _ h => h) (by rfl) hS0 ?_ ?_
    rotate_left
    · (intro w' hSw; obtain ⟨e0, e1, e2⟩ := hSw; go_simp; (try with_reducible rfl))
    simp only [Act.put]
    refine Z_take (i := 7) (v := ?_) rfl (by kernel_rfl) (by kernel_rfl) (by kernel_rfl) (by kernel_rfl) (fun _ _ _ h => h) (by rfl) hS0 ?_ ?_
    rotate_left
    · (intro w' hSw; obtain ⟨e0, e1, e2⟩ := hSw; go_simp; (try with_reducible rfl))
    simp only [Act.put]
    refine Z_take (i := 8) (v := ?_) rfl (by kernel_rfl) (by kernel_rfl) (by kernel_rfl) (by kernel_rfl) (fun _ _ _ h => h) (by rfl) hS0 ?_ ?_
    rotate_left
    · (intro w' hSw; obtain ⟨e0, e1, e2⟩ := hSw; go_simp; (try with_reducible rfl))
    simp only [Act.put]
    refine Z_take (i := 10) (v := ?_) rfl (by kernel_rfl) (by kernel_rfl) (by kernel_rfl) (by kernel_rfl) (fun _ _ _ h => h) (by rfl) hS0 ?_ ?_
    rotate_left
    · (intro w' hSw; obtain ⟨e0, e1, e2⟩ := hSw; go_simp; (try with_reducible rfl))
    simp only [Act.put]
    refine Z_take (i := 11) (v := ?_) rfl (by kernel_rfl) (by kernel_rfl) (by kernel_rfl) (by kernel_rfl) (fun _ _ _ h => h) (by rfl) hS0 ?_ ?_
    rotate_left
    · (intro w' hSw; obtain ⟨e0, e1, e2⟩ := hSw; go_simp; (try with_reducible rfl))
    simp only [Act.put]
    refine Z_take (i := 12) (v := ?_) rfl (by kernel_rfl) (by kernel_rfl) (by kernel_rfl) (by kernel_rfl) (fun _ _ _ h => h) (by rfl) hS0 ?_ ?_
    rotate_left
    · (intro w' hSw; obtain ⟨e0, e1, e2⟩ := hSw; go_simp; (try with_reducible rfl))
    simp only [Act.put]
    refine Z_step (i := 2) (by kernel_rfl) rfl (fun K hK => ?_)
    go_simp
    refine hN1.mono ?_
    clear hN1
    rintro e w4 ⟨rfl, hw4⟩
    have bw4 : Below W2.heap.size W2 w4 := ⟨hw4.os, hw4.tape, hw4.output, hw4.size, hw4.block⟩
    have hS4 := HC.out _ bw4
    have hN2 := HN2.out _ bw4; clear HN2; refine hK _ _ (fun _ => hS4) ?_
    clear hK K
    refine Z_step (i := 5) (by kernel_rfl) rfl (fun K hK => ?_)
    go_simp
    refine hN2.mono ?_
    clear hN2
    rintro e w5 ⟨rfl, hw5⟩
    have bw5 : Below W2.heap.size W2 w5 := bw4.trans (hw5.mono bw4.size)
    have hS5 := HC.out _ bw5
    have hN3 := HN3.out _ bw5; clear HN3; refine hK _ _ (fun _ => hS5) ?_
    clear hK K
    refine Z_step (i := 9) (by kernel_rfl) rfl (fun K hK => ?_)
    go_simp
    refine hN3.mono ?_
    clear hN3
    rintro e w6 ⟨rfl, hw6⟩
    have bw6 : Below W2.heap.size W2 w6 := bw5.trans (hw6.mono bw5.size)
    have hS6 := HC.out _ bw6
    refine hK _ _ (fun _ => hS6) ?_
    clear hK K
    have hbN : Below W2.heap.size W2 (w6.alloc (.cells #[.string (bs I1), .string (bs I2), .string (bs I3), .string (bs V)] 9)) := bw6.alloc bw6.size _
    have hownN := HOw.out _ hbN
    have hSN := HC.out _ hbN
    have hwN : w.heap.size ≤ (w6.alloc (.cells #[.string (bs I1), .string (bs I2), .string (bs I3), .string (bs V)] 9)).heap.size := Nat.le_trans HB2.out.size hbN.size
    refine Z_step (i := 13) (by kernel_rfl) rfl (fun K hK => ?_)
    go_simp
    refine hK _ _ (fun _ => hSN) ?_
    clear hK K
    refine Z_step (i := 14) (by kernel_rfl) rfl (fun K hK => ?_)
    refine step_append_lies _ (by rfl) _ _ 57 (by rfl) w.heap.size 9 i0 (.string ⟨#[]⟩) 1 16 Tryd.underlying57 HI.out.1 HI.out.2.1 HI.out.2.2.1 HI.out.2.2.2 rfl (by decide) _ M.length (strs M) (by rfl) hownN ⟨w6.heap.size, 0, none⟩ 4 4 [.string (bs I1), .string (bs I2), .string (bs I3), .string (bs V)] (by rfl) rfl (World.news_of_block (heap_alloc_new w6 _)) (by simp [Value.oneCell']) (by decide) hml hmb hwN _ rfl ?_
    intro ga ca w7 hown7 hgrow hat hlt7
    have hXo : some X ≠ (Value.slice ua M.length uc).ownBlock := fun h => by
      have := HOX.out X h.symm
      omega
    have hlXN : X < (w6.alloc (.cells #[.string (bs I1), .string (bs I2), .string (bs I3), .string (bs V)] 9)).heap.size := Nat.lt_of_lt_of_le hlX hbN.size
    have hbl := hgrow.block X hlXN hXo
    have hS7 : w7.cell? ⟨X, 0, none⟩ = some (.int .i64 N) ∧ w7.cell? ⟨X, 1, none⟩ = some (.int .i64 E) ∧ w7.cell? ⟨X, 2, none⟩ = some (.string (bs V)) :=
      ⟨(World.cell?_of_block (a := ⟨X, 0, none⟩) hbl).trans hSN.1, (World.cell?_of_block (a := ⟨X, 1, none⟩) hbl).trans hSN.2.1, (World.cell?_of_block (a := ⟨X, 2, none⟩) hbl).trans hSN.2.2⟩
    have HO7 : Hid (w7.ownsRow w.heap.size 9 1 (.slice (some ⟨ga, 0, none⟩) (M.length + 4) ca) (contTo tt c (j + 1)).length (strs (contTo tt c (j + 1)))) := by
      rw [HM.out, strs_append, List.length_append]
      exact hown7
    have HB7 : Hid (Below w.heap.size w w7) := (HB2.out.trans (hbN.mono HB2.out.size)).grown hgrow hwN (fun k hk => (hownN.lt k hk).1)
    refine hK _ _ (fun _ => hS7) ?_
    clear hK K hown7 hgrow hat hlt7 hbl hXo hlXN hownN hSN hwN hbN HOw
    refine Z_step (i := 15) (by kernel_rfl) rfl (fun K hK => ?_)
    go_simp
    refine hK _ _ (fun h => absurd rfl h) (Z_done (by kernel_rfl) ?_ _)
    clear hK K
    go_wp2
    go_roundg (8 - (j + 1))
    case measure => omega
    case rel => exact ⟨j + 1, _, by omega, rfl, rfl, HO7.out, HB7.out⟩
end
end Go.Proofs.YtgmobjdjojffgaaDoor
