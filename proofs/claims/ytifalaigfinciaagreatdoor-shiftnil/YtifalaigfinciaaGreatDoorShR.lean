/- The round that lays a fill: its operations, in whatever order they come. -/
import Derived.Test.YtifalaigfinciaaGreatDoorShF
namespace Go.Proofs.YtifalaigfinciaaGreatDoor
open Go.RowKit Go.Shelf
attribute [local go_sem] Oper.semAt_some

theorem oper_round {F : Fence} {n : Nat} {P : Program} {o : Oper} {a : Act} {w : World} {K : Act → World → Prop} {Q : Exit → Act → World → Prop} (l : Nat) (hd : ∀ c, o.op ≠ .defer c) (h : Oper.wpIn F n P o a w K Q) : Oper.wpIn (F.inRound l) n P o a w K Q := by
  unfold Oper.wpIn at h ⊢
  rw [Oper.semAt_plain F _ _ hd] at h
  rw [Oper.semAt_plain (F.inRound l) _ _ hd]
  exact h
theorem any_round {F : Fence} {n : Nat} {P : Program} {md : Region.Mode} {ops : Array Oper} {Q : Exit → Act → World → Prop} (l : Nat) (hd : ∀ (i : Nat) (o : Oper), ops[i]? = some o → ∀ c, o.op ≠ .defer c) :
    ∀ (fuel : Nat) (listed : Array Bool) (a : Act) (w : World), wpAnyIn F n P md ops Q fuel listed a w → wpAnyIn (F.inRound l) n P md ops Q fuel listed a w := by
  intro fuel
  induction fuel with
  | zero => intro listed a w h; exact h
  | succ fuel ih =>
    intro listed a w h
    refine ⟨h.1, fun i hi => ?_⟩
    have h2 := wpOpIn_mono (fun a w hh => ih _ a w hh) (h.2 i hi)
    unfold wpOpIn at h2 ⊢
    split
    · rename_i ho; simpa [ho] using h2
    · rename_i o ho
      simp only [ho] at h2
      split
      · rename_i hw; simp only [hw, if_true] at h2; exact oper_round l (hd i o ho) h2
      · rename_i hw; simp only [hw] at h2; exact h2
theorem step_append_run {F : Fence} {n : Nat} {P : Program} {ops : Array Oper} {o : Oper} {a : Act} {w : World} {K : Act → World → Prop} {Q : Exit → Act → World → Prop} {E : Prop} (hgd : o.guard = none) (s x : Operand) (t : TypeId)
    (ho : o.op = .call { callee := .builtin .append, args := #[s, x], argTypes := #[t, t] }) (vs vx : Value) (hs : a.eval s = vs) (hx : a.eval x = vx) (v' : Value) (w' : World) (hrun : (Builtin.append_ #[t, t] o.type #[vs, vx]).run P w = .ok v' w') (h : K (a.put o.dst v') w') :
    if Region.wanted o (yielded ops a.tmps) = true then Oper.wpIn F n P o a w K Q else E := by
  have hw : Region.wanted o (yielded ops a.tmps) = true := by simp [Region.wanted, hgd]
  rw [if_pos hw]
  unfold Oper.wpIn
  refine ⟨?_, ?_⟩
  · simp [Oper.about, ho, resolve, Target.leads, Sem.run_pure]
  · rw [Oper.semAt_plain F _ _ (by rw [ho]; intro c hc'; cases hc')]
    simp [execOp, ho, resolve, invoke, builtin, hs, hx, hrun, Result.andThen]
    exact h

def planOps : Array Oper :=
  #[{ dst := some 17, op := Op.load 37 (Operand.tmp 6), type := 37, pos := "shift.go:150", after := #[], guard := none },
    { dst := some 18, op := Op.move (Operand.tmp 7), type := 3, pos := "shift.go:150", after := #[], guard := none },
    { dst := some 19, op := Op.load 40 (Operand.tmp 1), type := 40, pos := "shift.go:150", after := #[], guard := none },
    { dst := some 20, op := Op.move (Operand.tmp 7), type := 3, pos := "shift.go:150", after := #[], guard := none },
    { dst := some 21, op := Op.call { callee := Callee.value (Operand.func 16), args := #[Operand.tmp 19, Operand.tmp 20], argTypes := #[40, 3] }, type := 9, pos := "shift.go:150", after := #[{ on := 2, ground := Ground.data }, { on := 3, ground := Ground.data }], guard := none },
    { dst := some 22, op := Op.build 42 #[(0, Operand.tmp 18), (1, Operand.tmp 21)], type := 42, pos := "shift.go:150", after := #[{ on := 1, ground := Ground.data }, { on := 4, ground := Ground.data }], guard := none },
    { dst := some 23, op := Op.buildSlice 37 1 #[(0, Operand.tmp 22)], type := 37, pos := "shift.go:150", after := #[{ on := 5, ground := Ground.data }], guard := none },
    { dst := some 24, op := Op.call { callee := Callee.builtin Builtin.append, args := #[Operand.tmp 17, Operand.tmp 23], argTypes := #[37, 37] }, type := 37, pos := "shift.go:150", after := #[{ on := 0, ground := Ground.data }, { on := 6, ground := Ground.data }, { on := 4, ground := Ground.chain }], guard := none },
    { dst := none, op := Op.store 37 (Operand.tmp 6) (Operand.tmp 24), type := 0, pos := "shift.go:150", after := #[{ on := 7, ground := Ground.data }, { on := 7, ground := Ground.chain }, { on := 0, ground := Ground.phase }, { on := 1, ground := Ground.phase }, { on := 2, ground := Ground.phase }, { on := 3, ground := Ground.phase }, { on := 4, ground := Ground.phase }, { on := 5, ground := Ground.phase }, { on := 6, ground := Ground.phase }, { on := 7, ground := Ground.phase }], guard := none }]
theorem planOps_plain : ∀ (i : Nat) (o : Oper), planOps[i]? = some o → ∀ c, o.op ≠ .defer c := by
  intro i o h c hc
  have hm : o ∈ planOps := Array.mem_of_getElem? h
  simp only [planOps, List.mem_toArray, List.mem_cons, List.not_mem_nil, or_false] at hm
  rcases hm with rfl | rfl | rfl | rfl | rfl | rfl | rfl | rfl | rfl <;> cases hc

set_option maxRecDepth 100000 in
set_option maxHeartbeats 2000000 in
theorem plan_region (n : Nat) (hn1 : 1 ≤ n) (Qx : Exit → Act → World → Prop) (G : World → Prop) (Q R : Nat) (x : Int) (u V : Value) (BT : List UInt8) (W : World) (T0 T2 T3 T4 T5 T8 T9 T10 T11 T12 T13 T14 T15 T16 : Value)
    (hQp : ∀ c a v d w, Qx (.panic c) (a.put d v) w → Qx (.panic c) a w)
    (hR : R < W.heap.size) (hc : W.cell? ⟨R, 0, none⟩ = some u) (hcq : W.cell? ⟨Q, 0, none⟩ = some V)
    (hbat : Calls Tryz.prog 16 #[V, .int .i64 x] W.drew fun e W' => e = .returned (.string (bs BT)) ∧ Below W.heap.size W.drew W')
    (HAP : Hid (∀ w3, Below W.heap.size W.drew w3 → ∃ g' k' cap' w', (Builtin.append_ #[37, 37] 37 #[u, .slice (some ⟨w3.heap.size, 0, none⟩) 1 1]).run Tryz.prog (w3.alloc (.cells #[.int .i64 x, .string (bs BT)] 42)) = .ok (.slice (some ⟨g', 0, none⟩) k' cap') w' ∧
        w'.cell? ⟨R, 0, none⟩ = some u ∧ w'.frozen? ⟨R, 0, none⟩ = false ∧ G (w'.setCell ⟨R, 0, none⟩ (.slice (some ⟨g', 0, none⟩) k' cap'))))
    (hfin : ∀ a w4, a.defers = [] → G w4 → Qx .normal a w4) :
    wpAnyIn Fence.wide n Tryz.prog .any planOps Qx 9 (Array.replicate 9 false) { tmps := #[T0, .pointer (some ⟨Q, 0, none⟩), T2, T3, T4, T5, .pointer (some ⟨R, 0, none⟩), .int .i64 x, T8, T9, T10, T11, T12, T13, T14, T15, T16, undef, undef, undef, undef, undef, undef, undef, undef, undef, undef], defers := [] } W.drew := by
  have hJ : ∀ w3, Below W.heap.size W.drew w3 → ∀ li, li = #[true, true, true, true, true, true, true, false, false] → wpAnyIn Fence.wide n Tryz.prog .any planOps Qx 2 li { tmps := #[T0, .pointer (some ⟨Q, 0, none⟩), T2, T3, T4, T5, .pointer (some ⟨R, 0, none⟩), .int .i64 x, T8, T9, T10, T11, T12, T13, T14, T15, T16, u, .int .i64 x, V, .int .i64 x, .string (bs BT), .agg #[.int .i64 x, .string (bs BT)], .slice (some ⟨w3.heap.size, 0, none⟩) 1 1, undef, undef, undef], defers := [] } (w3.alloc (.cells #[.int .i64 x, .string (bs BT)] 42)) := by
    intro w3 hb3 li hli
    subst hli
    refine wpAnyIn_ready (rs := [7]) (by kernel_rfl) (by simp) ?_
    refine AllReadyIn.cons (o := { dst := some 24, op := Op.call { callee := Callee.builtin Builtin.append, args := #[Operand.tmp 17, Operand.tmp 23], argTypes := #[37, 37] }, type := 37, pos := "shift.go:150", after := #[{ on := 0, ground := Ground.data }, { on := 6, ground := Ground.data }, { on := 4, ground := Ground.chain }], guard := none }) rfl (fun K hK => ?_) ?_
    · obtain ⟨g', k', cap', w', hrun, k1, k2, k3⟩ := HAP.out w3 hb3
      refine step_append_run rfl (.tmp 17) (.tmp 23) 37 rfl u (.slice (some ⟨w3.heap.size, 0, none⟩) 1 1) rfl rfl (.slice (some ⟨g', 0, none⟩) k' cap') w' hrun ?_
      refine hK _ _ ?_
      clear hK K
      refine wpAnyIn_ready (rs := [8]) (by kernel_rfl) (by simp) ?_
      refine AllReadyIn.cons (o := { dst := none, op := Op.store 37 (Operand.tmp 6) (Operand.tmp 24), type := 0, pos := "shift.go:150", after := #[{ on := 7, ground := Ground.data }, { on := 7, ground := Ground.chain }, { on := 0, ground := Ground.phase }, { on := 1, ground := Ground.phase }, { on := 2, ground := Ground.phase }, { on := 3, ground := Ground.phase }, { on := 4, ground := Ground.phase }, { on := 5, ground := Ground.phase }, { on := 6, ground := Ground.phase }, { on := 7, ground := Ground.phase }], guard := none }) rfl (fun K hK => ?_) AllReadyIn.nil
      clear hrun
      go_simp
      refine hK _ _ (wpAnyIn_done (by kernel_rfl) ?_ _)
      exact hfin _ _ rfl k3
    exact AllReadyIn.nil
  have hI : ∀ w3, Below W.heap.size W.drew w3 → ∀ li, li = #[false, true, true, true, true, true, true, false, false] → wpAnyIn Fence.wide n Tryz.prog .any planOps Qx 3 li { tmps := #[T0, .pointer (some ⟨Q, 0, none⟩), T2, T3, T4, T5, .pointer (some ⟨R, 0, none⟩), .int .i64 x, T8, T9, T10, T11, T12, T13, T14, T15, T16, undef, .int .i64 x, V, .int .i64 x, .string (bs BT), .agg #[.int .i64 x, .string (bs BT)], .slice (some ⟨w3.heap.size, 0, none⟩) 1 1, undef, undef, undef], defers := [] } (w3.alloc (.cells #[.int .i64 x, .string (bs BT)] 42)) := by
    intro w3 hb3 li hli
    subst hli
    refine wpAnyIn_ready (rs := [0]) (by kernel_rfl) (by simp) ?_
    refine AllReadyIn.cons (o := { dst := some 17, op := Op.load 37 (Operand.tmp 6), type := 37, pos := "shift.go:150", after := #[], guard := none }) rfl (fun K hK => ?_) ?_
    · have hc3 := (hb3.cell (p := ⟨R, 0, none⟩) hR).trans hc
      have hc3b := (((Below.refl w3.heap.size w3).alloc (Nat.le_refl _) (.cells #[.int .i64 x, .string (bs BT)] 42)).cell (p := ⟨R, 0, none⟩) (Nat.lt_of_lt_of_le hR hb3.size)).trans hc3
      go_simp
      exact hK _ _ (hJ w3 hb3 _ (by rfl))
    exact AllReadyIn.nil
  have hH : ∀ w3, Below W.heap.size W.drew w3 → ∀ li, li = #[true, true, true, true, true, true, false, false, false] → wpAnyIn Fence.wide n Tryz.prog .any planOps Qx 3 li { tmps := #[T0, .pointer (some ⟨Q, 0, none⟩), T2, T3, T4, T5, .pointer (some ⟨R, 0, none⟩), .int .i64 x, T8, T9, T10, T11, T12, T13, T14, T15, T16, u, .int .i64 x, V, .int .i64 x, .string (bs BT), .agg #[.int .i64 x, .string (bs BT)], undef, undef, undef, undef], defers := [] } w3 := by
    intro w3 hb3 li hli
    subst hli
    refine wpAnyIn_ready (rs := [6]) (by kernel_rfl) (by simp) ?_
    refine AllReadyIn.cons (o := { dst := some 23, op := Op.buildSlice 37 1 #[(0, Operand.tmp 22)], type := 37, pos := "shift.go:150", after := #[{ on := 5, ground := Ground.data }], guard := none }) rfl (fun K hK => ?_) ?_
    · go_simp
      exact hK _ _ (hJ w3 hb3 _ (by rfl))
    exact AllReadyIn.nil
  have hG : ∀ w3, Below W.heap.size W.drew w3 → ∀ li, li = #[false, true, true, true, true, true, false, false, false] → wpAnyIn Fence.wide n Tryz.prog .any planOps Qx 4 li { tmps := #[T0, .pointer (some ⟨Q, 0, none⟩), T2, T3, T4, T5, .pointer (some ⟨R, 0, none⟩), .int .i64 x, T8, T9, T10, T11, T12, T13, T14, T15, T16, undef, .int .i64 x, V, .int .i64 x, .string (bs BT), .agg #[.int .i64 x, .string (bs BT)], undef, undef, undef, undef], defers := [] } w3 := by
    intro w3 hb3 li hli
    subst hli
    refine wpAnyIn_ready (rs := [0, 6]) (by kernel_rfl) (by simp) ?_
    refine AllReadyIn.cons (o := { dst := some 17, op := Op.load 37 (Operand.tmp 6), type := 37, pos := "shift.go:150", after := #[], guard := none }) rfl (fun K hK => ?_) ?_
    · have hc3 := (hb3.cell (p := ⟨R, 0, none⟩) hR).trans hc
      have hc3b := (((Below.refl w3.heap.size w3).alloc (Nat.le_refl _) (.cells #[.int .i64 x, .string (bs BT)] 42)).cell (p := ⟨R, 0, none⟩) (Nat.lt_of_lt_of_le hR hb3.size)).trans hc3
      go_simp
      exact hK _ _ (hH w3 hb3 _ (by rfl))
    refine AllReadyIn.cons (o := { dst := some 23, op := Op.buildSlice 37 1 #[(0, Operand.tmp 22)], type := 37, pos := "shift.go:150", after := #[{ on := 5, ground := Ground.data }], guard := none }) rfl (fun K hK => ?_) ?_
    · go_simp
      exact hK _ _ (hI w3 hb3 _ (by rfl))
    exact AllReadyIn.nil
  have hF : ∀ w3, Below W.heap.size W.drew w3 → ∀ li, li = #[true, true, true, true, true, false, false, false, false] → wpAnyIn Fence.wide n Tryz.prog .any planOps Qx 4 li { tmps := #[T0, .pointer (some ⟨Q, 0, none⟩), T2, T3, T4, T5, .pointer (some ⟨R, 0, none⟩), .int .i64 x, T8, T9, T10, T11, T12, T13, T14, T15, T16, u, .int .i64 x, V, .int .i64 x, .string (bs BT), undef, undef, undef, undef, undef], defers := [] } w3 := by
    intro w3 hb3 li hli
    subst hli
    refine wpAnyIn_ready (rs := [5]) (by kernel_rfl) (by simp) ?_
    refine AllReadyIn.cons (o := { dst := some 22, op := Op.build 42 #[(0, Operand.tmp 18), (1, Operand.tmp 21)], type := 42, pos := "shift.go:150", after := #[{ on := 1, ground := Ground.data }, { on := 4, ground := Ground.data }], guard := none }) rfl (fun K hK => ?_) ?_
    · go_simp
      exact hK _ _ (hH w3 hb3 _ (by rfl))
    exact AllReadyIn.nil
  have hE : ∀ w3, Below W.heap.size W.drew w3 → ∀ li, li = #[false, true, true, true, true, false, false, false, false] → wpAnyIn Fence.wide n Tryz.prog .any planOps Qx 5 li { tmps := #[T0, .pointer (some ⟨Q, 0, none⟩), T2, T3, T4, T5, .pointer (some ⟨R, 0, none⟩), .int .i64 x, T8, T9, T10, T11, T12, T13, T14, T15, T16, undef, .int .i64 x, V, .int .i64 x, .string (bs BT), undef, undef, undef, undef, undef], defers := [] } w3 := by
    intro w3 hb3 li hli
    subst hli
    refine wpAnyIn_ready (rs := [0, 5]) (by kernel_rfl) (by simp) ?_
    refine AllReadyIn.cons (o := { dst := some 17, op := Op.load 37 (Operand.tmp 6), type := 37, pos := "shift.go:150", after := #[], guard := none }) rfl (fun K hK => ?_) ?_
    · have hc3 := (hb3.cell (p := ⟨R, 0, none⟩) hR).trans hc
      have hc3b := (((Below.refl w3.heap.size w3).alloc (Nat.le_refl _) (.cells #[.int .i64 x, .string (bs BT)] 42)).cell (p := ⟨R, 0, none⟩) (Nat.lt_of_lt_of_le hR hb3.size)).trans hc3
      go_simp
      exact hK _ _ (hF w3 hb3 _ (by rfl))
    refine AllReadyIn.cons (o := { dst := some 22, op := Op.build 42 #[(0, Operand.tmp 18), (1, Operand.tmp 21)], type := 42, pos := "shift.go:150", after := #[{ on := 1, ground := Ground.data }, { on := 4, ground := Ground.data }], guard := none }) rfl (fun K hK => ?_) ?_
    · go_simp
      exact hK _ _ (hG w3 hb3 _ (by rfl))
    exact AllReadyIn.nil
  have hD : ∀ li, li = #[true, true, true, true, false, false, false, false, false] → wpAnyIn Fence.wide n Tryz.prog .any planOps Qx 5 li { tmps := #[T0, .pointer (some ⟨Q, 0, none⟩), T2, T3, T4, T5, .pointer (some ⟨R, 0, none⟩), .int .i64 x, T8, T9, T10, T11, T12, T13, T14, T15, T16, u, .int .i64 x, V, .int .i64 x, undef, undef, undef, undef, undef, undef], defers := [] } W.drew := by
    intro li hli
    subst hli
    refine wpAnyIn_ready (rs := [4]) (by kernel_rfl) (by simp) ?_
    refine AllReadyIn.cons (o := { dst := some 21, op := Op.call { callee := Callee.value (Operand.func 16), args := #[Operand.tmp 19, Operand.tmp 20], argTypes := #[40, 3] }, type := 9, pos := "shift.go:150", after := #[{ on := 2, ground := Ground.data }, { on := 3, ground := Ground.data }], guard := none }) rfl (fun K hK => ?_) ?_
    · go_simp
      refine ⟨trivial, (callsIn_wide.2 hbat).mono ?_⟩
      rintro e w3 ⟨rfl, hb3⟩
      exact hK _ _ (hF w3 hb3 _ (by rfl))
    exact AllReadyIn.nil
  have hC : ∀ li, li = #[false, true, true, true, false, false, false, false, false] → wpAnyIn Fence.wide n Tryz.prog .any planOps Qx 6 li { tmps := #[T0, .pointer (some ⟨Q, 0, none⟩), T2, T3, T4, T5, .pointer (some ⟨R, 0, none⟩), .int .i64 x, T8, T9, T10, T11, T12, T13, T14, T15, T16, undef, .int .i64 x, V, .int .i64 x, undef, undef, undef, undef, undef, undef], defers := [] } W.drew := by
    intro li hli
    subst hli
    refine wpAnyIn_ready (rs := [0, 4]) (by kernel_rfl) (by simp) ?_
    refine AllReadyIn.cons (o := { dst := some 17, op := Op.load 37 (Operand.tmp 6), type := 37, pos := "shift.go:150", after := #[], guard := none }) rfl (fun K hK => ?_) ?_
    · go_simp
      exact hK _ _ (hD _ (by rfl))
    refine AllReadyIn.cons (o := { dst := some 21, op := Op.call { callee := Callee.value (Operand.func 16), args := #[Operand.tmp 19, Operand.tmp 20], argTypes := #[40, 3] }, type := 9, pos := "shift.go:150", after := #[{ on := 2, ground := Ground.data }, { on := 3, ground := Ground.data }], guard := none }) rfl (fun K hK => ?_) ?_
    · go_simp
      refine ⟨trivial, (callsIn_wide.2 hbat).mono ?_⟩
      rintro e w3 ⟨rfl, hb3⟩
      exact hK _ _ (hE w3 hb3 _ (by rfl))
    exact AllReadyIn.nil
  have hB : ∀ li, li = #[true, true, false, true, false, false, false, false, false] → wpAnyIn Fence.wide n Tryz.prog .any planOps Qx 6 li { tmps := #[T0, .pointer (some ⟨Q, 0, none⟩), T2, T3, T4, T5, .pointer (some ⟨R, 0, none⟩), .int .i64 x, T8, T9, T10, T11, T12, T13, T14, T15, T16, u, .int .i64 x, undef, .int .i64 x, undef, undef, undef, undef, undef, undef], defers := [] } W.drew := by
    intro li hli
    subst hli
    refine wpAnyIn_ready (rs := [2]) (by kernel_rfl) (by simp) ?_
    refine AllReadyIn.cons (o := { dst := some 19, op := Op.load 40 (Operand.tmp 1), type := 40, pos := "shift.go:150", after := #[], guard := none }) rfl (fun K hK => ?_) ?_
    · go_simp
      exact hK _ _ (hD _ (by rfl))
    exact AllReadyIn.nil
  have hA : ∀ li, li = #[false, true, false, true, false, false, false, false, false] → wpAnyIn Fence.wide n Tryz.prog .any planOps Qx 7 li { tmps := #[T0, .pointer (some ⟨Q, 0, none⟩), T2, T3, T4, T5, .pointer (some ⟨R, 0, none⟩), .int .i64 x, T8, T9, T10, T11, T12, T13, T14, T15, T16, undef, .int .i64 x, undef, .int .i64 x, undef, undef, undef, undef, undef, undef], defers := [] } W.drew := by
    intro li hli
    subst hli
    refine wpAnyIn_ready (rs := [0, 2]) (by kernel_rfl) (by simp) ?_
    refine AllReadyIn.cons (o := { dst := some 17, op := Op.load 37 (Operand.tmp 6), type := 37, pos := "shift.go:150", after := #[], guard := none }) rfl (fun K hK => ?_) ?_
    · go_simp
      exact hK _ _ (hB _ (by rfl))
    refine AllReadyIn.cons (o := { dst := some 19, op := Op.load 40 (Operand.tmp 1), type := 40, pos := "shift.go:150", after := #[], guard := none }) rfl (fun K hK => ?_) ?_
    · go_simp
      exact hK _ _ (hC _ (by rfl))
    exact AllReadyIn.nil
  refine wpAnyIn_take (i := 1) (oi := { dst := some 18, op := Op.move (Operand.tmp 7), type := 3, pos := "shift.go:150", after := #[], guard := none }) (v := .int .i64 x) rfl rfl (by kernel_rfl) (by kernel_rfl) (by kernel_rfl) (fun c a w h => hQp c a _ _ w h) ⟨Or.inl ⟨by rfl, by intro w; go_simp⟩, fun _ => rfl⟩ ?_
  refine wpAnyIn_take (i := 3) (oi := { dst := some 20, op := Op.move (Operand.tmp 7), type := 3, pos := "shift.go:150", after := #[], guard := none }) (v := .int .i64 x) rfl rfl (by kernel_rfl) (by kernel_rfl) (by kernel_rfl) (fun c a w h => hQp c a _ _ w h) ⟨Or.inl ⟨by rfl, by intro w; go_simp⟩, fun _ => rfl⟩ ?_
  exact hA _ (by rfl)
end Go.Proofs.YtifalaigfinciaaGreatDoor
