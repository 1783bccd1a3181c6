/- The shards of clients' numbers: a map by a struct, walked. -/
import Derived.Test.YtihilkdokfdoeaaDoorPlA
import Derived.Test.YtihilkdokfdoeaaDoorPrY
namespace Go.Proofs.YtihilkdokfdoeaaDoor
open Go.RowKit Go.Maps
attribute [local go_sem ↓] Go.wp_at_zero Go.wp_at_succ

/-- The shard of a client's number: of the first such call of the first n. -/
def shF (calls : List Cl) (c m : Int) : Nat → Option Nat
  | 0 => none
  | n + 1 => match shF calls c m n with
    | some p => some p
    | none => match calls[n]? with
      | some x => if ck x = (c, m) then some (plcK x.op.k) else none
      | none => none
theorem shF_some {calls : List Cl} {c m : Int} {n p : Nat} (h : shF calls c m n = some p) : shF calls c m (n + 1) = some p := by rw [shF, h]
theorem shF_hit {calls : List Cl} {c m : Int} {n : Nat} {x : Cl} (h : shF calls c m n = none) (hx : calls[n]? = some x) (hk : ck x = (c, m)) : shF calls c m (n + 1) = some (plcK x.op.k) := by rw [shF, h, hx]; simp [hk]
theorem shF_miss {calls : List Cl} {c m : Int} {n : Nat} {x : Cl} (hx : calls[n]? = some x) (hk : ¬ ck x = (c, m)) : shF calls c m (n + 1) = shF calls c m n := by
  rw [shF, hx]
  cases h : shF calls c m n with
  | some p => rfl
  | none => simp [hk]
/-- A map has just the shards of the first n. -/
structure QS (calls : List Cl) (n : Nat) (Q : List (Int × Int × Int)) : Prop where
  len : Q.length ≤ n
  wf : ∀ a ∈ Q, wfK (a.1, a.2.1)
  mem : ∀ a : Int × Int × Int, a ∈ Q ↔ ∃ i : Nat, shF calls a.1 a.2.1 n = some i ∧ a.2.2 = i
theorem QS.nil (calls : List Cl) : QS calls 0 [] := ⟨Nat.le_refl _, fun _ h => (by cases h), fun a => ⟨fun h => (by cases h), fun h => by obtain ⟨i, h, _⟩ := h; cases h⟩⟩
theorem QS.keep {calls : List Cl} {n p : Nat} {Q : List (Int × Int × Int)} (h : QS calls n Q) {x : Cl} (hx : calls[n]? = some x) (hp : shF calls x.cl x.no n = some p) : QS calls (n + 1) Q := by
  refine ⟨by have := h.len; omega, h.wf, fun a => ?_⟩
  rw [h.mem]
  by_cases e : ck x = (a.1, a.2.1)
  · have e1 : x.cl = a.1 := congrArg Prod.fst e
    have e2 : x.no = a.2.1 := congrArg Prod.snd e
    rw [← e1, ← e2, hp, shF_some hp]
  · rw [shF_miss hx e]
theorem QS.add {calls : List Cl} {n : Nat} {Q : List (Int × Int × Int)} (h : QS calls n Q) {x : Cl} (hx : calls[n]? = some x) (hp : shF calls x.cl x.no n = none) (hw : wfK (ck x)) : QS calls (n + 1) (updQ Q x.cl x.no (plcK x.op.k)) := by
  refine ⟨?_, fun a ha => ?_, fun a => ?_⟩
  · rw [updQ, List.length_append]
    have := List.length_filter_le (fun a : Int × Int × Int => !(a.1 == x.cl && a.2.1 == x.no)) Q
    have := h.len
    simp only [List.length_cons, List.length_nil]
    omega
  · rcases List.mem_append.1 ha with ha | ha
    · exact h.wf a (List.mem_filter.1 ha).1
    · simp at ha
      subst ha
      exact hw
  · rw [updQ, List.mem_append, List.mem_filter, h.mem]
    by_cases e : ck x = (a.1, a.2.1)
    · have e1 : x.cl = a.1 := congrArg Prod.fst e
      have e2 : x.no = a.2.1 := congrArg Prod.snd e
      rw [e1, e2] at hp
      rw [shF_hit hp hx e, e1, e2]
      constructor
      · rintro (⟨_, h2⟩ | h2)
        · simp at h2
        · simp at h2
          exact ⟨_, rfl, by rw [h2]⟩
      · rintro ⟨i, h1, h2⟩
        injection h1 with h1
        subst h1
        right
        simp
        obtain ⟨x, y, z⟩ := a
        simp at h2 ⊢
        exact h2
    · have hne : ¬ (a.1 = x.cl ∧ a.2.1 = x.no) := fun h' => e (by rw [h'.1, h'.2]; rfl)
      rw [shF_miss hx e]
      constructor
      · rintro (⟨h1, _⟩ | h2)
        · exact h1
        · simp at h2
          exact absurd ⟨by rw [h2], by rw [h2]⟩ hne
      · intro h1
        left
        refine ⟨h1, ?_⟩
        have hne2 : (a.1 == x.cl && a.2.1 == x.no) = false := by
          rw [Bool.and_eq_false_iff]
          by_cases e1 : a.1 = x.cl
          · right; simpa using fun h' => hne ⟨e1, h'⟩
          · left; simpa using e1
        rw [hne2]; rfl
set_option maxRecDepth 20000 in
theorem Tryd.row81 : (81 : TypeId) < Tryd.prog.types.size := of_decide_eq_true (by kernel_rfl)
set_option maxRecDepth 20000 in
theorem Tryd.wide81 : (match Tryd.prog.underlying 81 with | some (.array _ _) | some (.struct _) => true | _ => false) = true := by rw [Tryd.underlying81]
set_option maxRecDepth 20000 in
theorem law81 : Keyed Tryd.prog 81 := Keyed.of_law (deep_law_laid Tryd.laidOut (m := 2) (by omega) Tryd.row81 (by kernel_rfl) Tryd.wide81)
set_option maxRecDepth 20000 in
theorem Tryd.cells81 : Tryd.prog.cellsOf 81 = 2 := by kernel_rfl
set_option maxRecDepth 20000 in
theorem Tryd.key81 : Tryd.prog.keyType 81 = true := by kernel_rfl
set_option maxRecDepth 20000 in
theorem keyOf_req {v n : Int} (hv : (Lit.int .i64 v).wf = true) (hn : (Lit.int .i64 n).wf = true) : keyOf Tryd.prog 81 (.agg #[.int .i64 v, .int .i64 n]) = some (pk v n) := by
  obtain ⟨m, hm⟩ := Tryd.tsize
  unfold keyOf
  rw [hm]
  simp [Tryd.underlying81, Tryd.key81, Value.formed, Tryd.cells81, Program.keyLits, Tryd.underlying3, Tryd.cells3, Value.cells, hv, hn, pk]
set_option maxRecDepth 20000 in
theorem look_s {w : World} {q : Nat} {calls : List Cl} {n : Nat} {Q : List (Int × Int × Int)} (h : MapAt w 81 (some q) (Q.map sent)) (hQ : QS calls n Q) {c m : Int} (hw : wfK (c, m)) :
    (Instr.lookup 72 (.map (some q)) (.agg #[.int .i64 c, .int .i64 m]) true).run Tryd.prog w = .ok (.tuple #[.int .i64 (((shF calls c m n).getD 0 : Nat) : Int), .bool (shF calls c m n).isSome]) w := by
  obtain ⟨h1, h2⟩ := h.look law81 Tryd.underlying72 (z := .int .i64 0) (by kernel_rfl) (keyOf_req hw.1 hw.2)
  cases e : shF calls c m n with
  | none =>
    refine h2 fun p hp => ?_
    obtain ⟨a, ha, rfl⟩ := List.mem_map.1 hp
    intro he
    obtain ⟨e1, e2⟩ := pk_inj (hQ.wf a ha).1 (hQ.wf a ha).2 hw.1 hw.2 he
    obtain ⟨i, h3, _⟩ := (hQ.mem a).1 ha
    have e1' : a.1 = c := e1
    have e2' : a.2.1 = m := e2
    rw [e1', e2', e] at h3
    cases h3
  | some i => exact h1 _ (List.mem_map.2 ⟨(c, m, (i : Int)), (hQ.mem _).2 ⟨i, e, rfl⟩, rfl⟩)
set_option maxRecDepth 20000 in
theorem store_s {w : World} {q : Nat} {calls : List Cl} {n : Nat} {Q : List (Int × Int × Int)} (h : MapAt w 81 (some q) (Q.map sent)) (hQ : QS calls n Q) (hn : n ≤ 100000) {x : Cl} (hx : calls[n]? = some x) (hp : shF calls x.cl x.no n = none) (hw : wfK (ck x)) :
    ∃ w', (Instr.mapUpdate 72 (.map (some q)) (.agg #[.int .i64 x.cl, .int .i64 x.no]) (.int .i64 (plcK x.op.k : Nat))).run Tryd.prog w = .ok () w' ∧ MapAt w' 81 (some q) ((updQ Q x.cl x.no (plcK x.op.k)).map sent) ∧ QS calls (n + 1) (updQ Q x.cl x.no (plcK x.op.k)) ∧ w.grownBy w' (some q) := by
  obtain ⟨w', h1, h2, h3⟩ := h.store law81 Tryd.underlying72 (by rw [List.length_map]; have := hQ.len; omega) (val := .int .i64 ((plcK x.op.k : Nat) : Int)) (keyOf_req hw.1 hw.2)
  rw [show (pk (ck x).1 (ck x).2) = pk x.cl x.no from rfl, filter_q hQ.wf (c := x.cl) (m := x.no) hw (plcK x.op.k)] at h2
  exact ⟨w', h1, h2, hQ.add hx hp hw, h3⟩
set_option maxRecDepth 20000 in
set_option maxHeartbeats 2000000 in
theorem shardsOf_any (calls : List Cl) (vc : Value) (w : World) (hc : SlF ccs 10 w vc calls) (hl : calls.length ≤ 100000) (hw : ∀ c ∈ calls, wfK (ck c)) (hk : ∀ c ∈ calls, c.op.k.length ≤ 140737488351232) (he : EnvK w) :
    Calls Tryd.prog 22 #[vc] w fun e W' => ∃ q Q, e = .returned (.map (some q)) ∧ MapAt W' 81 (some q) (Q.map sent) ∧ QS calls calls.length Q ∧ w.heap.size ≤ q ∧ Below w.heap.size w W' := by
  obtain ⟨va, vcap, rfl⟩ := hc.slice
  obtain ⟨N, hN⟩ : ∃ N, w.heap.size = N := ⟨_, rfl⟩
  have hm := MapAt.made w 81
  have hbm := (Below.refl w.heap.size w).alloc (Nat.le_refl _) (.map #[] 0)
  obtain ⟨W0, hW0⟩ : ∃ W, w.alloc (.map #[] 0) = W := ⟨_, rfl⟩
  have hz0 : W0.heap.size = N + 1 := by rw [← hW0, World.size_alloc, hN]
  rw [hW0, hN] at hm hbm
  have HM : Hid (MapAt W0 81 (some N) (([] : List (Int × Int × Int)).map sent) ∧ Below N w W0 ∧ W0.heap.size = N + 1) := ⟨hm, hbm, hz0⟩
  have HW0 : Hid (w.alloc (.map #[] 0) = W0) := hW0
  have HN : Hid (w.heap.size = N) := hN
  have HV : Hid (∀ W, Below N w W → SlF ccs 10 W (.slice va calls.length vcap) calls) := fun W hW => hc.on hW (by omega)
  have HE : Hid (∀ W, Below N w W → EnvK W) := fun W hW => he.below hW (by have := he.size; omega)
  have HLN : Hid (calls.length ≤ 100000) := hl
  have HK : Hid ((∀ c ∈ calls, wfK (ck c)) ∧ (∀ c ∈ calls, c.op.k.length ≤ 140737488351232) ∧ calls.length ≤ 100000) := ⟨hw, hk, hl⟩
  have hmm := @run_makeMap Tryd.prog
  clear hc hN hm hbm hW0 hz0 he hw hk hl
  go_enter Tryd.func22, Tryd.ntmps22
  go_upto_region 2 with fail
  rw [HW0.out]
  try rw [HN.out]
  clear hmm
  go_wp2_with fail
  go_loopg [12] calls.length (fun gk j wr => ∃ (n : Nat) (Q : List (Int × Int × Int)), n + gk = calls.length ∧ j = .int .i64 n ∧ MapAt wr 81 (some N) (Q.map sent) ∧ QS calls n Q ∧ Below N w wr ∧ N < wr.heap.size)
  case atStart => exact ⟨0, [], by omega, rfl, HM.out.1, QS.nil _, HM.out.2.1, by have := HM.out.2.2; omega⟩
  case round =>
    obtain ⟨n, Q, hnn, rfl, hM, hQ, hB, hNl⟩ := hrel
    by_cases hn1 : n = calls.length
    · subst hn1
      have HF : Hid (_ ∧ _ ∧ _) := ⟨hM, hQ, hB⟩
      clear hM hQ hB HV HE HK HM HW0
      go_wp2
      go_ret
      exact ⟨N, Q, rfl, HF.out.1, HF.out.2.1, by rw [HN.out]; exact Nat.le_refl _, by rw [HN.out]; exact HF.out.2.2⟩
    · have hn2 : n < calls.length := by omega
      obtain ⟨c, ho⟩ : ∃ c, calls[n]? = some c := ⟨_, List.getElem?_eq_getElem hn2⟩
      obtain ⟨g, e', hg', -, y⟩ := (HV.out _ hB).at ho
      subst hg'
      obtain ⟨cl, no, ⟨kind, k, v, od⟩, fr, tt, T, E⟩ := c
      have y0 : wr.cell? ⟨g, e' + n * 10, none⟩ = some (.int .i64 cl) := y 0 _ rfl
      have y1 : wr.cell? ⟨g, e' + n * 10 + 1, none⟩ = some (.int .i64 no) := y 1 _ rfl
      have y2 : wr.cell? ⟨g, e' + n * 10 + 2, none⟩ = some (.int .i64 kind) := y 2 _ rfl
      have y3 : wr.cell? ⟨g, e' + n * 10 + 3, none⟩ = some (.string (bs k)) := y 3 _ rfl
      have y4 : wr.cell? ⟨g, e' + n * 10 + 4, none⟩ = some (.string (bs v)) := y 4 _ rfl
      have y5 : wr.cell? ⟨g, e' + n * 10 + 5, none⟩ = some (.string (bs od)) := y 5 _ rfl
      have y6 : wr.cell? ⟨g, e' + n * 10 + 6, none⟩ = some (.int .i64 fr) := y 6 _ rfl
      have y7 : wr.cell? ⟨g, e' + n * 10 + 7, none⟩ = some (.int .i64 tt) := y 7 _ rfl
      have y8 : wr.cell? ⟨g, e' + n * 10 + 8, none⟩ = some (.int .i64 E) := y 8 _ rfl
      have y9 : wr.cell? ⟨g, e' + n * 10 + 9, none⟩ = some (.string (bs T)) := y 9 _ rfl
      have hnb : n ≤ 100000 := by have := HLN.out; omega
      have d0 : (0 : Int) ≤ (n : Int) := by omega
      have d1 : (n : Int) < (calls.length : Int) := by omega
      obtain ⟨D, hD⟩ : ∃ D, wr.heap.size = D := ⟨_, rfl⟩
      have hDN : N ≤ D := by have := hB.size; have := HN.out; omega
      have rD := heap_alloc_new wr (.cells #[.int .i64 cl, .int .i64 no, .int .i64 kind, .string (bs k), .string (bs v), .string (bs od), .int .i64 fr, .int .i64 tt, .int .i64 E, .string (bs T)] 51)
      have hbA := (Below.refl wr.heap.size wr).alloc (Nat.le_refl _) (.cells #[.int .i64 cl, .int .i64 no, .int .i64 kind, .string (bs k), .string (bs v), .string (bs od), .int .i64 fr, .int .i64 tt, .int .i64 E, .string (bs T)] 51)
      obtain ⟨WA, hWA⟩ : ∃ W, wr.alloc (.cells #[.int .i64 cl, .int .i64 no, .int .i64 kind, .string (bs k), .string (bs v), .string (bs od), .int .i64 fr, .int .i64 tt, .int .i64 E, .string (bs T)] 51) = W := ⟨_, rfl⟩
      rw [hWA] at rD hbA
      rw [hD] at rD hbA
      have hzA : WA.heap.size = D + 1 := by rw [← hWA, World.size_alloc, hD]
      have HWA : Hid (wr.alloc (.cells #[.int .i64 cl, .int .i64 no, .int .i64 kind, .string (bs k), .string (bs v), .string (bs od), .int .i64 fr, .int .i64 tt, .int .i64 E, .string (bs T)] 51) = WA) := hWA
      have HD : Hid (wr.heap.size = D) := hD
      have hBA : Below N w WA := hB.trans (hbA.mono hDN)
      have hwf := HK.out.1 _ (List.mem_of_getElem? ho)
      have hkl : k.length ≤ 140737488351232 := HK.out.2.1 _ (List.mem_of_getElem? ho)
      obtain ⟨p, hp⟩ : ∃ p, shF calls cl no n = p := ⟨_, rfl⟩
      have hbB := (Below.refl WA.heap.size WA).alloc (Nat.le_refl _) (.cells #[.int .i64 cl, .int .i64 no] 81)
      have rE := heap_alloc_new WA (.cells #[.int .i64 cl, .int .i64 no] 81)
      obtain ⟨WB, hWB⟩ : ∃ W, WA.alloc (.cells #[.int .i64 cl, .int .i64 no] 81) = W := ⟨_, rfl⟩
      have hzB : WB.heap.size = D + 2 := by rw [← hWB, World.size_alloc, hzA]
      rw [hWB] at hbB rE
      rw [hzA] at hbB rE
      have hBB : Below N w WB := hBA.trans (hbB.mono (by omega))
      have rDB := (hbB.block D (by omega)).trans rD
      have hMB : MapAt WB 81 (some N) (Q.map sent) := hM.keep fun b e => by
        injection e with e
        subst e
        have := hB.size
        have := HN.out
        exact (hbB.block N (by omega)).trans (hbA.block N (by omega))
      have hlk := look_s hMB hQ hwf
      have hlk' : (Instr.lookup 72 (.map (some N)) (.agg #[.int .i64 cl, .int .i64 no]) true).run Tryd.prog WB = .ok (.tuple #[.int .i64 ((p.getD 0 : Nat) : Int), .bool p.isSome]) WB := by rw [← hp]; exact hlk
      have HWB : Hid (WA.alloc (.cells #[.int .i64 cl, .int .i64 no] 81) = WB) := hWB
      have HzA : Hid (WA.heap.size = D + 1) := hzA
      have HF : Hid (MapAt WB 81 (some N) (Q.map sent) ∧ QS calls n Q ∧ Below N w WB ∧ WB.heap.size = D + 2 ∧ N < D) := ⟨hMB, hQ, hBB, hzB, by omega⟩
      have HG : Hid (calls[n]? = some ⟨cl, no, ⟨kind, k, v, od⟩, fr, tt, (T, E)⟩ ∧ shF calls cl no n = p ∧ k.length ≤ 140737488351232 ∧ wfK (cl, no)) := ⟨ho, hp, hkl, hwf⟩
      have x0 := cellB rD 0 _ rfl
      have x1 := cellB rD 1 _ rfl
      have x2 := cellB rD 2 _ rfl
      have x3 := cellB rD 3 _ rfl
      have x4 := cellB rD 4 _ rfl
      have x5 := cellB rD 5 _ rfl
      have x6 := cellB rD 6 _ rfl
      have x7 := cellB rD 7 _ rfl
      have x8 := cellB rD 8 _ rfl
      have x9 := cellB rD 9 _ rfl
      have u0 := cellB rE 0 _ rfl
      have u1 := cellB rE 1 _ rfl
      have HS : Hid (WB.heap[D]? = some (.cells #[.int .i64 cl, .int .i64 no, .int .i64 kind, .string (bs k), .string (bs v), .string (bs od), .int .i64 fr, .int .i64 tt, .int .i64 E, .string (bs T)] 51) ∧ WB.heap[D + 1]? = some (.cells #[.int .i64 cl, .int .i64 no] 81)) := ⟨rDB, rE⟩
      clear hB y hD hDN rD hbA hWA hzA hBA hwf hkl hp hbB rE hWB hzB hBB rDB hMB hlk hM hQ ho
      go_upto_region 5 with fail
      rw [HWA.out]
      try rw [HD.out]
      clear y0 y1 y2 y3 y4 y5 y6 y7 y8 y9 HWA HD
      go_upto_region 6 with fail
      rw [HWB.out]
      try rw [HzA.out]
      clear x0 x1 x2 x3 x4 x5 x6 x7 x8 x9 HWB HzA
      cases p with
      | some p =>
        have hlk2 : (Instr.lookup 72 (.map (some N)) (.agg #[.int .i64 cl, .int .i64 no]) true).run Tryd.prog WB = .ok (.tuple #[.int .i64 p, .bool true]) WB := hlk'
        have HF2 : Hid (MapAt WB 81 (some N) (Q.map sent) ∧ QS calls (n + 1) Q ∧ Below N w WB ∧ N < WB.heap.size) := ⟨HF.out.1, HF.out.2.1.keep HG.out.1 HG.out.2.1, HF.out.2.2.1, by have := HF.out.2.2.2; omega⟩
        clear hlk' HF HG HS HE
        go_wp2_with fail
        go_roundg (calls.length - (n + 1))
        case measure => omega
        case rel => exact ⟨n + 1, Q, by omega, by go_num, HF2.out.1, HF2.out.2.1, HF2.out.2.2.1, HF2.out.2.2.2⟩
      | none =>
        have hlk2 : (Instr.lookup 72 (.map (some N)) (.agg #[.int .i64 cl, .int .i64 no]) true).run Tryd.prog WB = .ok (.tuple #[.int .i64 0, .bool false]) WB := hlk'
        clear hlk'
        go_upto_region 8 with fail
        clear u0 u1 hlk2
        have hE := HE.out WB HF.out.2.2.1
        have HP : Hid (∀ W, Below (D + 2) WB W → Calls Tryd.prog 24 #[.agg #[.int .i64 cl, .int .i64 no, .int .i64 kind, .string (bs k), .string (bs v), .string (bs od), .int .i64 fr, .int .i64 tt, .int .i64 E, .string (bs T)]] W fun e W' => e = .returned (.int .i64 (plcK k)) ∧ Below (D + 2) WB W') := fun W hW => (shardOf_any cl no kind k v od fr tt E T W HG.out.2.2.1 (hE.below hW (by have := HF.out.2.2.2; omega))).mono fun e W' hh => ⟨hh.1, hW.trans (hh.2.mono (by have := hW.size; have := HF.out.2.2.2; omega))⟩
        refine region_Z 99 (fun W => W.heap[D]? = some (.cells #[.int .i64 cl, .int .i64 no, .int .i64 kind, .string (bs k), .string (bs v), .string (bs od), .int .i64 fr, .int .i64 tt, .int .i64 E, .string (bs T)] 51) ∧ W.heap[D + 1]? = some (.cells #[.int .i64 cl, .int .i64 no] 81)) (by kernel_rfl) ?_
        have hS0 : WB.drew.heap[D]? = some (.cells #[.int .i64 cl, .int .i64 no, .int .i64 kind, .string (bs k), .string (bs v), .string (bs od), .int .i64 fr, .int .i64 tt, .int .i64 E, .string (bs T)] 51) ∧ WB.drew.heap[D + 1]? = some (.cells #[.int .i64 cl, .int .i64 no] 81) := HS.out
        refine Y_take (i := 0) (v := ?_) rfl (by kernel_rfl) (by kernel_rfl) (by kernel_rfl) (by kernel_rfl) (fun _ _ _ h => h) (by rfl) hS0 ?_ ?_
        rotate_left
        · (intro w' hSw; obtain ⟨hS1, hS2⟩ := hSw; have p0 := cellB hS1 0 _ rfl; have p1 := cellB hS1 1 _ rfl; have p2 := cellB hS1 2 _ rfl; have p3 := cellB hS1 3 _ rfl; have p4 := cellB hS1 4 _ rfl; have p5 := cellB hS1 5 _ rfl; have p6 := cellB hS1 6 _ rfl; have p7 := cellB hS1 7 _ rfl; have p8 := cellB hS1 8 _ rfl; have p9 := cellB hS1 9 _ rfl; have q0 := cellB hS2 0 _ rfl; have q1 := cellB hS2 1 _ rfl; go_simp; (try with_reducible rfl))
        simp only [Act.put, List.setIfInBounds_toArray, List.getElem_toArray, List.getElem_cons_zero, List.set_cons_succ, List.set_cons_zero]
        refine Y_take (i := 1) (v := ?_) rfl (by kernel_rfl) (by kernel_rfl) (by kernel_rfl) (by kernel_rfl) (fun _ _ _ h => h) (by rfl) hS0 ?_ ?_
        rotate_left
        · (intro w' hSw; obtain ⟨hS1, hS2⟩ := hSw; have p0 := cellB hS1 0 _ rfl; have p1 := cellB hS1 1 _ rfl; have p2 := cellB hS1 2 _ rfl; have p3 := cellB hS1 3 _ rfl; have p4 := cellB hS1 4 _ rfl; have p5 := cellB hS1 5 _ rfl; have p6 := cellB hS1 6 _ rfl; have p7 := cellB hS1 7 _ rfl; have p8 := cellB hS1 8 _ rfl; have p9 := cellB hS1 9 _ rfl; have q0 := cellB hS2 0 _ rfl; have q1 := cellB hS2 1 _ rfl; go_simp; (try with_reducible rfl))
        simp only [Act.put, List.setIfInBounds_toArray, List.getElem_toArray, List.getElem_cons_succ, List.getElem_cons_zero, List.set_cons_succ, List.set_cons_zero]
        refine Y_take (i := 2) (v := ?_) rfl (by kernel_rfl) (by kernel_rfl) (by kernel_rfl) (by kernel_rfl) (fun _ _ _ h => h) (by rfl) hS0 ?_ ?_
        rotate_left
        · (intro w' hSw; obtain ⟨hS1, hS2⟩ := hSw; have p0 := cellB hS1 0 _ rfl; have p1 := cellB hS1 1 _ rfl; have p2 := cellB hS1 2 _ rfl; have p3 := cellB hS1 3 _ rfl; have p4 := cellB hS1 4 _ rfl; have p5 := cellB hS1 5 _ rfl; have p6 := cellB hS1 6 _ rfl; have p7 := cellB hS1 7 _ rfl; have p8 := cellB hS1 8 _ rfl; have p9 := cellB hS1 9 _ rfl; have q0 := cellB hS2 0 _ rfl; have q1 := cellB hS2 1 _ rfl; go_simp; (try with_reducible rfl))
        simp only [Act.put, List.setIfInBounds_toArray, List.getElem_toArray, List.getElem_cons_succ, List.getElem_cons_zero, List.set_cons_succ, List.set_cons_zero]
        refine Z_step (i := 3) (by kernel_rfl) rfl (fun K' hK => ?_)
        go_simp
        refine (HP.out _ (below_drew (Below.refl (D + 2) WB))).mono ?_
        rintro e w1 ⟨rfl, hb1⟩
        have hS1 : w1.heap[D]? = some (.cells #[.int .i64 cl, .int .i64 no, .int .i64 kind, .string (bs k), .string (bs v), .string (bs od), .int .i64 fr, .int .i64 tt, .int .i64 E, .string (bs T)] 51) ∧ w1.heap[D + 1]? = some (.cells #[.int .i64 cl, .int .i64 no] 81) := ⟨(hb1.block D (by omega)).trans HS.out.1, (hb1.block (D + 1) (by omega)).trans HS.out.2⟩
        refine hK _ _ (fun _ => hS1) ?_
        clear hK K'
        have hM1 : MapAt w1 81 (some N) (Q.map sent) := HF.out.1.keep fun b e => by injection e with e; subst e; exact hb1.block N (by have := HF.out.2.2.2; omega)
        obtain ⟨w2, hup, hM2, hQ2, hg⟩ := store_s hM1 HF.out.2.1 (by have := HK.out.2.2; omega) HG.out.1 HG.out.2.1 HG.out.2.2.2
        have hup' : (Instr.mapUpdate 72 (.map (some N)) (.agg #[.int .i64 cl, .int .i64 no]) (.int .i64 (plcK k : Nat))).run Tryd.prog w1 = .ok () w2 := hup
        have hS2 : w2.heap[D]? = some (.cells #[.int .i64 cl, .int .i64 no, .int .i64 kind, .string (bs k), .string (bs v), .string (bs od), .int .i64 fr, .int .i64 tt, .int .i64 E, .string (bs T)] 51) ∧ w2.heap[D + 1]? = some (.cells #[.int .i64 cl, .int .i64 no] 81) := ⟨(hg.block D (by have := (Array.getElem?_eq_some_iff.1 hS1.1).1; omega) (fun e => by injection e with e; have := HF.out.2.2.2.2; omega)).trans hS1.1, (hg.block (D + 1) (by have := (Array.getElem?_eq_some_iff.1 hS1.2).1; omega) (fun e => by injection e with e; have := HF.out.2.2.2.2; omega)).trans hS1.2⟩
        have hBw : Below N w w1 := HF.out.2.2.1.trans (hb1.mono (by have := HF.out.2.2.2; omega))
        have hsz : N < w1.heap.size := by have := hb1.size; have := HF.out.2.2.2; omega
        have HF3 : Hid (MapAt w2 81 (some N) ((updQ Q cl no (plcK k)).map sent) ∧ QS calls (n + 1) (updQ Q cl no (plcK k)) ∧ Below N w w2 ∧ N < w2.heap.size) := ⟨hM2, hQ2, hBw.grown hg (by omega) (fun z hz => by injection hz with hz; omega), by have := hg.size; omega⟩
        clear hM1 hM2 hQ2 hg hBw hsz hup
        refine Z_step (i := 4) (by kernel_rfl) rfl (fun K' hK => ?_)
        go_simp
        refine hK _ _ (fun _ => hS2) (Z_done (by kernel_rfl) ?_ _)
        clear hK K'
        go_wp2_with fail
        go_roundg (calls.length - (n + 1))
        case measure => omega
        case rel => exact ⟨n + 1, _, by omega, by go_num, HF3.out.1, HF3.out.2.1, HF3.out.2.2.1, HF3.out.2.2.2⟩
end Go.Proofs.YtihilkdokfdoeaaDoor
