/- The tags of the votes that say just so, walked. -/
import Derived.Test.YtmggfkhfiggloaaDoorMkE
import Derived.Deep.MidRow
namespace Go.Proofs.YtmggfkhfiggloaaDoor
open Go.RowKit
attribute [local go_sem ↓] Go.wp_at_zero Go.wp_at_succ

/-- Does a vote say this? -/
def hasS (v : Vt) (n : Int) (st : List UInt8) : Bool := decide (v.1 = n) && decide (v.2.1 = st)
/-- The tags of those that say it, of the first ones. -/
def tagsTo (V : Nat → Vt) (n : Int) (st : List UInt8) : Nat → List Tg
  | 0 => []
  | j + 1 => tagsTo V n st j ++ if hasS (V j) n st = true then [((j : Int), (V j).2.2)] else []
theorem tagsTo_le (V : Nat → Vt) (n : Int) (st : List UInt8) (j : Nat) : (tagsTo V n st j).length ≤ j := by
  induction j with
  | zero => simp [tagsTo]
  | succ j ih => simp only [tagsTo]; split <;> simp <;> omega
/-- The votes as cells. -/
def vcs (V : Nat → Vt) : List Value := (List.range 10).flatMap fun i => [.int .i64 (V i).1, .string (bs (V i).2.1), .string (bs (V i).2.2)]
theorem vcs_len (V : Nat → Vt) : (vcs V).length = 30 := rfl
theorem vcs_at (V : Nat → Vt) (i : Nat) (h : i < 10) : (vcs V)[i * 3]? = some (.int .i64 (V i).1) ∧ (vcs V)[i * 3 + 1]? = some (.string (bs (V i).2.1)) ∧ (vcs V)[i * 3 + 2]? = some (.string (bs (V i).2.2)) := by
  match i, h with
  | 0, _ => exact ⟨rfl, rfl, rfl⟩
  | 1, _ => exact ⟨rfl, rfl, rfl⟩
  | 2, _ => exact ⟨rfl, rfl, rfl⟩
  | 3, _ => exact ⟨rfl, rfl, rfl⟩
  | 4, _ => exact ⟨rfl, rfl, rfl⟩
  | 5, _ => exact ⟨rfl, rfl, rfl⟩
  | 6, _ => exact ⟨rfl, rfl, rfl⟩
  | 7, _ => exact ⟨rfl, rfl, rfl⟩
  | 8, _ => exact ⟨rfl, rfl, rfl⟩
  | 9, _ => exact ⟨rfl, rfl, rfl⟩
  | n + 10, h => omega
theorem MarkAt.range {w : World} {B : Nat} {g : Int} {f : Nat} {s : St} {cv : Value} (h : MarkAt w B g f s cv) : w.rangeAt B 2 (vcs s.V) := by
  intro j v hv
  have hj : j < 30 := by have := (List.getElem?_eq_some_iff.1 hv).1; rwa [vcs_len] at this
  obtain ⟨a, b, c⟩ := vcs_at s.V (j / 3) (by omega)
  obtain ⟨x, y, z⟩ := h.cv (i := j / 3) (by omega)
  have hm : j % 3 = 0 ∨ j % 3 = 1 ∨ j % 3 = 2 := by omega
  rcases hm with e | e | e
  · have e1 : j = j / 3 * 3 := by omega
    rw [← e1, hv] at a
    rw [show 2 + j / 3 * 3 = 2 + j by omega] at x
    rw [x]; exact a.symm
  · have e1 : j = j / 3 * 3 + 1 := by omega
    rw [← e1, hv] at b
    rw [show 2 + j / 3 * 3 + 1 = 2 + j by omega] at y
    rw [y]; exact b.symm
  · have e1 : j = j / 3 * 3 + 2 := by omega
    rw [← e1, hv] at c
    rw [show 2 + j / 3 * 3 + 2 = 2 + j by omega] at z
    rw [z]; exact c.symm
theorem idx_at0 (V : Nat → Vt) (w : World) : (Instr.index 87 (.agg (vcs V).toArray) (.int .i64 ((0 : Nat) : Int))).run Tryd.prog w = .ok (.agg #[.int .i64 (V 0).1, .string (bs (V 0).2.1), .string (bs (V 0).2.2)]) w := by kernel_rfl
theorem idx_at1 (V : Nat → Vt) (w : World) : (Instr.index 87 (.agg (vcs V).toArray) (.int .i64 ((1 : Nat) : Int))).run Tryd.prog w = .ok (.agg #[.int .i64 (V 1).1, .string (bs (V 1).2.1), .string (bs (V 1).2.2)]) w := by kernel_rfl
theorem idx_at2 (V : Nat → Vt) (w : World) : (Instr.index 87 (.agg (vcs V).toArray) (.int .i64 ((2 : Nat) : Int))).run Tryd.prog w = .ok (.agg #[.int .i64 (V 2).1, .string (bs (V 2).2.1), .string (bs (V 2).2.2)]) w := by kernel_rfl
theorem idx_at3 (V : Nat → Vt) (w : World) : (Instr.index 87 (.agg (vcs V).toArray) (.int .i64 ((3 : Nat) : Int))).run Tryd.prog w = .ok (.agg #[.int .i64 (V 3).1, .string (bs (V 3).2.1), .string (bs (V 3).2.2)]) w := by kernel_rfl
theorem idx_at4 (V : Nat → Vt) (w : World) : (Instr.index 87 (.agg (vcs V).toArray) (.int .i64 ((4 : Nat) : Int))).run Tryd.prog w = .ok (.agg #[.int .i64 (V 4).1, .string (bs (V 4).2.1), .string (bs (V 4).2.2)]) w := by kernel_rfl
theorem idx_at5 (V : Nat → Vt) (w : World) : (Instr.index 87 (.agg (vcs V).toArray) (.int .i64 ((5 : Nat) : Int))).run Tryd.prog w = .ok (.agg #[.int .i64 (V 5).1, .string (bs (V 5).2.1), .string (bs (V 5).2.2)]) w := by kernel_rfl
theorem idx_at6 (V : Nat → Vt) (w : World) : (Instr.index 87 (.agg (vcs V).toArray) (.int .i64 ((6 : Nat) : Int))).run Tryd.prog w = .ok (.agg #[.int .i64 (V 6).1, .string (bs (V 6).2.1), .string (bs (V 6).2.2)]) w := by kernel_rfl
theorem idx_at7 (V : Nat → Vt) (w : World) : (Instr.index 87 (.agg (vcs V).toArray) (.int .i64 ((7 : Nat) : Int))).run Tryd.prog w = .ok (.agg #[.int .i64 (V 7).1, .string (bs (V 7).2.1), .string (bs (V 7).2.2)]) w := by kernel_rfl
theorem idx_at8 (V : Nat → Vt) (w : World) : (Instr.index 87 (.agg (vcs V).toArray) (.int .i64 ((8 : Nat) : Int))).run Tryd.prog w = .ok (.agg #[.int .i64 (V 8).1, .string (bs (V 8).2.1), .string (bs (V 8).2.2)]) w := by kernel_rfl
theorem idx_at9 (V : Nat → Vt) (w : World) : (Instr.index 87 (.agg (vcs V).toArray) (.int .i64 ((9 : Nat) : Int))).run Tryd.prog w = .ok (.agg #[.int .i64 (V 9).1, .string (bs (V 9).2.1), .string (bs (V 9).2.2)]) w := by kernel_rfl
theorem idx_at (V : Nat → Vt) (j : Nat) (h : j < 10) (w : World) : (Instr.index 87 (.agg (vcs V).toArray) (.int .i64 j)).run Tryd.prog w = .ok (.agg #[.int .i64 (V j).1, .string (bs (V j).2.1), .string (bs (V j).2.2)]) w := by
  match j, h with
  | 0, _ => exact idx_at0 V w
  | 1, _ => exact idx_at1 V w
  | 2, _ => exact idx_at2 V w
  | 3, _ => exact idx_at3 V w
  | 4, _ => exact idx_at4 V w
  | 5, _ => exact idx_at5 V w
  | 6, _ => exact idx_at6 V w
  | 7, _ => exact idx_at7 V w
  | 8, _ => exact idx_at8 V w
  | 9, _ => exact idx_at9 V w
  | n + 10, h => omega
theorem Tryd.size87 : (Tryd.prog.info? 87).map (·.size) = some 30 := by kernel_rfl
set_option maxRecDepth 20000 in
set_option maxHeartbeats 4000000 in
theorem eqS (a b : Int) (x y : List UInt8) (w : World) : (Op.equalIn 10000 84 (.agg #[.int .i64 a, .string (bs x)]) (.agg #[.int .i64 b, .string (bs y)])).run Tryd.prog w = .ok (decide (a = b) && decide (x = y)) w := by
  rw [show (10000 : Nat) = 9999 + 1 from rfl, Op.equalIn]
  simp only [Sem.run_bind, run_underlying Tryd.underlying84, Result.andThen_ok]
  go_simp
  have h1 : (bs x).toList = x := by rw [ByteArray.toList_eq]; exact bs_list x
  have h2 : (bs y).toList = y := by rw [ByteArray.toList_eq]; exact bs_list y
  rw [h1, h2]
  by_cases e1 : a = b
  · by_cases e2 : x = y
    · simp [e1, e2]
    · simp [e1, e2]
  · simp [e1]

set_option maxRecDepth 20000 in
set_option maxHeartbeats 4000000 in
theorem tags_any {w : World} {B : Nat} {g : Int} {f : Nat} {s : St} {cv : Value} (h : MarkAt w B g f s cv) (n : Int) (st : List UInt8) : Calls Tryd.prog 35 #[.pointer (some ⟨B, 0, none⟩), .agg #[.int .i64 n, .string (bs st)]] w fun e W' => ∃ v, e = .returned v ∧ W'.ownsRow w.heap.size 94 2 v (tagsTo s.V n st 10).length (tcs (tagsTo s.V n st 10)) ∧ Below w.heap.size w W' := by
  obtain ⟨i0, hi, hz0, hz1, hz2⟩ := info_parts Tryd.info94
  have hba := (Below.refl w.heap.size w).alloc (Nat.le_refl _) (.cells #[.int .i64 n, .string (bs st)] 84)
  have r1 := heap_alloc_new w (.cells #[.int .i64 n, .string (bs st)] 84)
  have hrg := (h.on hba).range
  obtain ⟨V, hV⟩ : ∃ V, s.V = V := ⟨_, rfl⟩
  rw [hV] at hrg ⊢
  have HK : Hid (∀ (j : Nat), j < 10 → ∀ w, (Instr.index 87 (.agg (vcs V).toArray) (.int .i64 j)).run Tryd.prog w = .ok (.agg #[.int .i64 (V j).1, .string (bs (V j).2.1), .string (bs (V j).2.2)]) w) := fun j hj w => idx_at V j hj w
  have hvl := vcs_len V
  obtain ⟨A, hA⟩ : ∃ A, vcs V = A := ⟨_, rfl⟩
  rw [hA] at HK hrg hvl
  have hsz : (w.alloc (.cells #[.int .i64 n, .string (bs st)] 84)).heap.size = w.heap.size + 1 := by simp
  have HX : Hid (_ ∧ _ ∧ _) := ⟨hba, r1, hsz⟩
  clear hA hV h hba r1 hsz
  go_enter Tryd.func35, Tryd.ntmps35
  go_wp2_with (first | (refine wpList_load_mid rfl 87 _ rfl B 2 rfl A _ (by exact hrg) Tryd.underlying87 rfl (by rw [Tryd.size87, hvl]) ?_))
  obtain ⟨hba, r1, hsz⟩ := HX.out
  clear HX hrg
  go_loopg [5, 12] 10 (fun gk ts i wr => ∃ j : Nat, j + gk = 10 ∧ i = .int .i64 j ∧ wr.ownsRow (w.heap.size + 1) 94 2 ts (tagsTo V n st j).length (tcs (tagsTo V n st j)) ∧ wr.heap[w.heap.size]? = some (.cells #[.int .i64 n, .string (bs st)] 84) ∧ Below w.heap.size w wr ∧ w.heap.size + 1 ≤ wr.heap.size)
  case atStart => exact ⟨0, by omega, rfl, World.ownsRow_nil _ _ _ _, r1, hba, by omega⟩
  case round =>
    clear r1 hba hsz
    obtain ⟨j, hj, rfl, hown, rr, hB, hs⟩ := hrel
    by_cases hlt : j < 10
    · have hix := HK.out j hlt
      have j0 : (0 : Int) ≤ (j : Int) := by omega
      have j1 : (j : Int) < 10 := by omega
      have hcl := tagsTo_le V n st j
      have HS : Hid (tagsTo V n st (j + 1) = tagsTo V n st j ++ if hasS (V j) n st = true then [((j : Int), (V j).2.2)] else []) := rfl
      obtain ⟨M, hM⟩ : ∃ M, tagsTo V n st j = M := ⟨_, rfl⟩
      rw [hM] at HS hcl hown
      obtain ⟨⟨vn, vs, vt⟩, hVj⟩ : ∃ v, V j = v := ⟨_, rfl⟩
      rw [hVj] at hix HS
      simp only at hix HS
      obtain ⟨ua, uc, rfl⟩ := owns_slice hown
      have hba := (Below.refl wr.heap.size wr).alloc (Nat.le_refl _) (.cells #[.int .i64 vn, .string (bs vs), .string (bs vt)] 86)
      have rN := heap_alloc_new wr (.cells #[.int .i64 vn, .string (bs vs), .string (bs vt)] 86)
      have rO := (hba.block w.heap.size (by omega)).trans rr
      have x0 := cellB rO 0 _ rfl
      have x1 := cellB rO 1 _ rfl
      have HX : Hid (_ ∧ _) := ⟨hba, rN⟩
      clear hM hVj hba rN rO
      cases hv : hasS (vn, vs, vt) n st
      · have HS2 : Hid (tagsTo V n st (j + 1) = M) := by show _ = _; rw [HS.out, hv]; simp
        have HF : Hid (¬ (vn = n ∧ vs = st)) := by show ¬ _; rintro ⟨rfl, rfl⟩; simp [hasS] at hv
        clear HS hv
        have HR : Hid (∃ j' : Nat, j' + (10 - (j + 1)) = 10 ∧ Value.int .i64 ((j : Int) + 1) = .int .i64 j' ∧ (wr.alloc (.cells #[.int .i64 vn, .string (bs vs), .string (bs vt)] 86)).ownsRow (w.heap.size + 1) 94 2 (.slice ua M.length uc) (tagsTo V n st j').length (tcs (tagsTo V n st j')) ∧ (wr.alloc (.cells #[.int .i64 vn, .string (bs vs), .string (bs vt)] 86)).heap[w.heap.size]? = some (.cells #[.int .i64 n, .string (bs st)] 84) ∧ Below w.heap.size w (wr.alloc (.cells #[.int .i64 vn, .string (bs vs), .string (bs vt)] 86)) ∧ w.heap.size + 1 ≤ (wr.alloc (.cells #[.int .i64 vn, .string (bs vs), .string (bs vt)] 86)).heap.size) := by
          obtain ⟨hba, rN⟩ := HX.out
          exact ⟨j + 1, by omega, by rw [Int.natCast_succ], by rw [HS2.out]; exact owns_next hown hba, (hba.block _ (by omega)).trans rr, hB.trans (hba.mono hB.size), Nat.le_trans hs hba.size⟩
        by_cases e1 : vn = n
        · have e2 : vs ≠ st := fun e => HF.out ⟨e1, e⟩
          have hst := str_other e2
          subst e1
          clear e2 HX hown rr hB hs
          go_wp2
          go_roundg (10 - (j + 1))
          case measure => omega
          case rel => exact HR.out
        · have e2 : (vn == n) = false := by simpa using e1
          clear e1 HX hown rr hB hs
          go_wp2
          go_roundg (10 - (j + 1))
          case measure => omega
          case rel => exact HR.out
      · have HS2 : Hid (tagsTo V n st (j + 1) = M ++ [((j : Int), vt)]) := by show _ = _; rw [HS.out, hv]; simp
        have hvv : vn = n ∧ vs = st := by simpa [hasS] using hv
        obtain ⟨rfl, rfl⟩ := hvv
        have hst := str_same vs
        have hml : M.length + 1 ≤ maxLen := by unfold maxLen; omega
        have hkb : (M.length + 1) * 24 ≤ 140737488355328 := by omega
        clear HS hv
        obtain ⟨hba, rN⟩ := HX.out
        have hown2 := owns_next hown hba
        have rr2 := (hba.block _ (by omega)).trans rr
        have hB2 := hB.trans (hba.mono hB.size)
        have hs2 := Nat.le_trans hs hba.size
        have HTk : Hid (tcs (M ++ [((j : Int), vt)]) = tcs M ++ [.int .i64 j, .string (bs vt)]) := tcs_append M _
        obtain ⟨R, hR⟩ : ∃ R, tcs M = R := ⟨_, rfl⟩
        rw [hR] at hown2 HTk
        have y2 := cellB rN 2 _ rfl
        have HY : Hid (_ ∧ _ ∧ _) := ⟨rr2, hB2, hs2⟩
        clear HX hba rN hown rr hB hR rr2 hB2 hs2
        go_wp2_with (first
          | (at_builtin; refine wpList_append_own _ rfl _ _ 47 rfl (w.heap.size + 1) 94 i0 (.agg #[.int .i64 0, .string ⟨#[]⟩]) 2 24 Tryd.underlying47 hi hz0 hz1 hz2 rfl (by decide) (.slice ua M.length uc) M.length R rfl (hown2.alloc _) _ 1 1 [.int .i64 j, .string (bs vt)] rfl rfl (World.news_of_block (heap_alloc2_new _ _ _)) (by simp [Value.oneCell']) hml hkb (by simp; omega) ?_; intro v' w' h1 h2 _))
        go_roundg (10 - (j + 1))
        case measure => omega
        case rel =>
          obtain ⟨rr2, hB2, hs2⟩ := HY.out
          have hg : Below (w.heap.size + 1) (wr.alloc (.cells #[.int .i64 vn, .string (bs vs), .string (bs vt)] 86)) w' := ((Below.refl _ _).alloc hs2 _).grown h2 (by simp; omega) (fun q hq => (hown2.lt q hq).1)
          exact ⟨j + 1, by omega, by go_num, by rw [HS2.out, HTk.out, List.length_append]; exact h1, (hg.block _ (by omega)).trans rr2, hB2.trans (hg.mono (by omega)), Nat.le_trans hs2 hg.size⟩
    · have hjn : j = 10 := by omega
      subst hjn
      obtain ⟨ua, uc, rfl⟩ := owns_slice hown
      go_wp2
      go_ret
      exact ⟨_, rfl, owns_base hown (by omega), hB⟩
end Go.Proofs.YtmggfkhfiggloaaDoor
