/- Moots: threes of numbers as texts; pack, walked. -/
import Derived.Test.YtfolnlgceighbaaGreatDoorKt1
import Derived.Test.YtfolnlgceighbaaGreatDoorCe1
import Derived.Test.YtfolnlgceighbaaGreatDoorMoQ
import Derived.Test.YtfolnlgceighbaaGreatDoorKtX
namespace Go.Proofs.YtfolnlgceighbaaGreatDoor
section
open Go.RowKit
attribute [local go_sem ↓] Go.wp_at_zero Go.wp_at_succ

def trio (x : C3) : List (List UInt8) := [Lib.itoa x.1, Lib.itoa x.2.1, Lib.itoa x.2.2]
def flat3 (l : List C3) : List (List UInt8) := l.flatMap trio
/-- The text of a list of threes. -/
def packT (l : List C3) : List UInt8 := packL (flat3 l)
/-- Numbers as they stand in a moot's text. -/
def ok3 (x : C3) : Prop := (0 ≤ x.1 ∧ x.1 ≤ 1099511627776) ∧ (0 ≤ x.2.1 ∧ x.2.1 ≤ 1099511627776) ∧ 0 ≤ x.2.2 ∧ x.2.2 ≤ 1099511627776
theorem flat3_len (l : List C3) : (flat3 l).length = l.length * 3 := by
  induction l with
  | nil => rfl
  | cons x l ih =>
    show (trio x ++ flat3 l).length = _
    rw [List.length_append, ih, List.length_cons]
    show 3 + _ = _
    omega
theorem itoa_small {n : Int} (h : 0 ≤ n ∧ n ≤ 1099511627776) : (Lib.itoa n).length ≤ 20 := by
  obtain ⟨m, rfl⟩ := Int.eq_ofNat_of_zero_le h.1
  exact itoa_len m (by omega)
theorem flat3_small {l : List C3} (h : ∀ x ∈ l, ok3 x) : tot (flat3 l) ≤ 60 * l.length ∧ ∀ t ∈ flat3 l, t.length ≤ 20 := by
  induction l with
  | nil => exact ⟨Nat.le_refl _, fun t ht => by cases ht⟩
  | cons x l ih =>
    obtain ⟨i1, i2⟩ := ih fun y hy => h y (List.mem_cons_of_mem _ hy)
    obtain ⟨a, b, c⟩ := h x (List.mem_cons_self ..)
    have a' := itoa_small a
    have b' := itoa_small b
    have c' := itoa_small c
    refine ⟨?_, fun t ht => ?_⟩
    · show tot (Lib.itoa x.1 :: Lib.itoa x.2.1 :: Lib.itoa x.2.2 :: flat3 l) ≤ _
      rw [tot_cons, tot_cons, tot_cons, List.length_cons]
      omega
    · have : t ∈ trio x ++ flat3 l := ht
      rcases List.mem_append.1 this with h1 | h1
      · simp only [trio, List.mem_cons, List.not_mem_nil, or_false] at h1
        rcases h1 with rfl | rfl | rfl <;> assumption
      · exact i2 t h1
theorem flat3_take {l : List C3} {k : Nat} {x : C3} (h : l[k]? = some x) : flat3 (l.take (k + 1)) = flat3 (l.take k) ++ trio x := by
  rw [List.take_add_one, h]
  simp [flat3]
theorem strs_app (a b : List (List UInt8)) : strs (a ++ b) = strs a ++ strs b := by simp [strs]
theorem idx105 (a b c : Int) (k : Nat) (t : Int) (h : [a, b, c][k]? = some t) (W : World) : (Instr.index 105 (.agg #[.int .i64 a, .int .i64 b, .int .i64 c]) (.int .i64 (k : Int))).run Tryz.prog W = .ok (.int .i64 t) W := by
  rcases k with _ | _ | _ | k <;> simp at h <;> subst h <;> kernel_rfl
set_option maxRecDepth 20000 in
set_option maxHeartbeats 2000000 in
theorem mpack_any (l : List C3) (gv : Value) (w : World) (hu : Cs w gv l) (hs : ∀ x ∈ l, ok3 x) (hl : l.length ≤ 1000) (he : EnvP w) :
    Calls Tryz.prog 50 #[gv] w fun e W' => e = .returned (.string (bs (packT l))) ∧ Below w.heap.size w W' := by
  obtain ⟨i0, hi, hz0, hz1, hz2⟩ := info_parts Tryz.info9
  have HINF : Hid (Tryz.prog.info? 9 = some i0 ∧ i0.zero = some (.string ⟨#[]⟩) ∧ i0.size = 1 ∧ i0.bytes = 16) := ⟨hi, hz0, hz1, hz2⟩
  have HP : Hid (∀ W u, Below w.heap.size w W → W.ownsRow w.heap.size 9 1 u (l.length * 3) (strs (flat3 l)) → Calls Tryz.prog 30 #[u] W fun e W' => e = .returned (.string (bs (packT l))) ∧ Below w.heap.size w W') := fun W u hb ho => by
    obtain ⟨t1, _⟩ := flat3_small hs
    rw [← flat3_len] at ho
    refine (Pack_any (flat3 l) u W (by omega) (by rw [flat3_len]; omega) (he.next hb) (Sl.of_owns ho)).mono ?_
    rintro e W' ⟨rfl, h1⟩
    exact ⟨rfl, hb.trans (h1.mono hb.size)⟩
  have HE : Hid (∀ W, Below w.heap.size w W → EnvP W) := fun W hb => he.next hb
  have HU : Hid (∀ W, Below w.heap.size w W → Cs W gv l) := fun W hb => hu.next hb
  have HS : Hid (∀ x ∈ l, ok3 x) := hs
  have HLL : Hid (l.length ≤ 1000) := hl
  obtain ⟨Z, hZ⟩ : ∃ Z, packT l = Z := ⟨_, rfl⟩
  rw [hZ] at HP
  rw [hZ]
  obtain ⟨pa, pc, rfl⟩ := hu.slice
  clear hu hs hZ he hl hi hz0 hz1 hz2
  go_enter Tryz.func50, Tryz.ntmps50
  go_wp2_with fail
  go_loopg [3, 10] l.length (fun gk u i wr => ∃ k : Nat, k + gk = l.length ∧ i = .int .i64 k ∧ wr.ownsRow w.heap.size 9 1 u (k * 3) (strs (flat3 (l.take k))) ∧ Below w.heap.size w wr)
  case atStart => exact ⟨0, by omega, rfl, World.ownsRow_nil _ _ _ _, Below.refl _ _⟩
  case round =>
    obtain ⟨k, hk, rfl, hown, hB⟩ := hrel
    obtain ⟨ua, uc, rfl⟩ := owns_slice hown
    by_cases hlt : k < l.length
    · obtain ⟨x, hx⟩ : ∃ x, l[k]? = some x := ⟨_, List.getElem?_eq_getElem hlt⟩
      have h3 := HS.out x (List.mem_of_getElem? hx)
      have HT : Hid (flat3 (l.take (k + 1)) = flat3 (l.take k) ++ trio x) := flat3_take hx
      obtain ⟨b1, o1, hpa, y0, y1, y2⟩ := (HU.out _ hB).at hx
      obtain ⟨xa, xb, xc⟩ := x
      subst hpa
      have HX3 : Hid (ok3 (xa, xb, xc)) := h3
      have hbA := (Below.refl wr.heap.size wr).alloc (Nat.le_refl _) (.cells #[.int .i64 xa, .int .i64 xb, .int .i64 xc] 105)
      have rD := heap_alloc_new wr (.cells #[.int .i64 xa, .int .i64 xb, .int .i64 xc] 105)
      have hownA := own_kept hown hbA
      have hBA := hB.trans (hbA.mono hB.size)
      obtain ⟨WA, hWA⟩ : ∃ W, wr.alloc (.cells #[.int .i64 xa, .int .i64 xb, .int .i64 xc] 105) = W := ⟨_, rfl⟩
      rw [hWA] at rD hownA hBA
      obtain ⟨D, hD⟩ : ∃ D, wr.heap.size = D := ⟨_, rfl⟩
      rw [hD] at rD
      have HV : Hid (wr.alloc (.cells #[.int .i64 xa, .int .i64 xb, .int .i64 xc] 105) = WA) := hWA
      have HD : Hid (wr.heap.size = D) := hD
      have f0 := cellB rD 0 _ rfl
      have f1 := cellB rD 1 _ rfl
      have f2 := cellB rD 2 _ rfl
      have k0 : (0 : Int) ≤ (k : Int) := by omega
      have k1 : (k : Int) < (l.length : Int) := by omega
      have hgk : gk = l.length - k := by omega
      subst hgk
      obtain ⟨F, hF⟩ : ∃ F, flat3 (l.take k) = F := ⟨_, rfl⟩
      rw [hF] at hownA HT
      clear hx h3 hbA hown hB hWA hD hF rD
      go_upto_region 5 with fail
      rw [HV.out, HD.out]
      clear HV y0 y1 y2 HD
      obtain ⟨wq, rfl⟩ : ∃ wq, wq = wr := ⟨_, rfl⟩
      go_wp2_with fail
      go_loopg [3, 15] 3 (fun gk u i wr => ∃ j : Nat, j + gk = 3 ∧ i = .int .i64 j ∧ wr.ownsRow w.heap.size 9 1 u (k * 3 + j) (strs (F ++ (trio (xa, xb, xc)).take j)) ∧ Below w.heap.size w wr)
      case atStart => exact ⟨0, by omega, rfl, by rw [List.take_zero, List.append_nil]; exact hownA, hBA⟩
      case round =>
        obtain ⟨j, hj, rfl, hown, hB⟩ := hrel
        clear hownA hBA f0 f1 f2
        obtain ⟨ua, uc, rfl⟩ := owns_slice hown
        by_cases hjl : j < 3
        · obtain ⟨n, hn⟩ : ∃ n, [xa, xb, xc][j]? = some n := ⟨_, List.getElem?_eq_getElem (by simpa using hjl)⟩
          have hnr : 0 ≤ n ∧ n ≤ 1099511627776 := by
            obtain ⟨a, b, c⟩ := HX3.out
            rcases j with _ | _ | _ | j <;> simp at hn <;> subst hn <;> assumption
          have hix := fun W => idx105 xa xb xc j n hn W
          have hN := Num_any n wr (by omega) (by omega) (HE.out _ hB)
          have HTJ : Hid (strs (F ++ (trio (xa, xb, xc)).take (j + 1)) = strs (F ++ (trio (xa, xb, xc)).take j) ++ [.string (bs (Lib.itoa n))]) := by
            show _ = _
            have e : (trio (xa, xb, xc))[j]? = some (Lib.itoa n) := by
              rcases j with _ | _ | _ | j <;> simp at hn <;> subst hn <;> rfl
            rw [List.take_add_one, e, ← List.append_assoc, strs_app (F ++ _)]
            rfl
          obtain ⟨R, hR⟩ : ∃ R, strs (F ++ (trio (xa, xb, xc)).take j) = R := ⟨_, rfl⟩
          rw [hR] at hown HTJ
          obtain ⟨I, hI⟩ : ∃ I, Lib.itoa n = I := ⟨_, rfl⟩
          rw [hI] at hN HTJ
          have HO : Hid (wr.ownsRow w.heap.size 9 1 (.slice ua (k * 3 + j) uc) (k * 3 + j) R) := hown
          have HB : Hid (Below w.heap.size w wr) := hB
          have hml : k * 3 + j + 1 ≤ maxLen := by unfold maxLen; have := HLL.out; omega
          have hkb : (k * 3 + j + 1) * 16 ≤ 140737488355328 := by have := HLL.out; omega
          have j0 : (0 : Int) ≤ (j : Int) := by omega
          have j1 : (j : Int) < 3 := by omega
          clear hn hnr hR hI hown hB
          go_wp2_with (first
            | (go_at_call 31; refine hN.mono ?_; clear hN; rintro e w1 ⟨rfl, hb1⟩; have hown := own_kept HO.out hb1; have hB := HB.out.trans (hb1.mono HB.out.size); clear hb1)
            | (at_builtin; refine wpList_append_own _ rfl _ _ 73 rfl w.heap.size 9 i0 (.string ⟨#[]⟩) 1 16 Tryz.underlying73 HINF.out.1 HINF.out.2.1 HINF.out.2.2.1 HINF.out.2.2.2 rfl (by decide) (.slice ua (k * 3 + j) uc) (k * 3 + j) R rfl (hown.alloc _) _ 1 1 [.string (bs I)] rfl rfl (World.news_of_block (heap_alloc_new _ _)) (by simp [Value.oneCell']) hml hkb (by have := hB.size; simp; omega) ?_; intro v' w' g1 g2 _))
          have hB3 := (hB.alloc hB.size (.cells #[.string (bs I)] 9)).grown g2 (by have := hB.size; simp; omega) (fun q hq => (hown.lt q hq).1)
          go_roundg (3 - (j + 1))
          case measure => omega
          case rel => exact ⟨j + 1, by omega, by go_num, by rw [HTJ.out]; exact g1, hB3⟩
        · have hj3 : j = 3 := by omega
          subst hj3
          have HO : Hid (wr.ownsRow w.heap.size 9 1 (.slice ua (k * 3 + 3) uc) (k * 3 + 3) (strs (F ++ trio (xa, xb, xc)))) := hown
          have HB : Hid (Below w.heap.size w wr) := hB
          have hk9 : k ≤ 1000 := by have := HLL.out; omega
          clear hown hB
          go_wp2_with fail
          go_roundg (l.length - (k + 1))
          case measure => omega
          case rel => exact ⟨k + 1, by omega, by go_num, by rw [HT.out, show (k + 1) * 3 = k * 3 + 3 by omega]; exact HO.out, HB.out⟩
    · have hkl : k = l.length := by omega
      subst hkl
      rw [List.take_length] at hown
      have hP := HP.out _ _ hB hown
      clear hown HP hB
      go_wp2_with (go_at_call 30; refine hP.mono ?_; rintro e w1 ⟨rfl, hb1⟩)
      go_ret
      exact ⟨rfl, hb1⟩
end
section
open Go.RowKit
attribute [local go_sem ↓] Go.wp_at_zero Go.wp_at_succ

/-- The clients that are known, from number i on. -/
def knF : Nat → List Kn → List C3
  | _, [] => []
  | i, x :: r => (if 0 < x.1 then [((i : Int), (x.1 : Int), x.2)] else []) ++ knF (i + 1) r
theorem knF_app : ∀ (a b : List Kn) (i : Nat), knF i (a ++ b) = knF i a ++ knF (i + a.length) b
  | [], b, i => by rw [List.nil_append, List.length_nil, Nat.add_zero]; rfl
  | x :: a, b, i => by
    show (if 0 < x.1 then [((i : Int), (x.1 : Int), x.2)] else []) ++ knF (i + 1) (a ++ b) = ((if 0 < x.1 then [((i : Int), (x.1 : Int), x.2)] else []) ++ knF (i + 1) a) ++ _
    rw [knF_app a b (i + 1), List.append_assoc, List.length_cons, show i + 1 + a.length = i + (a.length + 1) by omega]
theorem knF_take {cl : List Kn} {k : Nat} {x : Kn} (h : cl[k]? = some x) : knF 0 (cl.take (k + 1)) = knF 0 (cl.take k) ++ (if 0 < x.1 then [((k : Int), (x.1 : Int), x.2)] else []) := by
  have hk : k < cl.length := (List.getElem?_eq_some_iff.1 h).1
  rw [List.take_add_one, h]
  show knF 0 (cl.take k ++ [x]) = _
  rw [knF_app, List.length_take, Nat.min_eq_left (by omega), Nat.zero_add]
  show _ ++ ((if 0 < x.1 then [((k : Int), (x.1 : Int), x.2)] else []) ++ []) = _
  rw [List.append_nil]
theorem knF_len : ∀ (cl : List Kn) (i : Nat), (knF i cl).length ≤ cl.length
  | [], _ => Nat.le_refl _
  | x :: r, i => by
    have := knF_len r (i + 1)
    show ((if 0 < x.1 then [((i : Int), (x.1 : Int), x.2)] else []) ++ knF (i + 1) r).length ≤ r.length + 1
    rw [List.length_append]
    split <;> simp <;> omega
/-- Clients as they may be known. -/
def okK2 (cl : List Kn) : Prop := ∀ x ∈ cl, x.1 ≤ 1099511627776 ∧ 0 ≤ x.2 ∧ x.2 ≤ 999
theorem knF_ok : ∀ (cl : List Kn) (i : Nat), okK2 cl → i + cl.length ≤ 1000 → ∀ x ∈ knF i cl, ok3 x
  | [], _, _, _, x, hx => by cases hx
  | y :: r, i, h, hi, x, hx => by
    rw [List.length_cons] at hi
    have hx : x ∈ (if 0 < y.1 then [((i : Int), (y.1 : Int), y.2)] else []) ++ knF (i + 1) r := hx
    rcases List.mem_append.1 hx with h1 | h1
    · obtain ⟨a, b, c⟩ := h y (List.mem_cons_self ..)
      split at h1
      · have : x = ((i : Int), (y.1 : Int), y.2) := by simpa using h1
        subst this
        exact ⟨⟨(by omega : (0 : Int) ≤ (i : Int)), (by omega : (i : Int) ≤ 1099511627776)⟩, ⟨(by omega : (0 : Int) ≤ (y.1 : Int)), (by omega : (y.1 : Int) ≤ 1099511627776)⟩, b, (by omega : y.2 ≤ 1099511627776)⟩
      · cases h1
    · exact knF_ok r (i + 1) (fun z hz => h z (List.mem_cons_of_mem _ hz)) (by omega) x h1
/-- A moot's text. -/
def mootT (T : List C3) (cl : List Kn) : List UInt8 := packL [packT T, packT (knF 0 cl)]
theorem list8 {α : Type} {l : List α} (h : l.length = 8) : ∃ a b c d e f g i, l = [a, b, c, d, e, f, g, i] := by
  match l, h with
  | [a, b, c, d, e, f, g, i], _ => exact ⟨a, b, c, d, e, f, g, i, rfl⟩
theorem idx95 (cl : List Kn) (h8 : cl.length = 8) (k : Nat) (x : Kn) (h : cl[k]? = some x) (W : World) : (Instr.index 95 (.agg (kcs cl).toArray) (.int .i64 (k : Int))).run Tryz.prog W = .ok (.agg #[.int .i64 (x.1 : Int), .int .i64 x.2]) W := by
  obtain ⟨a, b, c, d, e, f, g, i, rfl⟩ := list8 h8
  rcases k with _ | _ | _ | _ | _ | _ | _ | _ | k <;> simp at h <;> subst h <;> kernel_rfl
theorem ccs_take {l : List C3} {k : Nat} {x : C3} (h : l[k]? = some x) : ccs (l.take (k + 1)) = ccs (l.take k) ++ c3s x := by
  rw [List.take_add_one, h]
  show ccs (l.take k ++ [x]) = _
  exact ccs_snoc _ _
theorem Tryz.size95 : (Tryz.prog.info? 95).map (·.size) = some 16 := by kernel_rfl
theorem mcs_range {w : World} {M B : Nat} {u : Value} {cl : List Kn} (h : w.heap[M]? = some (.cells (mcs B u cl).toArray 97)) : w.rangeAt M 2 (kcs cl) := fun j x hx => by
  exact cellB h (2 + j) x (by rw [List.getElem?_toArray, show 2 + j = j + 1 + 1 by omega]; exact hx)
theorem Sl_new2 (w : World) (s0 s1 : List UInt8) : Sl (w.alloc (.cells #[.string (bs s0), .string (bs s1)] 9)) (.slice (some ⟨w.heap.size, 0, none⟩) 2 2) [s0, s1] := by
  have r := heap_alloc_new w (.cells #[.string (bs s0), .string (bs s1)] 9)
  refine .inr ⟨w.heap.size, 0, 2, rfl, by simp, fun i t ht => ?_⟩
  rw [Nat.zero_add]
  rcases i with _ | _ | i <;> simp at ht <;> subst ht
  · exact cellB r 0 _ rfl
  · exact cellB r 1 _ rfl
/-- A row that is owned, of threes of whatever type. -/
theorem Cs_row {w : World} {base : Nat} {e : TypeId} {v : Value} {l : List C3} (h : w.ownsRow base e 3 v l.length (ccs l)) : Cs w v l := by
  rcases Nat.eq_zero_or_pos l.length with h0 | h0
  · obtain ⟨a, c, rfl⟩ := owns_slice h
    have := List.length_eq_zero_iff.1 h0
    subst this
    exact .inl ⟨rfl, a, c, rfl⟩
  · obtain ⟨g, cap, rfl, hb, hlt⟩ := h.form h0
    refine .inr ⟨g, 0, cap, rfl, hlt, fun i x hx => ?_⟩
    have hi : i < l.length := (List.getElem?_eq_some_iff.1 hx).1
    have key : ∀ j, j < 3 → w.cell? ⟨g, i * 3 + j, none⟩ = (c3s x)[j]? := fun j hj => (h.cellAt (i * 3 + j) (by omega)).trans (ccs_at l i x hx j hj)
    rw [Nat.zero_add]
    exact ⟨key 0 (by omega), key 1 (by omega), key 2 (by omega)⟩
set_option maxRecDepth 20000 in
set_option maxHeartbeats 4000000 in
theorem MText_any (base M B : Nat) (v u : Value) (L : List Rc) (T : List C3) (cl : List Kn) (w : World) (h : MtAt base w M B v u L T cl) (hT : ∀ x ∈ T, ok3 x) (hK : okK2 cl) (he : EnvP w) :
    Calls Tryz.prog 21 #[.pointer (some ⟨M, 0, none⟩)] w fun e W' => e = .returned (.string (bs (mootT T cl))) ∧ Below w.heap.size w W' := by
  obtain ⟨i0, hi, hz0, hz1, hz2⟩ := info_parts (show (Tryz.prog.info? 105).map (fun i => (i.zero, i.size, i.bytes)) = some (some (.agg #[.int .i64 0, .int .i64 0, .int .i64 0]), 3, 24) by kernel_rfl)
  have HINF : Hid (Tryz.prog.info? 105 = some i0 ∧ i0.zero = some (.agg #[.int .i64 0, .int .i64 0, .int .i64 0]) ∧ i0.size = 3 ∧ i0.bytes = 24) := ⟨hi, hz0, hz1, hz2⟩
  obtain ⟨ua, uc, rfl⟩ := owns_slice h.row
  have HCs : Hid (∀ W, Below w.heap.size w W → Cs W (.slice ua T.length uc) T) := fun W hb => (Cs_row h.row).next hb
  have HMB : Hid (∀ W, Below w.heap.size w W → W.heap[M]? = some (.cells (mcs B (.slice ua T.length uc) cl).toArray 97)) := fun W hb => (hb.block M h.lt).trans h.blk
  have x1 := cellB h.blk 1 (.slice ua T.length uc) rfl
  have HT40 : Hid (T.length ≤ 40) := by show _ ≤ _; rw [h.tl]; exact h.forty
  have H8 : Hid (cl.length = 8) := h.len
  have HOKT : Hid (∀ x ∈ T, ok3 x) := hT
  have HOKK : Hid (okK2 cl) := hK
  have HE : Hid (∀ W, Below w.heap.size w W → EnvP W) := fun W hb => he.next hb
  have HPK : Hid (∀ W v' l, Below w.heap.size w W → Cs W v' l → (∀ x ∈ l, ok3 x) → l.length ≤ 1000 → Calls Tryz.prog 50 #[v'] W fun e W' => e = .returned (.string (bs (packT l))) ∧ Below W.heap.size W W') := fun W v' l hb h1 h2 h3 => mpack_any l v' W h1 h2 h3 (he.next hb)
  have HPP : Hid (∀ W v', Below w.heap.size w W → Sl W v' [packT T, packT (knF 0 cl)] → Calls Tryz.prog 30 #[v'] W fun e W' => e = .returned (.string (bs (mootT T cl))) ∧ Below W.heap.size W W') := fun W v' hb hs => by
    have h1 := (flat3_small hT).1
    have h2 := flat3_len T
    have h3 := pack_len (flat3 T) (by have := HT40.out; omega)
    have g0 := knF_len cl 0
    have g1 := (flat3_small (knF_ok cl 0 hK (by have := H8.out; omega))).1
    have g2 := flat3_len (knF 0 cl)
    have g3 := pack_len (flat3 (knF 0 cl)) (by have := H8.out; omega)
    have e1 : (packT T).length ≤ 60 * T.length + 22 * (flat3 T).length := by unfold packT; omega
    have e2 : (packT (knF 0 cl)).length ≤ 60 * (knF 0 cl).length + 22 * (flat3 (knF 0 cl)).length := by unfold packT; omega
    have := HT40.out
    have := H8.out
    refine Pack_any [packT T, packT (knF 0 cl)] v' W ?_ (by simp) (he.next hb) hs
    rw [tot_cons, tot_cons]
    have : tot [] = 0 := rfl
    omega
  obtain ⟨Z, hZ⟩ : ∃ Z, mootT T cl = Z := ⟨_, rfl⟩
  rw [hZ] at HPP
  rw [hZ]
  clear h hT hK he hi hz0 hz1 hz2 hZ
  go_enter Tryz.func21, Tryz.ntmps21
  go_wp2_with fail
  go_loopg [3, 17] T.length (fun gk cu i wr => ∃ k : Nat, k + gk = T.length ∧ i = .int .i64 k ∧ wr.ownsRow w.heap.size 105 3 cu k (ccs (T.take k)) ∧ Below w.heap.size w wr)
  case atStart => exact ⟨0, by omega, rfl, World.ownsRow_nil _ _ _ _, Below.refl _ _⟩
  case round =>
    obtain ⟨k, hk, rfl, hown, hB⟩ := hrel
    clear x1
    obtain ⟨ca, cc, rfl⟩ := owns_slice hown
    by_cases hlt : k < T.length
    · obtain ⟨x, hx⟩ : ∃ x, T[k]? = some x := ⟨_, List.getElem?_eq_getElem hlt⟩
      have HT : Hid (ccs (T.take (k + 1)) = ccs (T.take k) ++ c3s x) := ccs_take hx
      obtain ⟨b1, o1, hpa, y0, y1, y2⟩ := (HCs.out _ hB).at hx
      obtain ⟨xa, xb, xc⟩ := x
      subst hpa
      have hbA := (Below.refl wr.heap.size wr).alloc (Nat.le_refl _) (.cells #[.int .i64 xa, .int .i64 xb, .int .i64 xc] 59)
      have rD := heap_alloc_new wr (.cells #[.int .i64 xa, .int .i64 xb, .int .i64 xc] 59)
      have hownA := own_kept hown hbA
      have hBA := hB.trans (hbA.mono hB.size)
      obtain ⟨WA, hWA⟩ : ∃ W, wr.alloc (.cells #[.int .i64 xa, .int .i64 xb, .int .i64 xc] 59) = W := ⟨_, rfl⟩
      rw [hWA] at rD hownA hBA
      obtain ⟨D, hD⟩ : ∃ D, wr.heap.size = D := ⟨_, rfl⟩
      rw [hD] at rD
      have HV : Hid (wr.alloc (.cells #[.int .i64 xa, .int .i64 xb, .int .i64 xc] 59) = WA) := hWA
      have HD : Hid (wr.heap.size = D) := hD
      have f0 := cellB rD 0 _ rfl
      have f1 := cellB rD 1 _ rfl
      have f2 := cellB rD 2 _ rfl
      have k0 : (0 : Int) ≤ (k : Int) := by omega
      have k1 : (k : Int) < (T.length : Int) := by omega
      have hml : k + 1 ≤ maxLen := by unfold maxLen; have := HT40.out; omega
      have hkb : (k + 1) * 24 ≤ 140737488355328 := by have := HT40.out; omega
      have hws := hBA.size
      obtain ⟨R, hR⟩ : ∃ R, ccs (T.take k) = R := ⟨_, rfl⟩
      rw [hR] at hownA HT
      clear hx hbA hown hB hWA hD hR rD
      go_upto_region 7 with fail
      rw [HV.out, HD.out]
      clear HV y0 y1 y2 HD
      go_wp2_with (first
        | (at_builtin; refine wpList_append_own _ rfl _ _ 104 rfl w.heap.size 105 i0 (.agg #[.int .i64 0, .int .i64 0, .int .i64 0]) 3 24 (show Tryz.prog.underlying 104 = some (.slice 105) by kernel_rfl) HINF.out.1 HINF.out.2.1 HINF.out.2.2.1 HINF.out.2.2.2 rfl (by decide) (.slice ca k cc) k R rfl (hownA.alloc _) _ 1 1 [.int .i64 xa, .int .i64 xb, .int .i64 xc] rfl rfl (World.news_of_block (heap_alloc_new _ _)) (by simp [Value.oneCell']) hml hkb (by simp; omega) ?_; intro v' w' g1 g2 _))
      have hB3 := (hBA.alloc hws (.cells #[.int .i64 xa, .int .i64 xb, .int .i64 xc] 105)).grown g2 (by simp; omega) (fun q hq => (hownA.lt q hq).1)
      go_roundg (T.length - (k + 1))
      case measure => omega
      case rel => exact ⟨k + 1, by omega, by go_num, by rw [HT.out]; exact g1, hB3⟩
    · have hkl : k = T.length := by omega
      subst hkl
      rw [List.take_length] at hown
      have HCU : Hid (Cs wr (.slice ca T.length cc) T) := Cs_row hown
      have HB1 : Hid (Below w.heap.size w wr) := hB
      have HKR : Hid (wr.rangeAt M 2 (kcs cl)) := mcs_range (HMB.out _ hB)
      have HSz : Hid ((Tryz.prog.info? 95).map (·.size) = some (kcs cl).length) := by show _ = _; rw [kcs_len, H8.out]; exact Tryz.size95
      have HIX : Hid (∀ (k : Nat) x, cl[k]? = some x → ∀ W, (Instr.index 95 (.agg (kcs cl).toArray) (.int .i64 (k : Int))).run Tryz.prog W = .ok (.agg #[.int .i64 (x.1 : Int), .int .i64 x.2]) W) := fun k x hx W => idx95 cl H8.out k x hx W
      obtain ⟨A, hA⟩ : ∃ A, kcs cl = A := ⟨_, rfl⟩
      rw [hA] at HKR HSz HIX
      obtain ⟨ws, rfl⟩ : ∃ ws, ws = wr := ⟨_, rfl⟩
      clear hown hB hA
      go_wp2_with (first | (refine wpList_load_mid rfl 95 _ rfl M 2 rfl A _ HKR.out Tryz.underlying95 rfl HSz.out ?_))
      go_loopg [4, 36] 8 (fun gk ku i wr => ∃ (k : Nat) (Q : List C3), k + gk = 8 ∧ i = .int .i64 k ∧ Q = knF 0 (cl.take k) ∧ wr.ownsRow ws.heap.size 105 3 ku Q.length (ccs Q) ∧ Below ws.heap.size ws wr)
      case atStart => exact ⟨0, [], by omega, rfl, rfl, World.ownsRow_nil _ _ _ _, Below.refl _ _⟩
      case round =>
        obtain ⟨k, Q, hk, rfl, hQ, hown, hB⟩ := hrel
        obtain ⟨ka, kc, rfl⟩ := owns_slice hown
        by_cases hlt : k < 8
        · obtain ⟨x, hx⟩ : ∃ x, cl[k]? = some x := ⟨_, List.getElem?_eq_getElem (by have := H8.out; omega)⟩
          have hix := HIX.out k x hx
          have HT : Hid (knF 0 (cl.take (k + 1)) = Q ++ (if 0 < x.1 then [((k : Int), (x.1 : Int), x.2)] else [])) := by show _ = _; rw [hQ]; exact knF_take hx
          have hQl : Q.length ≤ 8 := by
            have h1 := knF_len (cl.take k) 0
            have h2 : (cl.take k).length ≤ 8 := by rw [List.length_take]; have := H8.out; omega
            rw [hQ]; omega
          obtain ⟨n, a⟩ := x
          have hbA := (Below.refl wr.heap.size wr).alloc (Nat.le_refl _) (.cells #[.int .i64 (n : Int), .int .i64 a] 94)
          have rD := heap_alloc_new wr (.cells #[.int .i64 (n : Int), .int .i64 a] 94)
          have hownA := own_kept hown hbA
          have hBA := hB.trans (hbA.mono hB.size)
          obtain ⟨WA, hWA⟩ : ∃ W, wr.alloc (.cells #[.int .i64 (n : Int), .int .i64 a] 94) = W := ⟨_, rfl⟩
          rw [hWA] at rD hownA hBA
          obtain ⟨D, hD⟩ : ∃ D, wr.heap.size = D := ⟨_, rfl⟩
          rw [hD] at rD
          have HV : Hid (wr.alloc (.cells #[.int .i64 (n : Int), .int .i64 a] 94) = WA) := hWA
          have HD : Hid (wr.heap.size = D) := hD
          have f0 := cellB rD 0 _ rfl
          have f1 := cellB rD 1 _ rfl
          have k0 : (0 : Int) ≤ (k : Int) := by omega
          have k1 : (k : Int) < 8 := by omega
          have hml : Q.length + 1 ≤ maxLen := by unfold maxLen; omega
          have hkb : (Q.length + 1) * 24 ≤ 140737488355328 := by omega
          have hws := hBA.size
          clear hx hbA hown hB hWA hD rD hQ hQl
          go_upto_region 12 with fail
          rw [HV.out, HD.out]
          clear HV HD hix
          by_cases hn0 : 0 < n
          · have HT2 : Hid (Q ++ [((k : Int), (n : Int), a)] = knF 0 (cl.take (k + 1))) := by show _ = _; rw [HT.out, if_pos hn0]
            have hq0 : (0 : Int) < (n : Int) := by omega
            clear hn0
            go_wp2_with (first
              | (at_builtin; refine wpList_append_own _ rfl _ _ 104 rfl ws.heap.size 105 i0 (.agg #[.int .i64 0, .int .i64 0, .int .i64 0]) 3 24 (show Tryz.prog.underlying 104 = some (.slice 105) by kernel_rfl) HINF.out.1 HINF.out.2.1 HINF.out.2.2.1 HINF.out.2.2.2 rfl (by decide) (.slice ka Q.length kc) Q.length (ccs Q) rfl (hownA.alloc _) _ 1 1 [.int .i64 (k : Int), .int .i64 (n : Int), .int .i64 a] rfl rfl (World.news_of_block (heap_alloc_new _ _)) (by simp [Value.oneCell']) hml hkb (by simp; omega) ?_; intro v' w' g1 g2 _))
            have hB3 := (hBA.alloc hws (.cells #[.int .i64 (k : Int), .int .i64 (n : Int), .int .i64 a] 105)).grown g2 (by simp; omega) (fun q hq => (hownA.lt q hq).1)
            go_roundg (8 - (k + 1))
            case measure => omega
            case rel => exact ⟨k + 1, Q ++ [((k : Int), (n : Int), a)], by omega, by go_num, HT2.out, by rw [ccs_snoc, List.length_append]; exact g1, hB3⟩
          · have HT2 : Hid (Q = knF 0 (cl.take (k + 1))) := by show _ = _; rw [HT.out, if_neg hn0, List.append_nil]
            have hq0 : ¬ (0 : Int) < (n : Int) := by omega
            have HO : Hid (WA.ownsRow ws.heap.size 105 3 (.slice ka Q.length kc) Q.length (ccs Q)) := hownA
            have HBA : Hid (Below ws.heap.size ws WA) := hBA
            clear hn0 hownA hBA
            go_wp2_with fail
            go_roundg (8 - (k + 1))
            case measure => omega
            case rel => exact ⟨k + 1, Q, by omega, by go_num, HT2.out, HO.out, HBA.out⟩
        · have hk8 : k = 8 := by omega
          subst hk8
          rw [List.take_of_length_le (by have := H8.out; omega)] at hQ
          subst hQ
          have hcu := HCU.out.next hB
          have hku := Cs_row hown
          have hbw := HB1.out.trans (hB.mono HB1.out.size)
          have hP1 := HPK.out wr _ T hbw hcu HOKT.out (by have := HT40.out; omega)
          have HP2 : Hid (∀ W, Below wr.heap.size wr W → Calls Tryz.prog 50 #[.slice ka (knF 0 cl).length kc] W fun e W' => e = .returned (.string (bs (packT (knF 0 cl)))) ∧ Below W.heap.size W W') := fun W hW => HPK.out W _ (knF 0 cl) (hbw.trans (hW.mono hbw.size)) (hku.next hW) (knF_ok cl 0 HOKK.out (by have := H8.out; omega)) (by have h1 := knF_len cl 0; have h2 := H8.out; omega)
          have HBW : Hid (Below w.heap.size w wr) := hbw
          obtain ⟨P1, hP1'⟩ : ∃ P, packT T = P := ⟨_, rfl⟩
          obtain ⟨P2, hP2'⟩ : ∃ P, packT (knF 0 cl) = P := ⟨_, rfl⟩
          rw [hP1'] at hP1 HPP
          rw [hP2'] at HP2 HPP
          clear hown hB hcu hku hbw hP1' hP2'
          go_wp2_with (first
            | (go_at_call 50; have hg := H51.out; refine (HP2.out _ hg).mono ?_; rintro e w52 ⟨rfl, hb52⟩; have H52 : Hid (Below wr.heap.size wr w52) := hg.trans (hb52.mono hg.size); clear hb52 hg)
            | (go_at_call 50; refine hP1.mono ?_; clear hP1; rintro e w51 ⟨rfl, hb51⟩; have H51 : Hid (Below wr.heap.size wr w51) := hb51; clear hb51)
            | (go_at_call 30; have hb53 := H52.out.alloc H52.out.size (.cells #[.string (bs P1), .string (bs P2)] 9); refine (HPP.out _ _ (HBW.out.trans (hb53.mono HBW.out.size)) (Sl_new2 w52 P1 P2)).mono ?_; rintro e w54 ⟨rfl, hb54⟩; have hB54 := HBW.out.trans ((hb53.trans (hb54.mono hb53.size)).mono HBW.out.size); clear hb53 hb54))
          go_ret
          exact ⟨rfl, hB54⟩
end
section
open Go.RowKit
attribute [local go_sem ↓] Go.wp_at_zero Go.wp_at_succ

def chunk3 : List Int → List C3
  | a :: b :: c :: r => (a, b, c) :: chunk3 r
  | _ => []
/-- The threes that a text says. -/
def un3 (s : List UInt8) : Option (List C3) := if errOf s = 0 ∧ (texts s).length % 3 = 0 then (numsOf (texts s)).map chunk3 else none
def M3Post (s : List UInt8) (base : Nat) (v : Value) (E : Int) (W' : World) : Prop :=
  match un3 s with
  | some l => E = 0 ∧ Cs W' v l ∧ l.length ≤ s.length ∧ ∀ k, v.ownBlock = some k → base ≤ k ∧ k < W'.heap.size
  | none => E = 4
theorem ccs_chunk : ∀ (l : List Int), l.length % 3 = 0 → ccs (chunk3 l) = zcs l ∧ (chunk3 l).length * 3 = l.length
  | [], _ => ⟨rfl, rfl⟩
  | [_], h => by simp at h
  | [_, _], h => by simp at h
  | a :: b :: c :: r, h => by
    obtain ⟨h1, h2⟩ := ccs_chunk r (by simp at h; omega)
    refine ⟨?_, ?_⟩
    · show [Value.int .i64 a, .int .i64 b, .int .i64 c] ++ ccs (chunk3 r) = .int .i64 a :: .int .i64 b :: .int .i64 c :: zcs r
      rw [h1]; rfl
    · show ((chunk3 r).length + 1) * 3 = r.length + 1 + 1 + 1
      omega
def mixN (ns : List Int) (m : Nat) : List Int := ns ++ List.replicate (m - ns.length) 0
theorem mixN_len {ns : List Int} {m : Nat} (h : ns.length ≤ m) : (mixN ns m).length = m := by unfold mixN; rw [List.length_append, List.length_replicate]; omega
theorem mixN_full {ns : List Int} : mixN ns ns.length = ns := by unfold mixN; rw [Nat.sub_self]; simp
theorem mixN_at {ns : List Int} {m : Nat} (h : ns.length < m) : (mixN ns m)[ns.length]? = some 0 := by
  unfold mixN
  rw [List.getElem?_append_right (Nat.le_refl _), Nat.sub_self, show m - ns.length = (m - ns.length - 1) + 1 by omega]
  rfl
theorem mixN_set {ns : List Int} {m : Nat} {x : Int} (h : ns.length < m) : (mixN ns m).set ns.length x = mixN (ns ++ [x]) m := by
  unfold mixN
  rw [List.set_append_right _ _ (Nat.le_refl _), Nat.sub_self, show m - ns.length = (m - (ns ++ [x]).length) + 1 by simp; omega, List.replicate_succ, List.append_assoc]
  rfl
theorem zcs_set (l : List Int) (k : Nat) (x : Int) : some (Obj.cells ((zcs l).toArray.setIfInBounds k (.int .i64 x)) 105) = some (Obj.cells (zcs (l.set k x)).toArray 105) := by
  congr 2
  rw [List.setIfInBounds_toArray]
  unfold zcs
  rw [List.map_set]
theorem made_zero (n : Nat) : (madeCells (Value.agg #[.int .i64 0, .int .i64 0, .int .i64 0]).cells n).toList = zcs (List.replicate n 0) := by
  apply List.ext_getElem
  · simp [madeCells, zcs]
  · intro i h1 h2
    have h3 : i % 3 = 0 ∨ i % 3 = 1 ∨ i % 3 = 2 := by omega
    simp only [madeCells, zcs, Array.toList_map, Array.toList_range, List.getElem_map, List.getElem_range, List.getElem_replicate]
    show (#[Value.int .i64 0, Value.int .i64 0, Value.int .i64 0] : Array Value)[i % 3]! = _
    rcases h3 with h | h | h <;> rw [h] <;> rfl
set_option maxRecDepth 20000 in
set_option maxHeartbeats 4000000 in
theorem munpack_any (s : List UInt8) (w : World) (hs : s.length ≤ 1000000) (he : Env w) :
    Calls Tryz.prog 64 #[.string (bs s)] w fun e W' => ∃ v E, e = .returned (.tuple #[v, .int .i64 E]) ∧ M3Post s w.heap.size v E W' ∧ Below w.heap.size w W' := by
  have hU := Unpack_any s w hs he
  have HNO : Hid (un3 s = none → ∀ v W', M3Post s w.heap.size v 4 W') := fun h v W' => by unfold M3Post; rw [h]
  rcases err_cases s with e0 | e0
  · by_cases h3 : (texts s).length % 3 = 0
    · have HUN : Hid (un3 s = (numsOf (texts s)).map chunk3) := by show _ = _; unfold un3; rw [if_pos ⟨e0, h3⟩]
      have HTL : Hid ((texts s).length ≤ s.length) := texts_count s
      rw [e0] at hU
      have HTS : Hid (∀ t ∈ texts s, t.length ≤ s.length) := fun t ht => texts_mem_len ht
      have HYS : Hid (∀ v W' ns, numsOf (texts s) = some ns → Cs W' v (chunk3 ns) → (∀ k, v.ownBlock = some k → w.heap.size ≤ k ∧ k < W'.heap.size) → M3Post s w.heap.size v 0 W') := fun v W' ns h h1 h2 => by
        unfold M3Post
        rw [HUN.out, h]
        have e1 := (numsOf_back _ _ h).2
        have e2 := (ccs_chunk ns (by rw [e1]; exact h3)).2
        have e4 := HTL.out
        exact ⟨rfl, h1, by omega, h2⟩
      obtain ⟨L, hL⟩ : ∃ L, texts s = L := ⟨_, rfl⟩
      rw [hL] at hU HUN HTL HTS HYS h3
      obtain ⟨m, hm⟩ : ∃ m, L.length = 3 * m := ⟨L.length / 3, by omega⟩
      have HM : Hid (L.length = 3 * m) := hm
      obtain ⟨i0, hi, hz0, hz1, hz2⟩ := info_parts (show (Tryz.prog.info? 105).map (fun i => (i.zero, i.size, i.bytes)) = some (some (.agg #[.int .i64 0, .int .i64 0, .int .i64 0]), 3, 24) by kernel_rfl)
      have HINF : Hid (Tryz.prog.info? 105 = some i0 ∧ i0.zero = some (.agg #[.int .i64 0, .int .i64 0, .int .i64 0]) ∧ i0.size = 3 ∧ i0.bytes = 24) := ⟨hi, hz0, hz1, hz2⟩
      have HE : Hid (∀ W, Below w.heap.size w W → Env W) := fun W hb => he.next hb
      have HSZ : Hid (s.length ≤ 1000000) := hs
      have hl : L.length ≤ 1000000 := Nat.le_trans HTL.out hs
      have hm2 : ((L.length : Int) % 3 != 0) = false := by simp; omega
      have hd3 : (L.length : Int) / 3 = (m : Int) := by omega
      clear he hs hL e0 hm h3 hi hz0 hz1 hz2
      go_enter Tryz.func64, Tryz.ntmps64
      go_upto_region 4 with (first
        | (go_at_call 36; refine hU.mono ?_; clear hU; rintro e w1 ⟨v, rfl, hown, hb1⟩; obtain ⟨va, vc, rfl⟩ := owns_slice hown; have HO1 : Hid (w1.ownsRow w.heap.size 9 1 (.slice va L.length vc) L.length (strs L)) := hown; have HB1 : Hid (Below w.heap.size w w1) := hb1; clear hown hb1))
      have hml : m ≤ maxLen := by unfold maxLen; have := HM.out; omega
      have hmb : 24 * m ≤ 281474976710656 := by have := HM.out; omega
      go_upto_region 5 with (first
        | (at_make; refine wpList_make_full _ rfl _ _ 104 rfl w1.heap.size 105 i0 (.agg #[.int .i64 0, .int .i64 0, .int .i64 0]) 3 (show Tryz.prog.underlying 104 = some (.slice 105) by kernel_rfl) HINF.out.1 HINF.out.2.1 HINF.out.2.2.1 .i64 .i64 _ _ m rfl rfl rfl rfl (by rw [HINF.out.2.2.2]; exact hmb) hml (Nat.le_refl _) ?_; intro w2 hown2 hg2; have HO2 : Hid (w2.ownsRow w1.heap.size 105 3 (.slice (some ⟨w1.heap.size, 0, none⟩) m m) m (madeCells (Value.agg #[.int .i64 0, .int .i64 0, .int .i64 0]).cells (m * 3)).toList ∧ w1.grownBy w2 none) := ⟨hown2, hg2⟩; clear hown2 hg2))
      obtain ⟨hown2, hg2⟩ := HO2.out
      obtain ⟨X, hX⟩ : ∃ X, w1.heap.size = X := ⟨_, rfl⟩
      have HX : Hid (w1.heap.size = X) := hX
      have hK2 : w2.heap[X]? = some (.cells (zcs (mixN [] (3 * m))).toArray 105) := by
        rcases hown2.2 with ⟨e, _⟩ | ⟨g, cap, cur, e, _, hh, _, _, hsz, htk⟩
        · cases e
        · injection e with e1 _ e3
          injection e1 with e1
          injection e1 with e1
          subst e3
          rw [← hX, e1, hh]
          have hcl : cur.toList = zcs (mixN [] (3 * m)) := by
            have : cur.toList.take (m * 3) = cur.toList := List.take_of_length_le (by rw [Array.length_toList, hsz]; exact Nat.le_refl _)
            rw [← this, htk, made_zero, Nat.mul_comm m 3]
            rfl
          congr 2
          rw [← hcl]
      have hb2 : Below w1.heap.size w1 w2 := (Below.refl _ w1).grown hg2 (Nat.le_refl _) (fun q hq => by cases hq)
      have HK0 : Hid (w2.heap[X]? = some (.cells (zcs (mixN [] (3 * m))).toArray 105) ∧ Below w1.heap.size w1 w2) := ⟨hK2, hb2⟩
      clear hown2 hg2 hK2 hb2 HO2 hX hml hmb hd3 hm2
      rw [HX.out]
      go_wp2_with fail
      go_loopg [30] L.length (fun gk i wr => ∃ (k : Nat) (ns : List Int), k + gk = L.length ∧ i = .int .i64 k ∧ numsOf (L.take k) = some ns ∧ ns.length = k ∧ wr.heap[X]? = some (.cells (zcs (mixN ns (3 * m))).toArray 105) ∧ Below w1.heap.size w1 wr)
      case atStart => exact ⟨0, [], by omega, rfl, rfl, rfl, HK0.out.1, HK0.out.2⟩
      case round =>
        obtain ⟨k, ns, hk, rfl, hns, hnl, hK, hB⟩ := hrel
        by_cases hlt : k < L.length
        · obtain ⟨t, ht⟩ : ∃ t, L[k]? = some t := ⟨_, List.getElem?_eq_getElem hlt⟩
          have hts := HTS.out t (List.mem_of_getElem? ht)
          obtain ⟨b1, o1, hva, q1⟩ := Sl_at ((Sl.of_owns HO1.out).below hB (Nat.le_refl _)) ht
          subst hva
          have hN := ToNum_any (bs t) wr (by show t.toArray.size ≤ _; rw [List.size_toArray]; have := HSZ.out; omega) (HE.out _ (HB1.out.trans (hB.mono HB1.out.size)))
          rw [show (bs t).data.toList = t from rfl] at hN
          have k0 : (0 : Int) ≤ (k : Int) := by omega
          have k1 : (k : Int) < (L.length : Int) := by omega
          rcases tn_cases t with et | et
          · have HT : Hid (numsOf (L.take (k + 1)) = some (ns ++ [tnV t])) := numsOf_take ht et hns
            rw [et] at hN
            obtain ⟨Y, hY⟩ : ∃ Y, tnV t = Y := ⟨_, rfl⟩
            rw [hY] at hN HT
            obtain ⟨q, hq⟩ : ∃ q, k / 3 = q := ⟨_, rfl⟩
            obtain ⟨r, hr⟩ : ∃ r, k % 3 = r := ⟨_, rfl⟩
            have hkq : k = q * 3 + r := by omega
            have hqi : (k : Int) / 3 = (q : Int) := by omega
            have hri : (k : Int) % 3 = (r : Int) := by omega
            have q0 : (0 : Int) ≤ (q : Int) := by omega
            have q2 : (q : Int) < (m : Int) := by have := HM.out; omega
            have r0 : (0 : Int) ≤ (r : Int) := by omega
            have r1 : (r : Int) < 3 := by omega
            have HKQ : Hid (k = q * 3 + r ∧ ns.length = k ∧ k < 3 * m) := ⟨hkq, hnl, by have := HM.out; omega⟩
            have HB : Hid (Below w1.heap.size w1 wr) := hB
            have HKk : Hid (wr.heap[X]? = some (.cells (zcs (mixN ns (3 * m))).toArray 105)) := hK
            clear ht hts et hY hns hB hK hq hr hkq hnl HK0
            go_upto_region 11 with (first
              | (go_at_call 37; refine hN.mono ?_; clear hN; rintro e w3 ⟨rfl, hb3⟩; have HB3 : Hid (Below w1.heap.size w1 w3) := HB.out.trans (hb3.mono HB.out.size); have HK3 : Hid (w3.heap[X]? = some (.cells (zcs (mixN ns (3 * m))).toArray 105)) := (hb3.block X (Array.getElem?_eq_some_iff.1 HKk.out).1).trans HKk.out; clear hb3))
            have hnlt : ns.length < 3 * m := by obtain ⟨a, b, c⟩ := HKQ.out; omega
            have hpos : q * 3 + r = ns.length := by obtain ⟨a, b, c⟩ := HKQ.out; omega
            have z1 := cellB HK3.out (q * 3 + r) (.int .i64 0) (by rw [List.getElem?_toArray, hpos]; exact zcs_at _ _ _ (mixN_at hnlt))
            have z2 := frozenB HK3.out (q * 3 + r)
            have HKS : Hid ((w3.setCell ⟨X, q * 3 + r, none⟩ (.int .i64 Y)).heap[X]? = some (.cells (zcs (mixN (ns ++ [Y]) (3 * m))).toArray 105)) := by
              show _ = _
              rw [setB HK3.out (q * 3 + r) (.int .i64 Y), ← mixN_set hnlt, hpos]
              exact zcs_set _ _ _
            have HBS : Hid (Below w1.heap.size w1 (w3.setCell ⟨X, q * 3 + r, none⟩ (.int .i64 Y))) := HB3.out.setCell (Nat.le_of_eq HX.out) _
            clear hnlt hpos HB3 HK3
            go_wp2_with fail
            go_roundg (L.length - (k + 1))
            case measure => omega
            case rel => exact ⟨k + 1, ns ++ [Y], by omega, by go_num, HT.out, by have := HKQ.out.2.1; simp; omega, HKS.out, HBS.out⟩
          · have HT : Hid (numsOf L = none) := numsOf_at ht (by rw [et]; decide)
            rw [et] at hN
            obtain ⟨Y, hY⟩ : ∃ Y, tnV t = Y := ⟨_, rfl⟩
            rw [hY] at hN
            have HB : Hid (Below w1.heap.size w1 wr) := hB
            have HN3 : Hid (un3 s = none) := by show _ = _; rw [HUN.out, HT.out]; rfl
            clear ht hts et hY hns hB hK hnl HK0
            go_wp2_with (first
              | (go_at_call 37; refine hN.mono ?_; clear hN; rintro e w3 ⟨rfl, hb3⟩; have hB := HB.out.trans (hb3.mono HB.out.size); clear hb3))
            exact bodyPost_ret (v := .tuple #[.slice none 0 0, .int .i64 4]) (by simp [results, Tryz.f64, go_sem]) rfl ⟨_, _, rfl, HNO.out HN3.out _ _, HB1.out.trans (hB.mono HB1.out.size)⟩
        · have hkl : k = L.length := by omega
          subst hkl
          have HR : Hid (_ ∧ _ ∧ _ ∧ _) := ⟨hns, hnl, hK, hB⟩
          clear hns hnl hK hB HK0
          go_wp2
          obtain ⟨hns, hnl, hK, hB⟩ := HR.out
          rw [List.take_length] at hns
          have hm3 := HM.out
          have e3 : 3 * m = ns.length := by omega
          rw [e3, mixN_full] at hK
          obtain ⟨c1, c2⟩ := ccs_chunk ns (by omega)
          have hXl : X < wr.heap.size := (Array.getElem?_eq_some_iff.1 hK).1
          have hrow : wr.ownsRow w1.heap.size 105 3 (.slice (some ⟨X, 0, none⟩) m m) m (ccs (chunk3 ns)) := by
            refine ⟨by rw [c1, zcs_len]; omega, .inr ⟨X, m, (zcs ns).toArray, rfl, Nat.le_of_eq HX.out, hK, Nat.le_refl _, by unfold maxLen; have := HTL.out; have := HSZ.out; omega, by rw [List.size_toArray, zcs_len]; omega, ?_⟩⟩
            rw [c1]
            exact List.take_of_length_le (by show (zcs ns).length ≤ _; rw [zcs_len]; omega)
          have hcs : Cs wr (.slice (some ⟨X, 0, none⟩) m m) (chunk3 ns) := by
            have e4 : m = (chunk3 ns).length := by omega
            have := hrow
            rw [e4] at this ⊢
            exact Cs_row this
          refine bodyPost_ret (v := .tuple #[.slice (some ⟨X, 0, none⟩) m m, .int .i64 0]) (by simp [results, Tryz.f64, go_sem]) rfl ⟨_, _, rfl, HYS.out _ _ ns hns hcs (fun j hj => ?_), HB1.out.trans (hB.mono HB1.out.size)⟩
          have : X = j := by simpa [Value.ownBlock] using hj
          have := HB1.out.size
          have := HX.out
          omega
    · have HN3 : Hid (un3 s = none) := by show _ = _; unfold un3; rw [if_neg (fun h => h3 h.2)]
      rw [e0] at hU
      have hl := Nat.le_trans (texts_count s) hs
      obtain ⟨L, hL⟩ : ∃ L, texts s = L := ⟨_, rfl⟩
      rw [hL] at hU h3 hl
      have hm2 : ((L.length : Int) % 3 != 0) = true := by rw [bne_iff_ne]; omega
      clear hL e0 h3
      go_enter Tryz.func64, Tryz.ntmps64
      go_wp2_with (first
        | (go_at_call 36; refine hU.mono ?_; clear hU; rintro e w1 ⟨v, rfl, hown, hb1⟩; obtain ⟨va, vc, rfl⟩ := owns_slice hown; clear hown))
      exact bodyPost_ret (v := .tuple #[.slice none 0 0, .int .i64 4]) (by simp [results, Tryz.f64, go_sem]) rfl ⟨_, _, rfl, HNO.out HN3.out _ _, hb1⟩
  · have HN3 : Hid (un3 s = none) := by show _ = _; unfold un3; rw [if_neg (fun h => by rw [e0] at h; exact absurd h.1 (by decide))]
    have hT : texts s = [] := texts_bad (by rw [e0]; decide)
    rw [e0, hT] at hU
    clear e0 hT
    go_enter Tryz.func64, Tryz.ntmps64
    go_wp2_with (first
      | (go_at_call 36; refine hU.mono ?_; clear hU; rintro e w1 ⟨v, rfl, hown, hb1⟩; obtain ⟨va, vc, rfl⟩ := owns_slice hown; clear hown))
    exact bodyPost_ret (v := .tuple #[.slice none 0 0, .int .i64 4]) (by simp [results, Tryz.f64, go_sem]) rfl ⟨_, _, rfl, HNO.out HN3.out _ _, hb1⟩
end
section
open Go.RowKit
attribute [local go_sem ↓] Go.wp_at_zero Go.wp_at_succ

theorem isA_z {c n : Int} (h : isA c n = true) : 0 ≤ c ∧ c ≤ 7 ∧ 1 ≤ n ∧ n ≤ 1099511627776 := by
  unfold isA at h
  rw [Bool.and_eq_true] at h
  obtain ⟨a, b⟩ := wi_t h.1
  obtain ⟨c, d⟩ := wi_t h.2
  exact ⟨a, b, c, d⟩
theorem MK.trans {M B : Nat} {v u v1 u1 v2 u2 : Value} {L L1 L2 : List Rc} {w w1 w2 : World} (h1 : MK M B v u L v1 u1 L1 w w1) (h2 : MK M B v1 u1 L1 v2 u2 L2 w1 w2) : MK M B v u L v2 u2 L2 w w2 :=
  ⟨h2.os.trans h1.os, h2.tape.trans h1.tape, h2.output.trans h1.output, Nat.le_trans h1.size h2.size, fun k hk hn => (h2.block k (Nat.lt_of_lt_of_le hk h1.size) (fun ho => (h1.new k ho).elim hn (fun q => by omega))).trans (h1.block k hk hn), fun k hk => (h2.new k hk).elim (fun q => h1.new k q) (fun q => .inr (Nat.le_trans h1.size q))⟩
theorem Cs_keep {w w' : World} {v : Value} {l : List C3} (h : Cs w v l) (hs : w.heap.size ≤ w'.heap.size) (hk : ∀ k, v.ownBlock = some k → w'.heap[k]? = w.heap[k]?) : Cs w' v l := by
  rcases h with h | ⟨b, o, cap, rfl, hlt, h⟩
  · exact .inl h
  · refine .inr ⟨b, o, cap, rfl, Nat.lt_of_lt_of_le hlt hs, fun i x hx => ?_⟩
    obtain ⟨h1, h2, h3⟩ := h i x hx
    exact ⟨(World.cell?_of_block (a := ⟨b, o + i * 3, none⟩) (hk b rfl)).trans h1, (World.cell?_of_block (a := ⟨b, o + i * 3 + 1, none⟩) (hk b rfl)).trans h2, (World.cell?_of_block (a := ⟨b, o + i * 3 + 2, none⟩) (hk b rfl)).trans h3⟩
/-- Commands taken one behind the other; none where one is refused. -/
def tkAll : List (List Nat × List Nat) → List C3 → List C3 → Option (List (List Nat × List Nat) × List C3)
  | cs, T, [] => some (cs, T)
  | cs, T, x :: l => if doE cs x.1 x.2.1 x.2.2 = 0 then tkAll (doC cs x.1 x.2.1 x.2.2) (T ++ [x]) l else none
/-- Clients laid one behind the other; none where one is none. -/
def mtAll : Int → List Kn → List C3 → Option (List Kn)
  | _, cl, [] => some cl
  | ls, cl, x :: l => if isA x.1 x.2.1 = true ∧ ls ≤ x.1 ∧ wi x.2.2 0 999 = true then mtAll (x.1 + 1) (cl.set x.1.toNat (x.2.1.toNat, x.2.2)) l else none
def TaPost (s : List UInt8) (base M B : Nat) (v u : Value) (L : List Rc) (T : List C3) (cl : List Kn) (b : Bool) (w W' : World) : Prop :=
  ∃ v' u' L' T', MtAt base W' M B v' u' L' T' cl ∧ MK M B v u L v' u' L' w W' ∧ (∀ r, (un3 s).bind (tkAll (cls L) T) = some r → b = true ∧ cls L' = r.1 ∧ T' = r.2) ∧ ((un3 s).bind (tkAll (cls L) T) = none → b = false)
def MePost (s : List UInt8) (base M B : Nat) (v u : Value) (L : List Rc) (T : List C3) (cl : List Kn) (b : Bool) (w W' : World) : Prop :=
  ∃ cl', MtAt base W' M B v u L T cl' ∧ MK M B v u L v u L w W' ∧ (∀ r, (un3 s).bind (mtAll 0 cl) = some r → b = true ∧ cl' = r) ∧ ((un3 s).bind (mtAll 0 cl) = none → b = false)
theorem mun_some (s : List UInt8) (l : List C3) (w : World) (hs : s.length ≤ 1000000) (he : Env w) (h : un3 s = some l) :
    Calls Tryz.prog 64 #[.string (bs s)] w fun e W' => ∃ va vc, e = .returned (.tuple #[.slice va l.length vc, .int .i64 0]) ∧ Cs W' (.slice va l.length vc) l ∧ l.length ≤ s.length ∧ (∀ k, (Value.slice va l.length vc).ownBlock = some k → w.heap.size ≤ k ∧ k < W'.heap.size) ∧ Below w.heap.size w W' := by
  refine (munpack_any s w hs he).mono ?_
  rintro e W' ⟨v, E, rfl, hp, hb⟩
  unfold M3Post at hp
  rw [h] at hp
  obtain ⟨rfl, h1, h2, h3⟩ := hp
  obtain ⟨va, vc, rfl⟩ := h1.slice
  exact ⟨va, vc, rfl, h1, h2, h3, hb⟩
theorem mun_none (s : List UInt8) (w : World) (hs : s.length ≤ 1000000) (he : Env w) (h : un3 s = none) :
    Calls Tryz.prog 64 #[.string (bs s)] w fun e W' => ∃ v, e = .returned (.tuple #[v, .int .i64 4]) ∧ Below w.heap.size w W' := by
  refine (munpack_any s w hs he).mono ?_
  rintro e W' ⟨v, E, rfl, hp, hb⟩
  unfold M3Post at hp
  rw [h] at hp
  subst hp
  exact ⟨v, rfl, hb⟩
set_option maxRecDepth 20000 in
set_option maxHeartbeats 4000000 in
theorem takeAll_any (s : List UInt8) (hs : s.length ≤ 1000000) (base M B : Nat) (v u : Value) (L : List Rc) (T : List C3) (cl : List Kn) (w : World) (h : MtAt base w M B v u L T cl) (he : Env w) :
    Calls Tryz.prog 46 #[.pointer (some ⟨M, 0, none⟩), .string (bs s)] w fun e W' => ∃ b, e = .returned (.bool b) ∧ TaPost s base M B v u L T cl b w W' := by
  cases hun : un3 s with
  | none =>
    have hU := mun_none s w hs he hun
    have HP : Hid (∀ W', Below w.heap.size w W' → TaPost s base M B v u L T cl false w W') := fun W' hb => ⟨v, u, L, T, h.next hb, MK.of_below hb, fun r hr => (by rw [hun] at hr; cases hr), fun _ => rfl⟩
    clear h he hun
    go_enter Tryz.func46, Tryz.ntmps46
    go_wp2_with (first
      | (go_at_call 64; refine hU.mono ?_; clear hU; rintro e w1 ⟨tv, rfl, hb1⟩))
    go_ret
    exact ⟨_, rfl, HP.out _ hb1⟩
  | some l =>
    have hU := mun_some s l w hs he hun
    have HM : Hid (MtAt base w M B v u L T cl) := h
    have HUN : Hid (un3 s = some l) := hun
    clear h he hun
    go_enter Tryz.func46, Tryz.ntmps46
    go_wp2_with (first
      | (go_at_call 64; refine hU.mono ?_; clear hU; rintro e w1 ⟨va, vc, rfl, c1, c2, c3, hb1⟩; have HC : Hid (Cs w1 (.slice va l.length vc) l ∧ l.length ≤ s.length ∧ (∀ k, (Value.slice va l.length vc).ownBlock = some k → w.heap.size ≤ k ∧ k < w1.heap.size) ∧ Below w.heap.size w w1) := ⟨c1, c2, c3, hb1⟩; clear c1 c2 c3 hb1))
    go_loopg [18] l.length (fun gk i wr => ∃ (k : Nat) (v' u' : Value) (L' : List Rc) (T' : List C3), k + gk = l.length ∧ i = .int .i64 k ∧ MtAt base wr M B v' u' L' T' cl ∧ MK M B v u L v' u' L' w wr ∧ Cs wr (.slice va l.length vc) l ∧ (∀ j, (Value.slice va l.length vc).ownBlock = some j → ¬ MOwn M B v' u' L' j ∧ j < wr.heap.size) ∧ Hid (tkAll (cls L) T l = tkAll (cls L') T' (l.drop k)))
    case atStart =>
      obtain ⟨c1, c2, c3, hb1⟩ := HC.out
      exact ⟨0, v, u, L, T, by omega, rfl, HM.out.next hb1, MK.of_below hb1, c1, fun j hj => ⟨fun ho => by have := (HM.out.own_lt ho).2; have := (c3 j hj).1; omega, (c3 j hj).2⟩, rfl⟩
    case round =>
      obtain ⟨k, v', u', L', T', hk, rfl, hm, hmk, hcs, hap, hall⟩ := hrel
      by_cases hlt : k < l.length
      · obtain ⟨x, hx⟩ : ∃ x, l[k]? = some x := ⟨_, List.getElem?_eq_getElem hlt⟩
        have hdr : l.drop k = x :: l.drop (k + 1) := by
          obtain ⟨h1, h2⟩ := List.getElem?_eq_some_iff.1 hx
          rw [← h2]
          exact List.drop_eq_getElem_cons h1
        obtain ⟨b1, o1, hva, y0, y1, y2⟩ := hcs.at hx
        obtain ⟨xa, xb, xc⟩ := x
        have HALL : Hid (tkAll (cls L) T l = if doE (cls L') xa xb xc = 0 then tkAll (doC (cls L') xa xb xc) (T' ++ [(xa, xb, xc)]) (l.drop (k + 1)) else none) := by
          show _ = _
          rw [hall.out, hdr]
          rfl
        have HMR : Hid (MtAt base wr M B v' u' L' T' cl ∧ MK M B v u L v' u' L' w wr ∧ Cs wr (.slice va l.length vc) l ∧ (∀ j, (Value.slice va l.length vc).ownBlock = some j → ¬ MOwn M B v' u' L' j ∧ j < wr.heap.size)) := ⟨hm, hmk, hcs, hap⟩
        subst hva
        have hbA := (Below.refl wr.heap.size wr).alloc (Nat.le_refl _) (.cells #[.int .i64 xa, .int .i64 xb, .int .i64 xc] 105)
        have rD := heap_alloc_new wr (.cells #[.int .i64 xa, .int .i64 xb, .int .i64 xc] 105)
        obtain ⟨WA, hWA⟩ : ∃ W, wr.alloc (.cells #[.int .i64 xa, .int .i64 xb, .int .i64 xc] 105) = W := ⟨_, rfl⟩
        rw [hWA] at rD hbA
        have hTk := take_any xa xb xc base M B v' u' L' T' cl WA (hm.next hbA)
        obtain ⟨D, hD⟩ : ∃ D, wr.heap.size = D := ⟨_, rfl⟩
        rw [hD] at rD
        have HV : Hid (wr.alloc (.cells #[.int .i64 xa, .int .i64 xb, .int .i64 xc] 105) = WA) := hWA
        have HD : Hid (wr.heap.size = D) := hD
        have HBA : Hid (Below wr.heap.size wr WA) := hbA
        have f0 := cellB rD 0 _ rfl
        have f1 := cellB rD 1 _ rfl
        have f2 := cellB rD 2 _ rfl
        have k0 : (0 : Int) ≤ (k : Int) := by omega
        have k1 : (k : Int) < (l.length : Int) := by omega
        have hk9 : k ≤ 1000000 := by have := HC.out.2.1; omega
        obtain ⟨E, hE⟩ : ∃ E, doE (cls L') xa xb xc = E := ⟨_, rfl⟩
        rw [hE] at hTk HALL
        have HE : Hid (doE (cls L') xa xb xc = E) := hE
        clear hx hdr hm hmk hcs hap hall rD hbA hWA hD hE
        go_upto_region 7 with fail
        rw [HV.out, HD.out]
        clear HV y0 y1 y2 HD
        by_cases hE0 : E = 0
        · subst hE0
          go_wp2_with (first
            | (go_at_call 53; refine hTk.mono ?_; clear hTk; rintro e w3 ⟨rfl, v3, u3, L3, T3, t0, t1, t2, t3⟩; have HT3 : Hid (T3 = tkT (cls L') T' xa xb xc ∧ cls L3 = doC (cls L') xa xb xc ∧ MtAt base w3 M B v3 u3 L3 T3 cl ∧ MK M B v' u' L' v3 u3 L3 WA w3) := ⟨t0, t1, t2, t3⟩; clear t0 t1 t2 t3))
          go_roundg (l.length - (k + 1))
          case measure => omega
          case rel =>
            obtain ⟨t0, t1, t2, t3⟩ := HT3.out
            obtain ⟨hm, hmk, hcs, hap⟩ := HMR.out
            have hbA := HBA.out
            have hkA : MK M B v' u' L' v3 u3 L3 wr w3 := MK.pre hbA t3
            refine ⟨k + 1, v3, u3, L3, T3, by omega, by go_num, t2, hmk.trans hkA, Cs_keep hcs hkA.size (fun j hj => hkA.block j (hap j hj).2 (hap j hj).1), fun j hj => ⟨fun ho => (hkA.new j ho).elim (hap j hj).1 (fun q => by have := (hap j hj).2; omega), Nat.lt_of_lt_of_le (hap j hj).2 hkA.size⟩, ?_⟩
            show _ = _
            rw [HALL.out]
            (first | rw [if_pos rfl] | rw [if_pos True.intro])
            rw [t1, t0]
            unfold tkT
            rw [HE.out, if_pos rfl]
        · have hne : (E != 0) = true := by rw [bne_iff_ne]; exact hE0
          have HR : Hid ((un3 s).bind (tkAll (cls L) T) = none) := by
            show _ = _
            rw [HUN.out]
            show tkAll (cls L) T l = none
            rw [HALL.out, if_neg hE0]
          clear hE0
          go_wp2_with (first
            | (go_at_call 53; refine hTk.mono ?_; clear hTk; rintro e w3 ⟨rfl, v3, u3, L3, T3, t0, t1, t2, t3⟩; have HT3 : Hid (MtAt base w3 M B v3 u3 L3 T3 cl ∧ MK M B v' u' L' v3 u3 L3 WA w3) := ⟨t2, t3⟩; clear t0 t1 t2 t3))
          go_ret
          obtain ⟨t2, t3⟩ := HT3.out
          exact ⟨_, rfl, v3, u3, L3, T3, t2, HMR.out.2.1.trans (MK.pre HBA.out t3), fun r hr => (by rw [HR.out] at hr; cases hr), fun _ => rfl⟩
      · have hkl : k = l.length := by omega
        subst hkl
        have HMR : Hid (MtAt base wr M B v' u' L' T' cl ∧ MK M B v u L v' u' L' w wr) := ⟨hm, hmk⟩
        have HALL : Hid ((un3 s).bind (tkAll (cls L) T) = some (cls L', T')) := by
          show _ = _
          rw [HUN.out]
          show tkAll (cls L) T l = _
          rw [hall.out, List.drop_length]
          rfl
        clear hm hmk hcs hap hall
        go_wp2_with fail
        go_ret
        exact ⟨_, rfl, v', u', L', T', HMR.out.1, HMR.out.2, fun r hr => (by rw [HALL.out] at hr; injection hr with hr; subst hr; exact ⟨rfl, rfl, rfl⟩), fun hr => (by rw [HALL.out] at hr; cases hr)⟩
set_option maxRecDepth 20000 in
set_option maxHeartbeats 4000000 in
theorem meetAll_any (s : List UInt8) (hs : s.length ≤ 1000000) (base M B : Nat) (v u : Value) (L : List Rc) (T : List C3) (cl : List Kn) (w : World) (h : MtAt base w M B v u L T cl) (he : Env w) :
    Calls Tryz.prog 47 #[.pointer (some ⟨M, 0, none⟩), .string (bs s)] w fun e W' => ∃ b, e = .returned (.bool b) ∧ MePost s base M B v u L T cl b w W' := by
  cases hun : un3 s with
  | none =>
    have hU := mun_none s w hs he hun
    have HP : Hid (∀ W', Below w.heap.size w W' → MePost s base M B v u L T cl false w W') := fun W' hb => ⟨cl, h.next hb, MK.of_below hb, fun r hr => (by rw [hun] at hr; cases hr), fun _ => rfl⟩
    clear h he hun
    go_enter Tryz.func47, Tryz.ntmps47
    go_wp2_with (first
      | (go_at_call 64; refine hU.mono ?_; clear hU; rintro e w1 ⟨tv, rfl, hb1⟩))
    go_ret
    exact ⟨_, rfl, HP.out _ hb1⟩
  | some l =>
    have hU := mun_some s l w hs he hun
    have HM : Hid (MtAt base w M B v u L T cl) := h
    have HUN : Hid (un3 s = some l) := hun
    clear h he hun
    go_enter Tryz.func47, Tryz.ntmps47
    go_wp2_with (first
      | (go_at_call 64; refine hU.mono ?_; clear hU; rintro e w1 ⟨va, vc, rfl, c1, c2, c3, hb1⟩; have HC : Hid (Cs w1 (.slice va l.length vc) l ∧ l.length ≤ s.length ∧ (∀ k, (Value.slice va l.length vc).ownBlock = some k → w.heap.size ≤ k ∧ k < w1.heap.size) ∧ Below w.heap.size w w1) := ⟨c1, c2, c3, hb1⟩; clear c1 c2 c3 hb1))
    go_loopg [7, 22] l.length (fun gk lv i wr => ∃ (k : Nat) (ls : Int) (cl' : List Kn), k + gk = l.length ∧ lv = .int .i64 ls ∧ i = .int .i64 k ∧ MtAt base wr M B v u L T cl' ∧ MK M B v u L v u L w wr ∧ Cs wr (.slice va l.length vc) l ∧ (∀ j, (Value.slice va l.length vc).ownBlock = some j → ¬ MOwn M B v u L j ∧ j < wr.heap.size) ∧ Hid (mtAll 0 cl l = mtAll ls cl' (l.drop k)))
    case atStart =>
      obtain ⟨c1, c2, c3, hb1⟩ := HC.out
      exact ⟨0, 0, cl, by omega, rfl, rfl, HM.out.next hb1, MK.of_below hb1, c1, fun j hj => ⟨fun ho => by have := (HM.out.own_lt ho).2; have := (c3 j hj).1; omega, (c3 j hj).2⟩, rfl⟩
    case round =>
      obtain ⟨k, ls, cl', hk, rfl, rfl, hm, hmk, hcs, hap, hall⟩ := hrel
      by_cases hlt : k < l.length
      · obtain ⟨x, hx⟩ : ∃ x, l[k]? = some x := ⟨_, List.getElem?_eq_getElem hlt⟩
        have hdr : l.drop k = x :: l.drop (k + 1) := by
          obtain ⟨h1, h2⟩ := List.getElem?_eq_some_iff.1 hx
          rw [← h2]
          exact List.drop_eq_getElem_cons h1
        obtain ⟨b1, o1, hva, y0, y1, y2⟩ := hcs.at hx
        obtain ⟨xa, xb, xc⟩ := x
        have HALL : Hid (mtAll 0 cl l = if isA xa xb = true ∧ ls ≤ xa ∧ wi xc 0 999 = true then mtAll (xa + 1) (cl'.set xa.toNat (xb.toNat, xc)) (l.drop (k + 1)) else none) := by
          show _ = _
          rw [hall.out, hdr]
          rfl
        have HMR : Hid (MtAt base wr M B v u L T cl' ∧ MK M B v u L v u L w wr ∧ Cs wr (.slice va l.length vc) l ∧ (∀ j, (Value.slice va l.length vc).ownBlock = some j → ¬ MOwn M B v u L j ∧ j < wr.heap.size)) := ⟨hm, hmk, hcs, hap⟩
        subst hva
        have hbA := (Below.refl wr.heap.size wr).alloc (Nat.le_refl _) (.cells #[.int .i64 xa, .int .i64 xb, .int .i64 xc] 105)
        have rD := heap_alloc_new wr (.cells #[.int .i64 xa, .int .i64 xb, .int .i64 xc] 105)
        obtain ⟨WA, hWA⟩ : ∃ W, wr.alloc (.cells #[.int .i64 xa, .int .i64 xb, .int .i64 xc] 105) = W := ⟨_, rfl⟩
        rw [hWA] at rD hbA
        obtain ⟨D, hD⟩ : ∃ D, wr.heap.size = D := ⟨_, rfl⟩
        rw [hD] at rD
        have HV : Hid (wr.alloc (.cells #[.int .i64 xa, .int .i64 xb, .int .i64 xc] 105) = WA) := hWA
        have HD : Hid (wr.heap.size = D) := hD
        have HBA : Hid (Below wr.heap.size wr WA) := hbA
        have f0 := cellB rD 0 _ rfl
        have f1 := cellB rD 1 _ rfl
        have f2 := cellB rD 2 _ rfl
        have hI := fun W => isAsker_any xa xb W
        have hW := fun W => mwithin_any xc 0 999 W
        have k0 : (0 : Int) ≤ (k : Int) := by omega
        have k1 : (k : Int) < (l.length : Int) := by omega
        have hk9 : k ≤ 1000000 := by have := HC.out.2.1; omega
        have HMA : Hid (MtAt base WA M B v u L T cl') := hm.next hbA
        clear hx hdr hm hmk hcs hap hall rD hbA hWA hD
        go_upto_region 8 with fail
        rw [HV.out, HD.out]
        clear HV y0 y1 y2 HD
        go_region_held3 (fun w' => w'.cell? ⟨D, 0, none⟩ = some (.int .i64 xa) ∧ w'.cell? ⟨D, 1, none⟩ = some (.int .i64 xb) ∧ w'.cell? ⟨D, 2, none⟩ = some (.int .i64 xc)) (go_keep) (fail)
        by_cases hok : isA xa xb = true ∧ ls ≤ xa ∧ wi xc 0 999 = true
        · obtain ⟨a1, a2, a3⟩ := hok
          obtain ⟨c0, c7, n1, n2⟩ := isA_z a1
          rw [a1] at hI
          rw [a3] at hW
          have HALL2 : Hid (mtAll 0 cl l = mtAll (xa + 1) (cl'.set xa.toNat (xb.toNat, xc)) (l.drop (k + 1))) := by
            show _ = _
            rw [HALL.out, if_pos ⟨a1, a2, a3⟩]
          obtain ⟨c, rfl⟩ := Int.eq_ofNat_of_zero_le c0
          obtain ⟨n, rfl⟩ := Int.eq_ofNat_of_zero_le (show (0 : Int) ≤ xb by omega)
          rw [Int.toNat_natCast, Int.toNat_natCast] at HALL2
          have hc8 : c < 8 := by omega
          have hq : ¬ (c : Int) < ls := by omega
          have c8 : (c : Int) < 8 := by omega
          have hmD := HMA.out.next (below_drew (Below.refl WA.heap.size WA))
          have hsM : (mcs B u cl').toArray.size = 18 := by rw [List.size_toArray]; exact mcs_len B u cl' hmD.len
          have HTH : Hid (WA.drew.there M (2 + c * 2) 2) := blk_there hmD.blk (2 + c * 2) 2 (by rw [hsM]; omega)
          have HPUT : Hid (MtAt base (WA.drew.setCells M (2 + c * 2) [.int .i64 (n : Int), .int .i64 xc]) M B v u L T (cl'.set c (n, xc))) := hmD.put c hc8 n xc
          clear hmD hsM a1 a2 a3 n1 n2 c7 f0 f1 f2
          go_wp2_with (first
            | (go_at_call 52; refine (hI _).mono ?_; rintro e w1 ⟨rfl, h9⟩; subst w1)
            | (go_at_call 65; refine (hW _).mono ?_; rintro e w1 ⟨rfl, h9⟩; subst w1)
            | (refine wpList_store_mid rfl 94 _ _ rfl M (2 + c * 2) #[.int .i64 (n : Int), .int .i64 xc] rfl rfl HTH.out Tryz.size94 (by simp [Value.oneCell']) ?_))
          go_roundg (l.length - (k + 1))
          case measure => omega
          case rel =>
            obtain ⟨hm, hmk, hcs, hap⟩ := HMR.out
            have hbA := below_drew HBA.out
            have hkA : MK M B v u L v u L wr (WA.drew.setCells M (2 + c * 2) [.int .i64 (n : Int), .int .i64 xc]) := (MK.of_below hbA).set _ _
            refine ⟨k + 1, (c : Int) + 1, cl'.set c (n, xc), by omega, by go_num, by go_num, HPUT.out, hmk.trans hkA, Cs_keep hcs hkA.size (fun j hj => hkA.block j (hap j hj).2 (hap j hj).1), fun j hj => ⟨(hap j hj).1, Nat.lt_of_lt_of_le (hap j hj).2 hkA.size⟩, HALL2.out⟩
        · have HR : Hid ((un3 s).bind (mtAll 0 cl) = none) := by
            show _ = _
            rw [HUN.out]
            show mtAll 0 cl l = none
            rw [HALL.out, if_neg hok]
          have HEND : Hid (MePost s base M B v u L T cl false w WA.drew) := ⟨cl', HMA.out.next (below_drew (Below.refl _ _)), HMR.out.2.1.trans (MK.of_below (below_drew HBA.out)), fun r hr => (by rw [HR.out] at hr; cases hr), fun _ => rfl⟩
          have hcase : isA xa xb = false ∨ (isA xa xb = true ∧ xa < ls) ∨ (isA xa xb = true ∧ ¬ xa < ls ∧ wi xc 0 999 = false) := by
            cases hA : isA xa xb with
            | false => exact .inl rfl
            | true =>
              by_cases h2 : xa < ls
              · exact .inr (.inl ⟨rfl, h2⟩)
              · cases h3 : wi xc 0 999 with
                | false => exact .inr (.inr ⟨rfl, h2, rfl⟩)
                | true => exact absurd ⟨hA, by omega, h3⟩ hok
          clear hok f0 f1 f2
          rcases hcase with a1 | ⟨a1, a2⟩ | ⟨a1, a2, a3⟩
          · rw [a1] at hI
            go_wp2_with (first
              | (go_at_call 52; refine (hI _).mono ?_; rintro e w1 ⟨rfl, h9⟩; subst w1))
            go_ret
            exact ⟨_, rfl, HEND.out⟩
          · rw [a1] at hI
            go_wp2_with (first
              | (go_at_call 52; refine (hI _).mono ?_; rintro e w1 ⟨rfl, h9⟩; subst w1))
            go_ret
            exact ⟨_, rfl, HEND.out⟩
          · rw [a1] at hI
            rw [a3] at hW
            go_wp2_with (first
              | (go_at_call 52; refine (hI _).mono ?_; rintro e w1 ⟨rfl, h9⟩; subst w1)
              | (go_at_call 65; refine (hW _).mono ?_; rintro e w1 ⟨rfl, h9⟩; subst w1))
            go_ret
            exact ⟨_, rfl, HEND.out⟩
      · have hkl : k = l.length := by omega
        subst hkl
        have HMR : Hid (MtAt base wr M B v u L T cl' ∧ MK M B v u L v u L w wr) := ⟨hm, hmk⟩
        have HALL : Hid ((un3 s).bind (mtAll 0 cl) = some cl') := by
          show _ = _
          rw [HUN.out]
          show mtAll 0 cl l = _
          rw [hall.out, List.drop_length]
          rfl
        clear hm hmk hcs hap hall
        go_wp2_with fail
        go_ret
        exact ⟨_, rfl, cl', HMR.out.1, HMR.out.2, fun r hr => (by rw [HALL.out] at hr; injection hr with hr; subst hr; exact ⟨rfl, rfl⟩), fun hr => (by rw [HALL.out] at hr; cases hr)⟩
end
end Go.Proofs.YtfolnlgceighbaaGreatDoor
