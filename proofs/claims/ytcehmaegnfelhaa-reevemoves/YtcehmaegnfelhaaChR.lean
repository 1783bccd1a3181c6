/- A chain in memory; New, Get, walked. -/
import Derived.Test.YtcehmaegnfelhaaChQ
namespace Go.Proofs.Ytcehmaegnfelhaa
open Go.RowKit
attribute [local go_sem ↓] Go.wp_at_zero Go.wp_at_succ

/-- A configuration as it lies: its groups' slice, its groups, its owners. -/
abbrev Rc := Value × List Nat × List Nat
def rcs1 (n : Nat) (r : Rc) : List Value := .int .i64 (n : Int) :: r.1 :: owL r.2.2
def rcsF : Nat → List Rc → List Value
  | _, [] => []
  | n, r :: l => rcs1 n r ++ rcsF (n + 1) l
theorem rcsF_snoc : ∀ (l : List Rc) (n : Nat) (r : Rc), rcsF n (l ++ [r]) = rcsF n l ++ rcs1 (n + l.length) r
  | [], n, r => by show rcs1 n r ++ [] = [] ++ rcs1 (n + 0) r; simp
  | a :: l, n, r => by
    show rcs1 n a ++ rcsF (n + 1) (l ++ [r]) = (rcs1 n a ++ rcsF (n + 1) l) ++ rcs1 (n + (l.length + 1)) r
    rw [rcsF_snoc l (n + 1) r, List.append_assoc, show n + 1 + l.length = n + (l.length + 1) by omega]
theorem rcs1_len (n : Nat) (r : Rc) (h : r.2.2.length = 4) : (rcs1 n r).length = 6 := by simp [rcs1, owL, h]
theorem rcsF_len : ∀ (l : List Rc) (n : Nat), (∀ (i : Nat) r, l[i]? = some r → r.2.2.length = 4) → (rcsF n l).length = l.length * 6
  | [], _, _ => rfl
  | a :: l, n, h => by
    show (rcs1 n a ++ rcsF (n + 1) l).length = (l.length + 1) * 6
    rw [List.length_append, rcs1_len n a (h 0 a rfl), rcsF_len l (n + 1) (fun i r hr => h (i + 1) r (by simpa using hr))]; omega
theorem rcsF_at : ∀ (l : List Rc) (n i : Nat) (r : Rc), (∀ (i : Nat) r, l[i]? = some r → r.2.2.length = 4) → l[i]? = some r → ∀ j, j < 6 → (rcsF n l)[i * 6 + j]? = (rcs1 (n + i) r)[j]?
  | [], _, _, _, _, h, _, _ => by cases h
  | a :: l, n, 0, r, hl, h, j, hj => by
    have : a = r := by simpa using h
    subst this
    show (rcs1 n a ++ rcsF (n + 1) l)[0 * 6 + j]? = _
    rw [List.getElem?_append_left (by rw [rcs1_len n a (hl 0 a rfl)]; omega)]
    rw [Nat.zero_mul, Nat.zero_add]; rfl
  | a :: l, n, i + 1, r, hl, h, j, hj => by
    show (rcs1 n a ++ rcsF (n + 1) l)[(i + 1) * 6 + j]? = _
    rw [List.getElem?_append_right (by rw [rcs1_len n a (hl 0 a rfl)]; omega), rcs1_len n a (hl 0 a rfl)]
    have := rcsF_at l (n + 1) i r (fun i r hr => hl (i + 1) r (by simpa using hr)) (by simpa using h) j hj
    rw [show (i + 1) * 6 + j - 6 = i * 6 + j by omega, this, show n + 1 + i = n + (i + 1) by omega]
structure ChAt (base : Nat) (w : World) (B : Nat) (v : Value) (l : List Rc) : Prop where
  blk : w.heap[B]? = some (.cells #[v] 62)
  own : w.ownsRow base 50 6 v l.length (rcsF 1 l)
  ne : v.ownBlock ≠ some B
  low : base ≤ B
  ok : ∀ (i : Nat) r, l[i]? = some r → r.2.1 ∈ subs0 ∧ r.2.2 ∈ owners0 r.2.1 ∧ Il w r.1 (zi r.2.1) ∧ ∀ k, r.1.ownBlock = some k → base ≤ k ∧ k < w.heap.size ∧ k ≠ B ∧ v.ownBlock ≠ some k
theorem ChAt.lt {base : Nat} {w : World} {B : Nat} {v : Value} {l : List Rc} (h : ChAt base w B v l) : B < w.heap.size := (Array.getElem?_eq_some_iff.1 h.blk).1
theorem ChAt.next {base : Nat} {w w' : World} {B : Nat} {v : Value} {l : List Rc} (h : ChAt base w B v l) (hb : Below w.heap.size w w') : ChAt base w' B v l :=
  ⟨(hb.block B h.lt).trans h.blk, owns_next h.own hb, h.ne, h.low, fun i r hr => by
    obtain ⟨a, b, c, d⟩ := h.ok i r hr
    exact ⟨a, b, c.next hb, fun k hk => by
      obtain ⟨e1, e2, e3⟩ := d k hk
      exact ⟨e1, Nat.lt_of_lt_of_le e2 hb.size, e3⟩⟩⟩
theorem ChAt.four {base : Nat} {w : World} {B : Nat} {v : Value} {l : List Rc} (h : ChAt base w B v l) : ∀ (i : Nat) r, l[i]? = some r → r.2.2.length = 4 := fun i r hr => by
  obtain ⟨a, b, _⟩ := h.ok i r hr
  exact ((conf_of a).2.2 _ b).1
theorem ChAt.row {base : Nat} {w : World} {B : Nat} {v : Value} {l : List Rc} (h : ChAt base w B v l) {i : Nat} {r : Rc} (hr : l[i]? = some r) : ∃ g cap, v = .slice (some ⟨g, 0, none⟩) l.length cap ∧ w.rangeAt g (i * 6) (rcs1 (1 + i) r) := by
  have hi : i < l.length := (List.getElem?_eq_some_iff.1 hr).1
  obtain ⟨g, cap, rfl, hb, hlt⟩ := h.own.form (by omega)
  refine ⟨g, cap, rfl, fun j u hu => ?_⟩
  have hj : j < 6 := by
    have := (List.getElem?_eq_some_iff.1 hu).1
    rw [rcs1_len _ _ (h.four i r hr)] at this
    exact this
  have hlen := rcsF_len l 1 h.four
  have := rcsF_at l 1 i r h.four hr j hj
  rw [hu] at this
  exact (h.own.cellAt (i * 6 + j) (by omega)).trans this
theorem New_any (w : World) : Calls Try.prog 14 #[] w fun e W' => e = .returned (.pointer (some ⟨w.heap.size, 0, none⟩)) ∧ ChAt w.heap.size W' w.heap.size (.slice none 0 0) [] ∧ Below w.heap.size w W' := by
  have hb0 : Below w.heap.size w (w.alloc (.cells #[.slice none 0 0] 62)) := (Below.refl _ w).alloc (Nat.le_refl _) _
  have hC : ChAt w.heap.size (w.alloc (.cells #[.slice none 0 0] 62)) w.heap.size (.slice none 0 0) [] := ⟨heap_alloc_new _ _, World.ownsRow_nil _ _ _ _, (by intro h; cases h), Nat.le_refl _, (fun i r h => by cases h)⟩
  have HC : Hid (ChAt w.heap.size (w.alloc (.cells #[.slice none 0 0] 62)) w.heap.size (.slice none 0 0) []) := hC
  clear hC
  go_enter Try.func14, Try.ntmps14
  go_wp2
  go_ret
  exact ⟨rfl, HC.out, hb0⟩
/-- The n'th configuration. -/
def cfgAt (l : List Rc) (n : Nat) : List Nat × List Nat := match n with
  | 0 => ([], [0, 0, 0, 0])
  | n + 1 => ((l[n]?).map (·.2)).getD ([], [])
def GtPost (l : List Rc) (n : Nat) (w : World) (x : Value) (W' : World) : Prop := ∃ (v : Value) (a b c d : Nat), (cfgAt l n).2 = [a, b, c, d] ∧ x = .agg (cf n v a b c d) ∧ Il W' v (zi (cfgAt l n).1) ∧ Fr w.heap.size v ∧ Below w.heap.size w W'
set_option maxRecDepth 20000 in
set_option maxHeartbeats 4000000 in
theorem Get_no (num : Int) (B : Nat) (base : Nat) (v : Value) (l : List Rc) (w : World) (h : ChAt base w B v l) (hn : wi num 0 l.length = false) :
    Calls Try.prog 34 #[.pointer (some ⟨B, 0, none⟩), .int .i64 num] w fun e W' => e = .returned (.tuple #[.agg (cf 0 (.slice none 0 0) 0 0 0 0), .int .i64 6]) ∧ Below w.heap.size w W' := by
  have hb0 : Below w.heap.size w (w.alloc (.cells (cf 0 (.slice none 0 0) 0 0 0 0) 50)) := (Below.refl _ w).alloc (Nat.le_refl _) _
  have r0 := heap_alloc_new w (.cells (cf 0 (.slice none 0 0) 0 0 0 0) 50)
  have x0 := cellB (h.next hb0).blk 0 _ rfl
  obtain ⟨va, vc, rfl⟩ := owns_slice h.own
  obtain ⟨W0, hW0⟩ : ∃ W, w.alloc (.cells (cf 0 (.slice none 0 0) 0 0 0 0) 50) = W := ⟨_, rfl⟩
  rw [hW0] at hb0 r0 x0
  have HV : Hid (w.alloc (.cells (cf 0 (.slice none 0 0) 0 0 0 0) 50) = W0) := hW0
  have R0 : Hid (W0.heap[w.heap.size]? = some (.cells (cf 0 (.slice none 0 0) 0 0 0 0) 50)) := r0
  clear hW0 r0 h
  go_enter Try.func34, Try.ntmps34
  go_upto_region 1 with fail
  rw [HV.out]
  clear HV
  go_wp2_with (first
    | (go_at_call 36; refine (within_any _ _ _ _).mono ?_; rintro e w1 ⟨rfl, h9⟩; subst w1)
    | (refine wpList_store_mid rfl 50 _ _ rfl w.heap.size 0 (cf 0 (.slice none 0 0) 0 0 0 0) rfl rfl (blk_there R0.out 0 6 (Nat.le_refl _)) Try.size50 (cf_ones _ _ _ _ _ _ _ _) ?_))
  have k4 := blk_range (blk_set R0.out (L := cfL 0 (.slice none 0 0) 0 0 0 0) rfl)
  exact bodyPost_ret (v := .tuple #[.agg (cf 0 (.slice none 0 0) 0 0 0 0), .int .i64 6]) (results_two rfl rfl rfl (res25 k4 rfl)) rfl ⟨rfl, blk_below (Nat.le_refl _) _ _ _ hb0⟩
set_option maxRecDepth 20000 in
set_option maxHeartbeats 4000000 in
theorem Get_ok (n : Nat) (B : Nat) (base : Nat) (v : Value) (l : List Rc) (w : World) (h : ChAt base w B v l) (hl : l.length ≤ 1000) (hn : n ≤ l.length) :
    Calls Try.prog 34 #[.pointer (some ⟨B, 0, none⟩), .int .i64 n] w fun e W' => ∃ x, e = .returned (.tuple #[x, .int .i64 0]) ∧ GtPost l n w x W' := by
  have hb0 : Below w.heap.size w (w.alloc (.cells (cf 0 (.slice none 0 0) 0 0 0 0) 50)) := (Below.refl _ w).alloc (Nat.le_refl _) _
  have r0 := heap_alloc_new w (.cells (cf 0 (.slice none 0 0) 0 0 0 0) 50)
  have h0 := h.next hb0
  have hsz : (w.alloc (.cells (cf 0 (.slice none 0 0) 0 0 0 0) 50)).heap.size = w.heap.size + 1 := by simp
  have x0 := cellB h0.blk 0 _ rfl
  have hw : wi n 0 l.length = true := by simp [wi]; omega
  obtain ⟨va, vc, rfl⟩ := owns_slice h.own
  obtain ⟨W0, hW0⟩ : ∃ W, w.alloc (.cells (cf 0 (.slice none 0 0) 0 0 0 0) 50) = W := ⟨_, rfl⟩
  rw [hW0] at hb0 r0 x0 h0 hsz
  have HV : Hid (w.alloc (.cells (cf 0 (.slice none 0 0) 0 0 0 0) 50) = W0) := hW0
  have R0 : Hid (W0.heap[w.heap.size]? = some (.cells (cf 0 (.slice none 0 0) 0 0 0 0) 50)) := r0
  have hW := within_any n 0 l.length W0
  rw [hw] at hW
  cases n with
  | zero =>
    clear hW0 r0 h h0 hw hsz
    go_enter Try.func34, Try.ntmps34
    go_upto_region 1 with fail
    rw [HV.out]
    clear HV
    go_wp2_with (first
      | (go_at_call 36; refine hW.mono ?_; rintro e w1 ⟨rfl, h9⟩; subst w1)
      | (refine wpList_store_mid rfl 50 _ _ rfl w.heap.size 0 (cf 0 (.slice none 0 0) 0 0 0 0) rfl rfl (blk_there R0.out 0 6 (Nat.le_refl _)) Try.size50 (cf_ones _ _ _ _ _ _ _ _) ?_))
    have k4 := blk_range (blk_set R0.out (L := cfL 0 (.slice none 0 0) 0 0 0 0) rfl)
    exact bodyPost_ret (v := .tuple #[.agg (cf 0 (.slice none 0 0) 0 0 0 0), .int .i64 0]) (results_two rfl rfl rfl (res25 k4 rfl)) rfl ⟨_, rfl, .slice none 0 0, 0, 0, 0, 0, rfl, rfl, .inl ⟨rfl, none, 0, rfl⟩, (by intro k hk; cases hk), blk_below (Nat.le_refl _) _ _ _ hb0⟩
  | succ m =>
    obtain ⟨r, hr⟩ : ∃ r, l[m]? = some r := ⟨_, List.getElem?_eq_getElem (by omega)⟩
    obtain ⟨g, cap, hv, hrow⟩ := h0.row hr
    injection hv with hv _ hvc
    subst hv hvc
    obtain ⟨o1, o2, o3, o4⟩ := h0.ok m r hr
    obtain ⟨gv, gs, o⟩ := r
    obtain ⟨a, b, c, d, rfl⟩ := four_of ((conf_of o1).2.2 _ o2).1
    have hgl := (conf_of o1).1
    simp only at o1 o2 o3 o4 hgl
    have hC := clone_any ((1 + m : Nat) : Int) gv (zi gs) a b c d W0 o3 (by rw [zi_len]; omega)
    have hrow2 : W0.rangeAt g (m * 6) (cfL ((1 + m : Nat) : Int) gv a b c d) := hrow
    have hcf : Hid (cfgAt l (m + 1) = (gs, [a, b, c, d])) := by show _ = _; simp [cfgAt, hr]
    obtain ⟨N, hN⟩ : ∃ N : Nat, m + 1 = N := ⟨_, rfl⟩
    rw [show (1 + m : Nat) = N by omega] at hC hrow2
    have HROW : Hid (W0.rangeAt g (m * 6) (cfL (N : Int) gv a b c d)) := hrow2
    have HN : Hid (m + 1 = N) := hN
    have HSZ : Hid (W0.heap.size = w.heap.size + 1) := hsz
    obtain ⟨pa, pc, hpg⟩ := o3.slice
    subst hpg
    have e1 : IntKind.i64.wrap ((N : Int) - 1) = (m : Int) := by rw [← hN]; simp [IntKind.wrap, IntKind.bits, IntKind.signed]; omega
    have m0 : (0 : Int) ≤ (m : Int) := by omega
    have m1 : (m : Int) < (l.length : Int) := by omega
    have q0 : ((N : Int) == 0) = false := by rw [beq_eq_false_iff_ne]; omega
    rw [hN] at hcf hW
    rw [hN]
    have e2 : (N : Int) - 1 = (m : Int) := by omega
    clear hW0 r0 h h0 hw hr hrow hrow2 o1 o2 o3 o4 hN hsz hn
    go_enter Try.func34, Try.ntmps34
    go_upto_region 1 with fail
    rw [HV.out]
    clear HV
    go_wp2_with (first
      | (go_at_call 36; refine hW.mono ?_; rintro e w1 ⟨rfl, h9⟩; subst w1)
      | (refine wpList_load_mid rfl 50 _ rfl g (m * 6) rfl (cfL (N : Int) (.slice pa (zi gs).length pc) a b c d) _ HROW.out Try.underlying50 rfl Try.size50 ?_)
      | (go_at_call 41; refine hC.mono ?_; rintro e w2 ⟨v, rfl, ho, hb2⟩; have hso := ho; obtain ⟨ua, uc, rfl⟩ := owns_slice ho; have R2 : Hid (w2.heap[w.heap.size]? = some (.cells (cf 0 (.slice none 0 0) 0 0 0 0) 50)) := (hb2.block _ (by have := HSZ.out; omega)).trans R0.out; have HSO : Hid (_ ∧ _) := ⟨hso, hb2⟩; clear hso ho hb2)
      | (refine wpList_store_mid rfl 50 _ _ rfl w.heap.size 0 (cf N (.slice ua (zi gs).length uc) a b c d) rfl rfl (blk_there R2.out 0 6 (Nat.le_refl _)) Try.size50 (cf_ones _ _ _ _ _ _ _ _) ?_))
    obtain ⟨hso, hb2⟩ := HSO.out
    have hsz := HSZ.out
    have k4 := blk_range (blk_set R2.out (L := cfL (N : Int) (.slice ua (zi gs).length uc) a b c d) rfl)
    refine bodyPost_ret (v := .tuple #[.agg (cf N (.slice ua (zi gs).length uc) a b c d), .int .i64 0]) (results_two rfl rfl rfl (res25 k4 rfl)) rfl ⟨_, rfl, .slice ua (zi gs).length uc, a, b, c, d, by rw [hcf.out], rfl, ?_, fun k hk => by have := (hso.lt k hk).1; omega, blk_below (Nat.le_refl _) _ _ _ (hb0.trans (hb2.mono hb0.size))⟩
    rw [hcf.out]
    exact Il_keep (Il_owns hso) (fun k hk => by have := (hso.lt k hk).1; omega)
end Go.Proofs.Ytcehmaegnfelhaa
