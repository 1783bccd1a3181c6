/- The law SlotFirst, walked. -/
import Derived.Test.YtoehmpcfmpkbnaaSoL
import Derived.Test.YtoehmpcfmpkbnaaSoU
namespace Go.Proofs.Ytoehmpcfmpkbnaa
open Go.RowKit
attribute [local go_sem ↓] Go.wp_at_zero Go.wp_at_succ

/-- A slot above all that was there. -/
structure Kp (W0 : World) (B : Nat) (gr : Int) (f p : Nat) (V : Vs) (wr : World) : Prop where
  slot : SlotAt wr B gr f p V
  bel : Below W0.heap.size W0 wr
  base : W0.heap.size ≤ B
theorem Kp.next {W0 wr wr' : World} {B : Nat} {gr : Int} {f p : Nat} {V : Vs} (h : Kp W0 B gr f p V wr) (hb : Below wr.heap.size wr wr') : Kp W0 B gr f p V wr' := ⟨h.slot.on hb, h.bel.trans (hb.mono h.bel.size), h.base⟩
theorem Kp.moved {W0 wr wr' : World} {B : Nat} {gr : Int} {f p : Nat} {V V' : Vs} (h : Kp W0 B gr f p V wr) (hs : SlotAt wr' B gr f p V') (hm : Mv B wr wr') : Kp W0 B gr f p V' wr' := ⟨hs, h.bel.trans (hm.below h.base h.bel.size), h.base⟩
theorem cntTo_upd {V : Vs} {k i : Nat} {t : Vt} (h0 : isV (V k i).2 = false) (h1 : isV t.2 = true) : ∀ j, cntTo (updV V k i t) k j = cntTo V k j + if i < j then 1 else 0 := by
  intro j
  induction j with
  | zero => simp [cntTo]
  | succ j ih =>
    simp only [cntTo, ih]
    by_cases e : j = i
    · subst e
      rw [show updV V k j t k j = t by simp [updV], h0, h1]
      simp
    · rw [show updV V k i t k j = V k j by simp [updV, e]]
      have : (i < j + 1) ↔ (i < j) := by omega
      simp only [this]
      omega
theorem votesN_upd {V : Vs} {f k i : Nat} {t : Vt} (hk : k < 2) (hi : i ≤ 3 * f) (h0 : isV (V k i).2 = false) (h1 : isV t.2 = true) : votesN (updV V k i t) f ((k : Int) + 1) = votesN V f ((k : Int) + 1) + 1 := by
  rw [votesN_at hk, votesN_at hk, cntTo_upd h0 h1, if_pos (by omega)]
theorem votesN_le (V : Vs) (f : Nat) (kind : Int) : votesN V f kind ≤ 3 * f + 1 := by
  unfold votesN
  split
  · exact cntTo_le _ _ _
  · omega
theorem voteR_cases {V V' : Vs} {f : Nat} {kind no : Int} {t g : List UInt8} {b : Bool} {E : Int} (h : voteR V f kind no t g = (b, E, V')) :
    (b = false ∧ V' = V ∧ ((E == 0) = false ∨ (E = 0 ∧ isV (ownV V f kind no).2 = true))) ∨ (b = true ∧ E = 0 ∧ isV (ownV V f kind no).2 = false ∧ ownV V' f kind no = (t, g) ∧ isV g = true ∧ votesN V' f kind = votesN V f kind + 1) := by
  unfold voteR at h
  split at h
  · rename_i hE
    simp only [Prod.mk.injEq] at h
    obtain ⟨rfl, rfl, rfl⟩ := h
    exact .inl ⟨rfl, rfl, .inl (by simpa using hE)⟩
  · rename_i hE
    obtain ⟨hok, _, hg, _⟩ := faultE_0 (by simpa using hE : faultE (okV f kind no) false t g = 0)
    split at h
    · rename_i hv
      simp only [Prod.mk.injEq] at h
      obtain ⟨rfl, rfl, rfl⟩ := h
      exact .inl ⟨rfl, rfl, .inr ⟨rfl, hv⟩⟩
    · rename_i hv
      simp only [Prod.mk.injEq] at h
      obtain ⟨rfl, rfl, rfl⟩ := h
      obtain ⟨k, i, hk, rfl, rfl, hi⟩ := okV_t hok
      have hgv : isV g = true := by
        have : g ≠ [] := fun e => by rw [e] at hg; cases hg
        simp [isV, this]
      rw [ownV_at hk hi] at hv ⊢
      rw [show ((k : Int) + 1 - 1).toNat = k by omega, Int.toNat_natCast, ownV_at hk hi]
      exact .inr ⟨rfl, rfl, by simpa using hv, by simp [updV], hgv, votesN_upd hk hi (by simpa using hv) hgv⟩
set_option maxRecDepth 20000 in
set_option maxHeartbeats 8000000 in
theorem first_any (gr f0 p0 : Int) (l0 : List Vo) (v0 : Value) (kind no : Int) (t g : List UInt8) (w : World) (hl0 : Vl w v0 l0) : Calls Try.prog 5 #[.agg #[.int .i64 gr, .int .i64 f0, .int .i64 p0], v0, .agg #[.int .i64 kind, .int .i64 no, .string (bs t), .string (bs g)]] w fun e W' => e = .returned (.bool true) ∧ Below w.heap.size w W' := by
  obtain ⟨a0, c0, rfl⟩ := hl0.slice
  obtain ⟨W0, hW0⟩ : ∃ W, (w.alloc (.cells #[.int .i64 gr, .int .i64 f0, .int .i64 p0] 23)).alloc (.cells #[.int .i64 kind, .int .i64 no, .string (bs t), .string (bs g)] 34) = W := ⟨_, rfl⟩
  have hb1 : Below w.heap.size w (w.alloc (.cells #[.int .i64 gr, .int .i64 f0, .int .i64 p0] 23)) := (Below.refl _ w).alloc (Nat.le_refl _) _
  have hb0 : Below w.heap.size w W0 := by rw [← hW0]; exact hb1.alloc hb1.size _
  have rX : W0.heap[w.heap.size]? = some (.cells #[.int .i64 gr, .int .i64 f0, .int .i64 p0] 23) := by
    rw [← hW0]; exact (Below.heap_alloc _ _ _ (by simp)).trans (heap_alloc_new w _)
  have rY : W0.heap[w.heap.size + 1]? = some (.cells #[.int .i64 kind, .int .i64 no, .string (bs t), .string (bs g)] 34) := by
    have := heap_alloc_new (w.alloc (.cells #[.int .i64 gr, .int .i64 f0, .int .i64 p0] 23)) (.cells #[.int .i64 kind, .int .i64 no, .string (bs t), .string (bs g)] 34)
    rw [hW0] at this
    simpa using this
  have HX : Hid (_ ∧ _) := ⟨hold3 rX, hold4 rY⟩
  have x0 := cellB rX 0 _ rfl
  have x1 := cellB rX 1 _ rfl
  have x2 := cellB rX 2 _ rfl
  have hT := three_any
  clear rX rY hb1
  rcases new_cases gr f0 p0 with hno | ⟨hgr, f, p, rfl, rfl, hf, hp⟩
  · have hN := New_no hno W0
    clear hno
    go_enter Try.func5, Try.ntmps5
    go_upto_region 1 with fail
    clear hW0
    go_wp2_with (first
      | (go_at_call 8; refine hN.mono ?_; rintro e w1 ⟨rfl, h9⟩; replace h9 := h9.symm; subst h9)
      | (go_at_call 10; refine (hT _).mono ?_; rintro e w2 ⟨rfl, hb2⟩))
    go_ret
    exact ⟨rfl, hb0.trans (hb2.mono hb0.size)⟩
  · have hN := New_ok hgr hf hp W0
    by_cases hbig : 100 < l0.length
    · have hb2 : (100 : Int) < (l0.length : Int) := by omega
      clear hbig
      go_enter Try.func5, Try.ntmps5
      go_upto_region 1 with fail
      clear hW0
      go_wp2_with (first
        | (go_at_call 8; refine hN.mono ?_; rintro e w1 ⟨rfl, h1, hb1⟩)
        | (go_at_call 10; refine (hT _).mono ?_; rintro e w2 ⟨rfl, hb2⟩))
      go_ret
      exact ⟨rfl, hb0.trans ((hb1.trans (hb2.mono hb1.size)).mono hb0.size)⟩
    · have hb2 : (l0.length : Int) ≤ 100 := by omega
      clear hbig
      go_enter Try.func5, Try.ntmps5
      go_upto_region 1 with fail
      clear hW0
      go_upto_region 4 with (first
        | (go_at_call 8; refine hN.mono ?_; rintro e w1 ⟨rfl, h1, hb1⟩))
      have hK0 : Kp W0 W0.heap.size gr f p (fun _ _ => ([], [])) w1 := ⟨h1, hb1, Nat.le_refl _⟩
      obtain ⟨B, hB⟩ : ∃ B, W0.heap.size = B := ⟨_, rfl⟩
      rw [hB] at hK0
      rw [show (⟨W0.heap.size, 0, none⟩ : Addr) = ⟨B, 0, none⟩ by rw [hB]]
      clear hN h1 hb1 hB x0 x1 x2
      go_wp2_with fail
      go_loopg [59] l0.length (fun gk i wr => ∃ (j : Nat) (V : Vs), j + gk = l0.length ∧ i = .int .i64 j ∧ Kp W0 B gr f p V wr)
      case atStart => exact ⟨0, _, by omega, rfl, hK0⟩
      case round =>
        clear hK0
        obtain ⟨j, V, hj, rfl, hK⟩ := hrel
        by_cases hlt : j < l0.length
        · obtain ⟨⟨k5, n5, t5, g5⟩, ha⟩ : ∃ a, l0[j]? = some a := ⟨_, List.getElem?_eq_getElem hlt⟩
          obtain ⟨ab, ao, rfl, hab, y0, y1, y2, y3⟩ := (hl0.below (hb0.trans (hK.bel.mono hb0.size)) (Nat.le_refl _)).at ha
          simp only at y0 y1 y2 y3
          have m0 : (0 : Int) ≤ (j : Int) := by omega
          have m1 : (j : Int) < (l0.length : Int) := by omega
          have hba : Below wr.heap.size wr (wr.alloc (.cells #[.int .i64 k5, .int .i64 n5, .string (bs t5), .string (bs g5)] 34)) := (Below.refl _ _).alloc (Nat.le_refl _) _
          have hK1 := hK.next hba
          obtain ⟨⟨b5, e5, V5⟩, hR⟩ : ∃ r, voteR V f k5 n5 t5 g5 = r := ⟨_, rfl⟩
          have hA := Vote_any hK1.slot k5 n5 t5 g5 b5 e5 V5 hR
          have HK : Hid (_) := hK1
          clear ha hR hba hK1 hK
          go_wp2_with (first
            | (go_at_call 11; refine hA.mono ?_; rintro e w2 ⟨rfl, h2, hm2⟩))
          go_roundg (l0.length - (j + 1))
          case measure => omega
          case rel => exact ⟨j + 1, V5, by omega, by go_num, HK.out.moved h2 hm2⟩
        · have hjl : j = l0.length := by omega
          subst hjl
          have hx := (HX.out.2 _ hK.bel)
          obtain ⟨y0, y1, y2, y3⟩ := hx
          have hO := Own_any hK.slot kind no
          obtain ⟨⟨ot, og⟩, hov⟩ : ∃ v, ownV V f kind no = v := ⟨_, rfl⟩
          rw [hov] at hO
          simp only at hO
          obtain ⟨ob, hob⟩ : ∃ b, isV og = b := ⟨_, rfl⟩
          rw [hob] at hO
          go_upto_region 10 with (first
            | (go_at_call 17; refine hO.mono ?_; rintro e w2 ⟨rfl, hb2⟩))
          have hK2 := hK.next hb2
          clear hO hK hb2 y0 y1 y2 y3
          obtain ⟨y0, y1, y2, y3⟩ := HX.out.2 _ hK2.bel
          have hC := Cert_any hK2.slot kind
          obtain ⟨R, hRr⟩ : ∃ r, certR V f p kind = r := ⟨_, rfl⟩
          rw [hRr] at hC
          have hC' : Calls Try.prog 15 #[.pointer (some ⟨B, 0, none⟩), .int .i64 kind] w2 fun e W' => (∃ v, e = .returned (.tuple #[.agg #[.string (bs (cT R)), .int .i64 (cG R gr), v], .bool R.isSome]) ∧ W'.ownsRow w2.heap.size 70 2 v (cL R).length (tcs (cL R))) ∧ Below w2.heap.size w2 W' := hC
          have HRr : Hid (certR V f p kind = R) := hRr
          obtain ⟨CT, hCT⟩ : ∃ x, cT R = x := ⟨_, rfl⟩
          obtain ⟨CG, hCG⟩ : ∃ x, cG R gr = x := ⟨_, rfl⟩
          obtain ⟨CL, hCL⟩ : ∃ x, cL R = x := ⟨_, rfl⟩
          obtain ⟨CB, hCB⟩ : ∃ x, R.isSome = x := ⟨_, rfl⟩
          rw [hCT, hCG, hCL, hCB] at hC'
          have HCC : Hid (cT R = CT ∧ cG R gr = CG ∧ cL R = CL ∧ R.isSome = CB) := ⟨hCT, hCG, hCL, hCB⟩
          clear hC hRr hCT hCG hCL hCB
          go_upto_region 11 with (first
            | (go_at_call 15; refine hC'.mono ?_; rintro e w3 ⟨⟨v3, rfl, ho3⟩, hb3⟩; obtain ⟨ua, uc, hu⟩ := owns_slice ho3; subst hu))
          have hba3 : Below w3.heap.size w3 (w3.alloc (.cells #[.string (bs CT), .int .i64 CG, .slice ua CL.length uc] 49)) := (Below.refl _ _).alloc (Nat.le_refl _) _
          have hK3 := (hK2.next hb3).next hba3
          have rC := heap_alloc_new w3 (.cells #[.string (bs CT), .int .i64 CG, .slice ua CL.length uc] 49)
          have hCB3 : w3.heap.size ≠ B := fun e => by have := (hK2.next hb3).slot.lt; omega
          obtain ⟨W3, hW3⟩ : ∃ W, w3.alloc (.cells #[.string (bs CT), .int .i64 CG, .slice ua CL.length uc] 49) = W := ⟨_, rfl⟩
          obtain ⟨X3, hX3⟩ : ∃ X, w3.heap.size = X := ⟨_, rfl⟩
          rw [hW3] at hK3 rC ⊢
          rw [hX3] at rC hCB3 ⊢
          clear hC' hW3 hX3 hba3 hb3 hK2 y0 y1 y2 y3 ho3
          obtain ⟨y0, y1, y2, y3⟩ := HX.out.2 _ hK3.bel
          have hVn := Votes_any hK3.slot kind
          have hnl := votesN_le V f kind
          obtain ⟨n, hn⟩ : ∃ n, votesN V f kind = n := ⟨_, rfl⟩
          have HN : Hid (votesN V f kind = n) := hn
          rw [hn] at hVn hnl
          have hn10 : (n : Int) ≤ 10 := by omega
          clear hn
          go_upto_region 12 with (first
            | (go_at_call 19; refine hVn.mono ?_; rintro e w4 ⟨rfl, hb4⟩))
          have hK4 := hK3.next hb4
          have rC4 := (hb4.block _ (Array.getElem?_eq_some_iff.1 rC).1).trans rC
          clear hVn hK3 rC hb4 y0 y1 y2 y3
          obtain ⟨y0, y1, y2, y3⟩ := HX.out.2 _ hK4.bel
          obtain ⟨⟨b5, e5, V5⟩, hR⟩ : ∃ r, voteR V f kind no t g = r := ⟨_, rfl⟩
          have hA := Vote_any hK4.slot kind no t g b5 e5 V5 hR
          have hcs := voteR_cases hR
          rw [hov] at hcs
          simp only at hcs
          rw [hob] at hcs
          have HA : Hid (ownV V f kind no = (ot, og) ∧ isV og = ob) := ⟨hov, hob⟩
          clear hR hov hob
          go_upto_region 13 with (first
            | (go_at_call 11; refine hA.mono ?_; rintro e w5 ⟨rfl, h5, hm5⟩))
          have hK5 := hK4.moved h5 hm5
          have rC5 := hm5.far (Array.getElem?_eq_some_iff.1 rC4).1 hCB3 rC4
          clear hA hK4 rC4 h5 hm5 y0 y1 y2 y3 hCB3
          rcases hcs with ⟨rfl, rfl, hwhy⟩ | ⟨rfl, rfl, hob2, hov5, hgv, hvn⟩
          · have hC : Calls Try.prog 15 #[.pointer (some ⟨B, 0, none⟩), .int .i64 kind] w5 fun e W' => (∃ v, e = .returned (.tuple #[.agg #[.string (bs CT), .int .i64 CG, v], .bool CB]) ∧ W'.ownsRow w5.heap.size 70 2 v CL.length (tcs CL)) ∧ Below w5.heap.size w5 W' := by
              have := Cert_any hK5.slot kind
              rw [HRr.out] at this
              obtain ⟨e1, e2, e3, e4⟩ := HCC.out
              rw [← e1, ← e2, ← e3, ← e4]
              exact this
            have hst := str_same CT
            have hso := str_same ot
            have hsg := str_same og
            obtain ⟨y0, y1, y2, y3⟩ := HX.out.2 _ hK5.bel
            have HO : Hid (∀ W, Below w5.heap.size w5 W → Calls Try.prog 17 #[.pointer (some ⟨B, 0, none⟩), .int .i64 kind, .int .i64 no] W fun e W' => e = .returned (.tuple #[.string (bs ot), .string (bs og), .bool ob]) ∧ Below W.heap.size W W') := fun W hW => by
              have := Own_any (hK5.slot.on hW) kind no
              rw [HA.out.1] at this
              simp only at this
              rw [HA.out.2] at this
              exact this
            have HVn : Hid (∀ W, Below w5.heap.size w5 W → Calls Try.prog 19 #[.pointer (some ⟨B, 0, none⟩), .int .i64 kind] W fun e W' => e = .returned (.int .i64 n) ∧ Below W.heap.size W W') := fun W hW => by
              have := Votes_any (hK5.slot.on hW) kind
              rw [HN.out] at this
              exact this
            have HKe : Hid (∀ W, Below w5.heap.size w5 W → _) := fun W hW => HX.out.2 _ (hK5.bel.trans (hW.mono hK5.bel.size))
            have HB5 : Hid (_) := hb0.trans (hK5.bel.mono hb0.size)
            clear hK5 HRr HCC HA HN
            rcases hwhy with he5 | ⟨rfl, rfl⟩
            all_goals
              try have he6 : ¬ e5 = 0 := by simpa using he5
              go_upto_region 15 with (first
                | (go_at_call 15; refine hC.mono ?_; rintro e w6 ⟨⟨v6, rfl, ho6⟩, hb6⟩; obtain ⟨ub, ud, hu⟩ := owns_slice ho6; subst hu))
              have hb7 := hb6.alloc hb6.size (.cells #[.string (bs CT), .int .i64 CG, .slice ub CL.length ud] 49)
              have rC7 := (hb7.block _ (Array.getElem?_eq_some_iff.1 rC5).1).trans rC5
              have rD7 := heap_alloc_new w6 (.cells #[.string (bs CT), .int .i64 CG, .slice ub CL.length ud] 49)
              obtain ⟨W7, hW7⟩ : ∃ W, w6.alloc (.cells #[.string (bs CT), .int .i64 CG, .slice ub CL.length ud] 49) = W := ⟨_, rfl⟩
              obtain ⟨X7, hX7⟩ : ∃ X, w6.heap.size = X := ⟨_, rfl⟩
              rw [hW7] at hb7 rC7 rD7 ⊢
              rw [hX7] at rD7 ⊢
              clear hC hW7 hX7 ho6 y0 y1 y2 y3 hb6 rC5
              obtain ⟨y0, y1, y2, y3⟩ := HKe.out _ hb7
              have hO7 := HO.out _ hb7
              go_upto_region 16 with (first
                | (go_at_call 17; refine hO7.mono ?_; rintro e w8 ⟨rfl, hb8⟩))
              have rC8 := (hb8.block _ (Array.getElem?_eq_some_iff.1 rC7).1).trans rC7
              have rD8 := (hb8.block _ (Array.getElem?_eq_some_iff.1 rD7).1).trans rD7
              have hB8 := hb7.trans (hb8.mono hb7.size)
              clear y0 y1 y2 y3 rC7 rD7 hO7 hb7 hb8
              obtain ⟨y0, y1, y2, y3⟩ := HKe.out _ hB8
              have hV8 := HVn.out _ hB8
              have HR8 : Hid (_ ∧ _) := ⟨rC8, rD8⟩
              clear rC8 rD8
              go_wp2_with (first
                | (go_at_call 19; refine hV8.mono ?_; rintro e w9 ⟨rfl, hb9⟩; have rC9 := (hb9.block _ (Array.getElem?_eq_some_iff.1 HR8.out.1).1).trans HR8.out.1; have rD9 := (hb9.block _ (Array.getElem?_eq_some_iff.1 HR8.out.2).1).trans HR8.out.2; have q0 := cellB rC9 0 _ rfl; have q2 := cellB rC9 2 _ rfl; have s0 := cellB rD9 0 _ rfl; have s2 := cellB rD9 2 _ rfl; have hB9 := hB8.trans (hb9.mono hB8.size))
                | (go_at_call 10; refine (hT _).mono ?_; rintro e w10 ⟨rfl, hb10⟩))
              go_ret
              exact ⟨by first | rfl | simp, HB5.out.trans ((hB9.trans (hb10.mono hB9.size)).mono HB5.out.size)⟩
          · have hst := str_same t
            have hsg := str_same g
            obtain ⟨y0, y1, y2, y3⟩ := HX.out.2 _ hK5.bel
            have hO : Calls Try.prog 17 #[.pointer (some ⟨B, 0, none⟩), .int .i64 kind, .int .i64 no] w5 fun e W' => e = .returned (.tuple #[.string (bs t), .string (bs g), .bool true]) ∧ Below w5.heap.size w5 W' := by
              have := Own_any hK5.slot kind no
              rw [hov5] at this
              simp only at this
              rw [hgv] at this
              exact this
            have HVn : Hid (∀ W, Below w5.heap.size w5 W → Calls Try.prog 19 #[.pointer (some ⟨B, 0, none⟩), .int .i64 kind] W fun e W' => e = .returned (.int .i64 ((n : Int) + 1)) ∧ Below W.heap.size W W') := fun W hW => by
              have := Votes_any (hK5.slot.on hW) kind
              rw [hvn, HN.out] at this
              exact this
            have HKe : Hid (∀ W, Below w5.heap.size w5 W → _) := fun W hW => HX.out.2 _ (hK5.bel.trans (hW.mono hK5.bel.size))
            have HB5 : Hid (_) := hb0.trans (hK5.bel.mono hb0.size)
            clear hK5 HRr HCC HA HN hov5 hgv hvn rC5
            subst hob2
            go_upto_region 18 with (first
              | (go_at_call 17; refine hO.mono ?_; rintro e w8 ⟨rfl, hb8⟩))
            clear y0 y1 y2 y3 hO
            obtain ⟨y0, y1, y2, y3⟩ := HKe.out _ hb8
            have hV8 := HVn.out _ hb8
            go_wp2_with (first
              | (go_at_call 19; refine hV8.mono ?_; rintro e w9 ⟨rfl, hb9⟩; have hB9 := hb8.trans (hb9.mono hb8.size); obtain ⟨z0, z1, z2, z3⟩ := HKe.out _ hB9)
              | (go_at_call 10; refine (hT _).mono ?_; rintro e w10 ⟨rfl, hb10⟩))
            go_ret
            exact ⟨by first | rfl | simp, HB5.out.trans ((hB9.trans (hb10.mono hB9.size)).mono HB5.out.size)⟩
end Go.Proofs.Ytoehmpcfmpkbnaa
