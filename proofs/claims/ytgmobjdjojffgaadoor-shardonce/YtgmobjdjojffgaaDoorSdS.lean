/- Contents: load of one, walked. -/
import Derived.Test.YtgmobjdjojffgaaDoorSdQ
namespace Go.Proofs.YtgmobjdjojffgaaDoor
open Go.RowKit
attribute [local go_sem ↓] Go.wp_at_zero Go.wp_at_succ

theorem lc_none {w W' : World} {Y : Option (Nat → La)} {l : List Rw} {C : List Value} (h : Y = none) (hC : C24 = C) (hb : Below w.heap.size w W') : LcPost w (Y.map fun c => (l, c)) (.returned (.tuple #[.agg (.pointer none :: C).toArray, .int .i64 4])) W' := by
  subst h hC
  exact ⟨rfl, hb⟩
theorem owns_cap {w : World} {base n c : Nat} {e : TypeId} {s : Nat} {a : Option Addr} {xs : List Value} (h : w.ownsRow base e s (.slice a n c) n xs) : n ≤ c := by
  obtain ⟨_, h⟩ := h
  rcases h with ⟨e, h0⟩ | ⟨g, cap, cur, e, _, _, h1, _⟩
  · cases e
    exact Nat.le_refl _
  · cases e
    exact h1
set_option maxRecDepth 20000 in
set_option maxHeartbeats 2000000 in
theorem loadC_main (s : List UInt8) (w : World) (hs : s.length ≤ 1000000) (he : Env w) (hg : good s) (hm4 : (texts s).length % 4 = 1) (l : List Rw) (hn : loadR ((texts s).headD []) = some l) :
    Calls Tryd.prog 28 #[.string (bs s)] w fun e W' => LcPost w ((loadL ((texts s).drop 1) 0 fun _ => la0).map fun c => (l, c)) e W' := by
  have hz := Tryd.zero69
  have hZ : (Value.pointer none :: C24).length = 25 := by rw [List.length_cons, C24_len]
  have HA : Hid ((Value.pointer none :: C24).toArray.all (·.oneCell') = true) := all_oneCell_toArray (hcs_one sh0 0)
  have HA2 : Hid (∀ T c, (Value.pointer (some ⟨T, 0, none⟩) :: ccs c).toArray.all (·.oneCell') = true) := fun T c => all_oneCell_toArray (hcs_one ⟨1, [], c⟩ T)
  have he1 := he.next ((Below.refl w.heap.size w).alloc (Nat.le_refl _) (.cells (Value.pointer none :: C24).toArray 69))
  have hU := Unpack_any s (WR w (.pointer none :: C24)) hs he1
  rw [show errOf s = 0 from if_pos hg] at hU
  have HL : Hid (∀ W, Below (WR w (.pointer none :: C24)).heap.size (WR w (.pointer none :: C24)) W → ∀ L : List Value, L.length = 25 → W.there w.heap.size 0 L.toArray.size ∧ (W.setCells w.heap.size 0 L).rangeAt w.heap.size 0 L ∧ Below w.heap.size w (W.setCells w.heap.size 0 L)) := fun W hb => res_lay hZ hb
  have HE : Hid (∀ W, Below (WR w (.pointer none :: C24)).heap.size (WR w (.pointer none :: C24)) W → Env W) := fun W hb => he1.next hb
  obtain ⟨a, r, hL⟩ : ∃ a r, texts s = a :: r := by
    cases e : texts s with
    | nil => rw [e] at hm4; simp at hm4
    | cons a r => exact ⟨a, r, rfl⟩
  have HSM : Hid (∀ t ∈ texts s, t.length ≤ 281474976710656) := fun t ht => Nat.le_trans (text_small ht) (by omega)
  have ha : a.length ≤ 1000000 := Nat.le_trans (text_small (by rw [hL]; exact List.mem_cons_self ..)) hs
  have HT : Hid (∀ W, Below (WR w (.pointer none :: C24)).heap.size (WR w (.pointer none :: C24)) W → Calls Tryd.prog 43 #[.string (bs a)] W fun e W' => ∃ B v, e = .returned (.tuple #[.pointer (some ⟨B, 0, none⟩), .int .i64 0]) ∧ W.heap.size ≤ B ∧ TabAt W' B l v ∧ (∀ k, v.ownBlock = some k → W.heap.size ≤ k) ∧ Below W.heap.size W W') := fun W hb => by
    have := Load_any a W ha (he1.next hb)
    rw [hL] at hn
    rw [show loadR a = some l from hn] at this
    exact this
  have hm : (((texts s).length : Int) % 4 != 1) = false := by simp; omega
  have h0 : (texts s)[0]? = some a := by rw [hL]; rfl
  have hp : (0 : Int) < ((texts s).length : Int) := by rw [hL]; simp
  have hp1 : (1 : Int) ≤ ((texts s).length : Int) := by omega
  have hp2 : 0 < (texts s).length := by rw [hL]; simp
  have HN : Hid (∀ wt T, (∀ L : List Value, L.length = 25 → (wt.alloc (.cells (.pointer none :: C24).toArray 69)).there wt.heap.size 0 L.toArray.size) ∧ Lh wt T (fun _ => la0) ((wt.alloc (.cells (.pointer none :: C24).toArray 69)).setCells wt.heap.size 0 (.pointer (some ⟨T, 0, none⟩) :: C24))) := Lh.new
  have HA3 : Hid (∀ T, (Value.pointer (some ⟨T, 0, none⟩) :: C24).toArray.all (·.oneCell') = true) := fun T => all_oneCell_toArray (hcs_one ⟨1, [], fun _ => la0⟩ T)
  obtain ⟨C, hC⟩ : ∃ C, C24 = C := ⟨_, rfl⟩
  rw [hC] at hz hZ HA hU HL HT HE HN HA3
  have HC : Hid (C24 = C) := hC
  clear hC
  have HS : Hid ((Tryd.prog.info? 69).map (·.size) = some (Value.pointer none :: C).toArray.size) := by show _ = _; rw [List.size_toArray, hZ]; exact Tryd.size69
  have HS2 : Hid (∀ p, (Tryd.prog.info? 69).map (·.size) = some (Value.pointer p :: C).toArray.size) := fun p => by rw [List.size_toArray, List.length_cons, ← List.length_cons (a := Value.pointer none), hZ]; exact Tryd.size69
  have HZ : Hid (_) := hZ
  have HZ2 : Hid (∀ p, (Value.pointer p :: C).length = 25) := fun p => by rw [List.length_cons, ← List.length_cons (a := Value.pointer none), hZ]
  clear hL hn
  obtain ⟨L, hL⟩ : ∃ L, texts s = L := ⟨_, rfl⟩
  rw [hL] at hU hm h0 hp hp1 hp2 HSM hm4
  rw [hL]
  obtain ⟨Y, hY⟩ : ∃ Y, loadL (L.drop 1) 0 (fun _ => la0) = Y := ⟨_, rfl⟩
  rw [hY]
  have HY : Hid (loadL (L.drop 1) 0 (fun _ => la0) = Y) := hY
  clear hY
  clear hZ he hs he1 hL hg
  go_enter Tryd.func28, Tryd.ntmps28
  go_upto_region 8 with (first
    | (go_at_call 24; refine hU.mono ?_; clear hU; rintro e w1 ⟨v, rfl, hown, hb1⟩; obtain ⟨va, vc, rfl⟩ := owns_slice hown; have hSl := Sl.of_owns hown; have hvc := owns_cap hown; obtain ⟨b, o, rfl, hb0, hcc⟩ := hSl.at2 h0; have c0 := hcc 0 _ h0; rw [Nat.add_zero] at c0; have ht := HT.out _ hb1; clear hown hcc HT)
    | (go_at_call 43; refine ht.mono ?_; clear ht; rintro e w2 ⟨T, tv, rfl, hTB, hTab, hOwn, hb2⟩; have hN := HN.out w2 T)
    | (refine wpList_store_mid rfl 69 _ _ rfl w2.heap.size 0 (Value.pointer (some ⟨T, 0, none⟩) :: C).toArray rfl rfl (hN.1 _ (HZ2.out _)) (HS2.out _) (HA3.out T) ?_))
  have hH := hN.2
  obtain ⟨w3, hw3⟩ : ∃ W, (w2.alloc (.cells (Value.pointer none :: C).toArray 69)).setCells w2.heap.size 0 (Value.pointer (some ⟨T, 0, none⟩) :: C) = W := ⟨_, rfl⟩
  rw [hw3] at hH ⊢
  clear hw3 hN HN c0
  obtain ⟨X, hX⟩ : ∃ X : Option Addr, (if vc = 1 then some ⟨b, o, none⟩ else some ⟨b, o + 1, none⟩) = X := ⟨_, rfl⟩
  have HX : Hid (0 < L.length - 1 → X = some ⟨b, o + 1, none⟩) := fun h => by rw [← hX, if_neg (by omega)]
  have hbW : Below (WR w (.pointer none :: C)).heap.size (WR w (.pointer none :: C)) w2 := hb1.trans (hb2.mono hb1.size)
  have HBW : Hid (∀ W, Below w2.heap.size w2 W → Below (WR w (.pointer none :: C)).heap.size (WR w (.pointer none :: C)) W) := fun W h => hbW.trans (h.mono hbW.size)
  have HF : Hid (∀ W, Below w2.heap.size w2 W → ∀ n a1 b1 x1 d1, L[n]? = some a1 → L[n + 1]? = some b1 → L[n + 2]? = some x1 → L[n + 3]? = some d1 → Four W b (o + n) a1 b1 x1 d1) := fun W h n a1 b1 x1 d1 e0 e1 e2 e3 => by
    obtain ⟨b', o', e, hlt, hc⟩ := (hSl.below (hb2.trans (h.mono hb2.size)) (Nat.le_refl _)).at2 e0
    cases e
    exact ⟨hlt, hc n _ e0, by rw [Nat.add_assoc]; exact hc _ _ e1, by rw [Nat.add_assoc]; exact hc _ _ e2, by rw [Nat.add_assoc]; exact hc _ _ e3⟩
  have HTab : Hid (∀ W, Below w2.heap.size w2 W → TabAt W T l tv) := fun W h => hTab.on h
  have HTB : Hid (w.heap.size < T) := by
    show _ < _
    have := hb1.size
    simp at this
    omega
  have HOwn : Hid (∀ k, tv.ownBlock = some k → w.heap.size < k) := fun k hk => by
    have := hOwn k hk
    have h2 := hb1.size
    simp at h2
    omega
  have hLi : ((L.length : Int) - 1).toNat = L.length - 1 := by omega
  clear hb1 hb2 hbW hTab hTB hOwn hSl
  go_wp2
  go_loopg [8, 9] (L.length - 1) (fun gk least rest wr => ∃ (n : Nat) (c : Nat → La) (lst : Nat) (A : Option Addr) (M cap : Nat), gk = M ∧ least = .int .i64 (lst : Int) ∧ rest = .slice A M cap ∧ n + M = L.length ∧ M ≤ cap ∧ (0 < M → A = some ⟨b, o + n, none⟩) ∧ M % 4 = 0 ∧ Lh w2 T c wr ∧ Hid (Y = loadL (L.drop n) lst c))
  case atStart => exact ⟨1, _, 0, X, L.length - 1, vc - 1, rfl, rfl, rfl, by omega, by omega, HX.out, by omega, hH, HY.out.symm⟩
  case round =>
    obtain ⟨n, c, lst, A, M, cap, hgk, rfl, rfl, hnM, hcap, hA, hM4, hK, hEq⟩ := hrel
    by_cases hM0 : M = 0
    · subst hM0
      have hnn : n = L.length := by omega
      have HZZ : Hid (Y = some c) := by
        show _ = _
        rw [hEq.out, hnn, List.drop_length]
        rfl
      have HK : Hid (_) := hK
      have HB : Hid (_) := HL.out _ (HBW.out _ hK.below) (Value.pointer (some ⟨T, 0, none⟩) :: ccs c) (by rw [List.length_cons, ccs_len])
      have HSc : Hid ((Tryd.prog.info? 69).map (·.size) = some (Value.pointer (some ⟨T, 0, none⟩) :: ccs c).toArray.size) := by show _ = _; rw [List.size_toArray, List.length_cons, ccs_len]; exact Tryd.size69
      have HSl : Hid ((Tryd.prog.info? 69).map (·.size) = some (Value.pointer (some ⟨T, 0, none⟩) :: ccs c).length) := by show _ = _; rw [List.length_cons, ccs_len]; exact Tryd.size69
      clear hK hEq hnn hnM
      go_wp2_with (first
        | (refine wpList_load_mid rfl 69 _ rfl w2.heap.size 0 rfl (Value.pointer (some ⟨T, 0, none⟩) :: ccs c) _ HK.out.rng Tryd.underlying69 rfl HSl.out ?_)
        | (refine wpList_store_mid rfl 69 _ _ rfl w.heap.size 0 (Value.pointer (some ⟨T, 0, none⟩) :: ccs c).toArray rfl rfl HB.out.1 HSc.out (HA2.out T c) ?_))
      obtain ⟨_, k1, k2⟩ := HB.out
      have k3 := res69 k1 (by rw [List.length_cons, ccs_len])
      refine bodyPost_ret (v := .tuple #[.agg (Value.pointer (some ⟨T, 0, none⟩) :: ccs c).toArray, .int .i64 0]) (results_cell rfl rfl rfl k3) rfl ?_
      rw [HZZ.out]
      exact ⟨T, tv, rfl, Nat.le_of_lt HTB.out, (HTab.out _ HK.out.below).keep (setCells_heap _ _ _ _ _ (by have := HTB.out; omega)) (fun k e _ => setCells_heap _ _ _ _ _ (by have := HOwn.out k e; omega)), fun k e => Nat.le_of_lt (HOwn.out k e), k2⟩
    · have hM1 : 4 ≤ M := by omega
      obtain ⟨a1, e0⟩ : ∃ x, L[n]? = some x := ⟨_, List.getElem?_eq_getElem (by omega)⟩
      obtain ⟨b1, e1⟩ : ∃ x, L[n + 1]? = some x := ⟨_, List.getElem?_eq_getElem (by omega)⟩
      obtain ⟨x1, e2⟩ : ∃ x, L[n + 2]? = some x := ⟨_, List.getElem?_eq_getElem (by omega)⟩
      obtain ⟨d1, e3⟩ : ∃ x, L[n + 3]? = some x := ⟨_, List.getElem?_eq_getElem (by omega)⟩
      have hd : L.drop n = a1 :: b1 :: x1 :: d1 :: L.drop (n + 4) := by
        have st : ∀ k x, L[k]? = some x → L.drop k = x :: L.drop (k + 1) := fun k x e => by
          obtain ⟨hk, e'⟩ := List.getElem?_eq_some_iff.1 e
          rw [List.drop_eq_getElem_cons hk, e']
        rw [st _ _ e0, st _ _ e1, st _ _ e2, st _ _ e3]
      have hEq2 : Y = if (fitA a1 && fitB b1 && fitC x1 d1 && decide ((lst : Int) ≤ tnV a1)) = true then loadL (L.drop (n + 4)) ((tnV a1).toNat + 1) (updC c (tnV a1).toNat (tnV b1, tnV x1, d1)) else none := by
        rw [hEq.out, hd, loadL]
      have hA1 := hA (by omega)
      subst hA1
      have hLast := loadLast_any (m := M - 4) (cap := cap) (HE.out _ (HBW.out _ hK.below)) (HF.out _ hK.below n a1 b1 x1 d1 e0 e1 e2 e3) (HSM.out _ (List.mem_of_getElem? e0)) (HSM.out _ (List.mem_of_getElem? e1)) (HSM.out _ (List.mem_of_getElem? e2))
      rw [show M - 4 + 4 = M by omega] at hLast
      obtain ⟨q, hq⟩ : ∃ q, o + n = q := ⟨_, rfl⟩
      rw [hq] at hLast ⊢
      have hMi : (0 : Int) < (M : Int) := by omega
      have HK : Hid (_) := hK
      have HEq : Hid (_) := hEq2
      clear hEq2 hEq hK hd e0 e1 e2 e3 hA
      cases hfit : (fitA a1 && fitB b1 && fitC x1 d1)
      · have HNo : Hid (Y = none) := by
          show _ = _
          rw [HEq.out, hfit]
          rfl
        rw [show lastV a1 b1 x1 d1 = .tuple #[.int .i64 0, .agg #[.int .i64 0, .int .i64 0, .string ⟨#[]⟩], .int .i64 4] by rw [lastV, hfit]; rfl] at hLast
        clear HEq hfit
        go_wp2_with (first
          | (go_at_call 44; refine hLast.mono ?_; clear hLast; rintro e w5 ⟨rfl, hb5⟩; have HB : Hid (_) := HL.out _ (HBW.out _ (HK.out.on (hb5.alloc hb5.size (.cells #[.int .i64 0, .int .i64 0, .string ⟨#[]⟩] 66))).below) _ HZ.out)
          | (refine wpList_store_mid rfl 69 _ _ rfl w.heap.size 0 (Value.pointer none :: C).toArray rfl rfl HB.out.1 HS.out HA.out ?_))
        obtain ⟨_, k1, k2⟩ := HB.out
        have k3 := res69 k1 HZ.out
        exact bodyPost_ret (v := .tuple #[.agg (Value.pointer none :: C).toArray, .int .i64 4]) (results_cell rfl rfl rfl k3) rfl (lc_none HNo.out HC.out k2)
      · have hcond := fit_cond (a := a1) (b := b1) (x := x1) (d := d1) (least := 0) (by rw [hfit]; simp; simp only [Bool.and_eq_true] at hfit; have := hfit.1.1; simp only [fitA, Bool.and_eq_true] at this; have := inR_t this.2; omega)
        obtain ⟨z, hz1⟩ : ∃ z : Nat, tnV a1 = z := ⟨(tnV a1).toNat, by have := hcond.1; omega⟩
        have hz8 : z < 8 := by have := hcond.1; omega
        rw [show lastV a1 b1 x1 d1 = .tuple #[.int .i64 (tnV a1), .agg #[.int .i64 (tnV b1), .int .i64 (tnV x1), .string (bs d1)], .int .i64 0] by rw [lastV, hfit]; rfl, hz1] at hLast
        rw [hfit, hz1, Int.toNat_natCast] at HEq
        obtain ⟨U, hU⟩ : ∃ U, tnV b1 = U := ⟨_, rfl⟩
        obtain ⟨V, hV⟩ : ∃ V, tnV x1 = V := ⟨_, rfl⟩
        rw [hU, hV] at hLast HEq
        clear hcond hfit hz1 hU hV
        by_cases hle : lst ≤ z
        · have HNx : Hid (Y = loadL (L.drop (n + 4)) (z + 1) (updC c z (U, V, d1))) := by
            show _ = _
            rw [HEq.out, decide_eq_true (by omega)]
            rfl
          have hlt : ¬ ((z : Int) < (lst : Int)) := by omega
          have hlt2 : (lst : Int) ≤ (z : Int) := by omega
          clear HEq
          go_upto_region 13 with (first
            | (go_at_call 44; refine hLast.mono ?_; clear hLast; rintro e w5 ⟨rfl, hb5⟩))
          have hK5 := HK.out.on (hb5.alloc hb5.size (.cells #[.int .i64 U, .int .i64 V, .string (bs d1)] 66))
          have q3 : (w5.alloc (.cells #[.int .i64 U, .int .i64 V, .string (bs d1)] 66)).heap[w5.heap.size]? = some (.cells #[.int .i64 U, .int .i64 V, .string (bs d1)] 66) := heap_alloc_new w5 _
          obtain ⟨W5, hW5⟩ : ∃ W, w5.alloc (.cells #[.int .i64 U, .int .i64 V, .string (bs d1)] 66) = W := ⟨_, rfl⟩
          obtain ⟨X5, hX5⟩ : ∃ X, w5.heap.size = X := ⟨_, rfl⟩
          rw [hW5] at hK5 q3 ⊢
          rw [hX5] at q3 ⊢
          have y0 := cellB q3 0 _ rfl
          have y1 := cellB q3 1 _ rfl
          have y2 := cellB q3 2 _ rfl
          obtain ⟨g0, g1, g2⟩ := hK5.cc hz8
          have f0 := hK5.fz (1 + z * 3)
          have f1 := hK5.fz (1 + z * 3 + 1)
          have f2 := hK5.fz (1 + z * 3 + 2)
          have HK5 : Hid (Lh w2 T (updC c z (U, V, d1)) (W5.setCells w2.heap.size (1 + z * 3) [.int .i64 U, .int .i64 V, .string (bs d1)])) := hK5.set hz8 (U, V, d1)
          have hz0 : (0 : Int) ≤ (z : Int) := by omega
          have hz7 : (z : Int) < 8 := by omega
          have hwz : IntKind.i64.wrap ((z : Int) + 1) = ((z + 1 : Nat) : Int) := wrap_to (by omega) (by omega) (by omega)
          have hM4i : (4 : Int) ≤ (M : Int) := by omega
          obtain ⟨X2, hX2⟩ : ∃ X : Option Addr, (if cap = 4 then some ⟨b, q, none⟩ else some ⟨b, q + 4, none⟩) = X := ⟨_, rfl⟩
          have HX2 : Hid (0 < M - 4 → X2 = some ⟨b, o + (n + 4), none⟩) := fun h => by rw [← hX2, if_neg (by omega), ← hq]; rfl
          clear hW5 hX5 q3 hK5 HK hq
          go_wp2
          go_roundg (M - 4)
          case measure => omega
          case rel => exact ⟨n + 4, _, z + 1, X2, M - 4, cap - 4, rfl, rfl, rfl, by omega, by omega, HX2.out, by omega, HK5.out, HNx.out⟩
        · have HNo : Hid (Y = none) := by
            show _ = _
            rw [HEq.out, decide_eq_false (by omega)]
            rfl
          have hlt : (z : Int) < (lst : Int) := by omega
          clear HEq
          go_wp2_with (first
            | (go_at_call 44; refine hLast.mono ?_; clear hLast; rintro e w5 ⟨rfl, hb5⟩; have HB : Hid (_) := HL.out _ (HBW.out _ (HK.out.on (hb5.alloc hb5.size (.cells #[.int .i64 U, .int .i64 V, .string (bs d1)] 66))).below) _ HZ.out)
            | (refine wpList_store_mid rfl 69 _ _ rfl w.heap.size 0 (Value.pointer none :: C).toArray rfl rfl HB.out.1 HS.out HA.out ?_))
          obtain ⟨_, k1, k2⟩ := HB.out
          have k3 := res69 k1 HZ.out
          exact bodyPost_ret (v := .tuple #[.agg (Value.pointer none :: C).toArray, .int .i64 4]) (results_cell rfl rfl rfl k3) rfl (lc_none HNo.out HC.out k2)
theorem loadC_any (s : List UInt8) (w : World) (hs : s.length ≤ 1000000) (he : Env w) : Calls Tryd.prog 28 #[.string (bs s)] w fun e W' => LcPost w (loadC s) e W' := by
  unfold loadC
  by_cases hg : good s ∧ (texts s).length % 4 = 1
  · rw [if_pos hg]
    cases hn : loadR ((texts s).headD []) with
    | none => exact loadC_bad2 s w hs he hg.1 hg.2 hn
    | some l => exact loadC_main s w hs he hg.1 hg.2 l hn
  · rw [if_neg hg]
    exact loadC_bad1 s w hs he hg
end Go.Proofs.YtgmobjdjojffgaaDoor
