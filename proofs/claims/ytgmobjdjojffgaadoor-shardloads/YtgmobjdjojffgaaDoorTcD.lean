/- The document's Load, walked. -/
import Derived.Test.YtgmobjdjojffgaaDoorTcA
import Derived.Test.YtgmobjdjojffgaaDoorTdA
import Derived.Test.YtgmobjdjojffgaaDoorNsR
namespace Go.Proofs.YtgmobjdjojffgaaDoor
open Go.RowKit
attribute [local go_sem ↓] Go.wp_at_zero Go.wp_at_succ

theorem Tryd.info62L : (Tryd.prog.info? 120).map (fun i => (i.zero, i.size, i.bytes)) = some (some (.agg #[.string ⟨#[]⟩, .string ⟨#[]⟩]), 2, 32) := by kernel_rfl
/-- A world behind W0: all that stood there stands there. -/
structure Cg (W0 : World) where
  w : World
  h : Below W0.heap.size W0 w
theorem wp_region_grown {P : Program} {id : Nat} {Q : Exit → Act → World → Prop} {a : Act} {w W0 : World} {l : List Oper} (hm : P.follows .mixedOrders = true) (hB : Region.lexB .any l.toArray = true) (hw : Below W0.heap.size W0 w)
    (h : wpQuiet P l.toArray (fun w' => ∃ x : Cg W0, w' = x.w) (fun a' => ∀ w', (∃ x : Cg W0, w' = x.w) → Q .normal a' w') l a) : (Code.region id l.toArray true).wp P Q a w :=
  wp_region_quiet (C := fun w' => ∃ x : Cg W0, w' = x.w) hm hB ⟨⟨_, below_drew hw⟩, rfl⟩ (by simpa using h)
theorem Sl.row {w : World} {a : Option Addr} {c : Nat} {l : List (List UInt8)} (h : Sl w (.slice a l.length c) l) {k : Nat} {t : List UInt8} (hk : l[k]? = some t) : ∃ b o, a = some ⟨b, o, none⟩ ∧ b < w.heap.size ∧ ∀ i t, l[i]? = some t → w.cell? ⟨b, o + i, none⟩ = some (.string (bs t)) := by
  rcases h with ⟨rfl, _⟩ | ⟨b, o, cap, hv, hlt, h⟩
  · cases hk
  · injection hv with h1 _ _
    exact ⟨b, o, h1, hlt, h⟩
theorem wrap_it {y q : Int} (h : y = q) (h0 : -1000000 ≤ q) (h1 : q ≤ 1000000) : IntKind.i64.wrap y = q := by
  subst h
  simp [IntKind.wrap, IntKind.bits, IntKind.signed]; omega
/-- The key ahead of the n'th row. -/
def prevK (l : List Rw) (n : Nat) : List UInt8 := ((l.take n).getLast?.map (·.1)).getD []
theorem prevK_succ {l : List Rw} {n : Nat} {r : Rw} (h : l[n]? = some r) : prevK l (n + 1) = r.1 := by
  rw [prevK, List.take_add_one, h]
  simp
theorem chk_put (k v : List UInt8) : chk 2 k v [] = if (isK k && isV v) = true then 0 else 130 := by
  rw [chk, if_neg (by decide)]
  cases hk : isK k <;> cases hv : isV v <;> simp [isV]
theorem geq_lt (p k : List UInt8) : (!(Op.bytesLess (bs p).toList (bs k).toList)) = !lt p k := by rw [bs_toList, bs_toList]
/-- The table that the document's Load makes. -/
structure Lr (w2 : World) (T R0 : Nat) (R : List Rw) (n : Nat) (u : Value) (wr : World) : Prop where
  blk : ∃ t, wr.heap[T]? = some (.cells #[u] t)
  res : ∃ t, wr.heap[R0]? = some (.cells #[.slice none 0 0] t)
  own : wr.ownsRow (T + 1) 120 2 u n (rcs (R.take n))
  below : Below T w2 wr
  size : T + 1 ≤ wr.heap.size
theorem Lr.drew {w2 : World} {T R0 : Nat} {R : List Rw} {n : Nat} {u : Value} {wr : World} (h : Lr w2 T R0 R n u wr) (k : Nat) : Lr w2 T R0 R n u (wr.drewN k) := ⟨h.blk, h.res, h.own, below_drewN h.below k, h.size⟩
/-- What it gives. -/
def rLoadPost (w : World) (x : Option (List Rw)) (e : Ending) (W' : World) : Prop :=
  match x with
  | none => e = .returned (.tuple #[.agg #[.slice none 0 0], .int .i64 4]) ∧ Below w.heap.size w W'
  | some l => ∃ a c, e = .returned (.tuple #[.agg #[.slice a l.length c], .int .i64 0]) ∧ W'.ownsRow w.heap.size 120 2 (.slice a l.length c) l.length (rcs l) ∧ Below w.heap.size w W'
theorem rload_none {w W' : World} {Z : Option (List Rw)} (h : Z = none) (hb : Below w.heap.size w W') : rLoadPost w Z (.returned (.tuple #[.agg #[.slice none 0 0], .int .i64 4])) W' := by
  subst h
  exact ⟨rfl, hb⟩
set_option maxRecDepth 20000 in
set_option maxHeartbeats 2000000 in
theorem rLoad_any (s : List UInt8) (w : World) (hs : s.length ≤ 1000000) : Calls Tryd.prog 40 #[.string (bs s)] w fun e W' => rLoadPost w (loadR s) e W' := by
  have hb1 : Below w.heap.size w (w.alloc (.cells #[.slice none 0 0] 29)) := (Below.refl _ _).alloc (Nat.le_refl _) _
  have hn1 := heap_alloc_new w (.cells #[.slice none 0 0] 29)
  have hU := rUnpack_any s (w.alloc (.cells #[.slice none 0 0] 29)) (by omega)
  have HR0 : Hid (∀ W, Below (w.alloc (.cells #[.slice none 0 0] 29)).heap.size (w.alloc (.cells #[.slice none 0 0] 29)) W → W.heap[w.heap.size]? = some (.cells #[.slice none 0 0] 29) ∧ Below w.heap.size w W ∧ w.heap.size < W.heap.size) :=
    fun W hb => ⟨(hb.block _ (by simp)).trans hn1, hb1.trans (hb.mono hb1.size), by have := hb.size; simp at this; omega⟩
  clear hb1 hn1
  by_cases hg : good s
  · have e0 : errOf s = 0 := if_pos hg
    rw [e0] at hU
    by_cases h2 : (texts s).length % 2 = 0
    · by_cases h32 : (texts s).length ≤ 32
      · have hR := pairs_len _ h2
        have hat : ∀ n r, (pairs (texts s))[n]? = some r → (texts s)[n * 2]? = some r.1 ∧ (texts s)[n * 2 + 1]? = some r.2 := fun n r hr => pairs_at h2 hr
        have HL : Hid (loadR s = if okRows [] (pairs (texts s)) = true then some (pairs (texts s)) else none) := by
          show _ = _
          unfold loadR
          by_cases ho : okRows [] (pairs (texts s)) = true
          · rw [if_pos ⟨hg, h2, h32, ho⟩, if_pos ho]
          · rw [if_neg (fun h => ho h.2.2.2), if_neg ho]
        obtain ⟨L, hL⟩ : ∃ L, texts s = L := ⟨_, rfl⟩
        rw [hL] at hU h2 h32 hR hat HL
        obtain ⟨R, hRR⟩ : ∃ R, pairs L = R := ⟨_, rfl⟩
        rw [hRR] at hR hat HL
        obtain ⟨Z, hZ⟩ : ∃ Z, loadR s = Z := ⟨_, rfl⟩
        rw [hZ] at HL
        rw [hZ]
        have HAT : Hid (_) := hat
        have hm2 : ((L.length : Int) % 2 != 0) = false := by simp; omega
        have hm3 : (L.length : Int) ≤ 32 := by omega
        clear hg e0 hL hRR hZ hat hs
        go_enter Tryd.func40, Tryd.ntmps40
        go_upto_region 5 with (go_at_call 29; refine hU.mono ?_; clear hU; rintro e w1 ⟨v, rfl, hown, hb1⟩; obtain ⟨va, vc, rfl⟩ := owns_slice hown)
        obtain ⟨hr0, hBw1, hw1⟩ := HR0.out _ hb1
        have hka : Below w1.heap.size w1 (w1.alloc (.cells #[.slice none 0 0] 29)) := (Below.refl _ _).alloc (Nat.le_refl _) _
        have h0 : Lr w1 w1.heap.size w.heap.size R 0 (.slice none 0 0) (w1.alloc (.cells #[.slice none 0 0] 29)) :=
          ⟨⟨29, heap_alloc_new _ _⟩, ⟨29, (hka.block _ hw1).trans hr0⟩, World.ownsRow_nil _ _ _ _, hka, by simp⟩
        have hSl := Sl.of_owns hown
        obtain ⟨W2, hW2⟩ : ∃ W, w1.alloc (.cells #[.slice none 0 0] 29) = W := ⟨_, rfl⟩
        obtain ⟨T, hT⟩ : ∃ T, w1.heap.size = T := ⟨_, rfl⟩
        rw [hW2, hT] at h0
        rw [hW2, hT]
        rw [hT] at hw1
        have HBW : Hid (∀ W, Below T w1 W → Below w.heap.size w W) := fun W hb => hBw1.trans (hb.mono (by omega))
        have HSL : Hid (∀ W, Below T w1 W → Sl W (.slice va L.length vc) L) := fun W hb => hSl.below hb (by omega)
        clear hW2 hown hka hb1 hr0 hSl hBw1 HR0
        go_wp2
        go_loopg [7] R.length (fun gk i wr => ∃ (n : Nat) (u : Value), n + gk = R.length ∧ i = .int .i64 ((n * 2 : Nat) : Int) ∧ Lr w1 T w.heap.size R n u wr ∧ Hid (okRows [] R = okRows (prevK R n) (R.drop n)))
        case atStart => exact ⟨0, _, by omega, rfl, h0, rfl⟩
        case round =>
          clear h0
          obtain ⟨n, u, hn, rfl, hK, hok⟩ := hrel
          obtain ⟨ua, uc, rfl⟩ := owns_slice hK.own
          obtain ⟨k, hk⟩ : ∃ k, n * 2 = k := ⟨_, rfl⟩
          by_cases hn1 : n = R.length
          · subst hn1
            have HZ : Hid (okRows [] R = true) := by show _ = _; rw [hok.out, List.drop_length]; rfl
            rw [hk]
            have hkl2 : decide ((k : Int) < (L.length : Int)) = false := by simp; omega
            obtain ⟨bt, hbk⟩ := hK.blk
            obtain ⟨rt, hrs⟩ := hK.res
            have y0 := cellB hbk 0 _ rfl
            have z0 := cellB hrs 0 _ rfl
            have zf := frozenB hrs 0
            have hown := hK.own
            rw [List.take_length] at hown
            have hout : wr.ownsRow w.heap.size 120 2 (.slice ua R.length uc) R.length (rcs R) ∧ ∀ z, (Value.slice ua R.length uc).ownBlock = some z → z ≠ w.heap.size := by
              refine ⟨?_, fun z hz => by have := (hown.lt z hz).1; omega⟩
              obtain ⟨q1, q2⟩ := hown
              rcases q2 with q2 | ⟨g, cap, cur, e1, q3, q4⟩
              · exact ⟨q1, .inl q2⟩
              · exact ⟨q1, .inr ⟨g, cap, cur, e1, by omega, q4⟩⟩
            have HOUT : Hid (_) := hout
            have HB : Hid (_) := HBW.out _ hK.below
            have HZZ : Hid (Z = some R) := by show _ = _; rw [HL.out, if_pos HZ.out]
            have hr2 := setB hrs 0 (.slice ua R.length uc)
            have z2 := cellB hr2 0 (.slice ua R.length uc) rfl
            clear hok hK hbk hrs hown hout HL HAT HSL HBW hr2
            go_wp2
            refine bodyPost_ret (v := .tuple #[.agg #[.slice ua R.length uc], .int .i64 0]) (by simp [results, Tryd.f40, go_sem, z2]) rfl ?_
            rw [HZZ.out]
            refine ⟨ua, uc, rfl, ?_, HB.out.setCell (p := ⟨w.heap.size, 0, none⟩) (Nat.le_refl _) _⟩
            obtain ⟨⟨q1, q2⟩, q5⟩ := HOUT.out
            rcases q2 with q2 | ⟨g, cap, cur, e1, q3, q4, q6⟩
            · exact ⟨q1, .inl q2⟩
            · exact ⟨q1, .inr ⟨g, cap, cur, e1, q3, (set_far (q5 g (by rw [e1]; rfl)) _ _).trans q4, q6⟩⟩
          · have hn2 : n < R.length := by omega
            obtain ⟨r, hr⟩ : ∃ r, R[n]? = some r := ⟨_, List.getElem?_eq_getElem hn2⟩
            obtain ⟨l1, l2⟩ := HAT.out n r hr
            obtain ⟨b, o, rfl, hb0, hcc⟩ := (HSL.out _ hK.below).row l1
            have c1 := hcc _ _ l1
            have c2 := hcc _ _ l2
            rw [hk] at c1 c2 ⊢
            obtain ⟨k1, hk1⟩ : ∃ k1, k + 1 = k1 := ⟨_, rfl⟩
            rw [hk1] at c2
            have e1 : IntKind.i64.wrap ((k : Int) + 1) = (k1 : Int) := wrap_it (by omega) (by omega) (by omega)
            have m1 : (k : Int) < (L.length : Int) := by omega
            have m2 : (k1 : Int) < (L.length : Int) := by omega
            have hd : R.drop n = r :: R.drop (n + 1) := by rw [List.drop_eq_getElem_cons hn2]; congr 1; exact (List.getElem?_eq_some_iff.1 hr).2
            have HOK : Hid (okRows [] R = (isK r.1 && isV r.2 && lt (prevK R n) r.1 && okRows r.1 (R.drop (n + 1)))) := by show _ = _; rw [hok.out, hd]; rfl
            have HPK : Hid (prevK R (n + 1) = r.1) := prevK_succ hr
            have HCP : Hid (∀ m q, R[m]? = some q → wr.cell? ⟨b, o + m * 2, none⟩ = some (.string (bs q.1))) := fun m q hq => hcc _ _ (HAT.out m q hq).1
            have HK : Hid (Lr w1 T w.heap.size R n (.slice ua n uc) wr) := hK
            have HRN : Hid (R[n]? = some r) := hr
            have kc1 : ∀ x : Cg wr, x.w.cell? ⟨b, o + k, none⟩ = some (.string (bs r.1)) := fun x => (x.h.cell (p := ⟨b, o + k, none⟩) hb0).trans c1
            have kc2 : ∀ x : Cg wr, x.w.cell? ⟨b, o + k1, none⟩ = some (.string (bs r.2)) := fun x => (x.h.cell (p := ⟨b, o + k1, none⟩) hb0).trans c2
            obtain ⟨C, hC⟩ : ∃ C, chk 2 r.1 r.2 [] = C := ⟨_, rfl⟩
            have hCC := chk_put r.1 r.2
            rw [hC] at hCC
            have g15 : ∀ x : Cg wr, Calls Tryd.prog 57 #[.agg #[.int .i64 2, .string (bs r.1), .string (bs r.2), .string ⟨#[]⟩]] x.w fun e w'' => e = .returned (.int .i64 C) ∧ ∃ y : Cg wr, w'' = y.w := fun x => by
              have := rCheck_any 2 r.1 r.2 [] x.w
              rw [hC] at this
              refine this.mono ?_
              rintro e W' ⟨rfl, h⟩
              exact ⟨rfl, ⟨W', x.h.trans (h.mono x.h.size)⟩, rfl⟩
            have hne : Nonempty (Cg wr) := ⟨⟨wr, Below.refl _ _⟩⟩
            clear hcc l1 l2 hK hok hd hr hC c1 c2
            go_upto_region 8 with fail
            by_cases hkv : (isK r.1 && isV r.2) = true
            · rw [if_pos hkv] at hCC
              subst hCC
              refine wp_region_grown (W0 := wr) (by kernel_rfl) (by kernel_rfl) (Below.refl _ _) ?_
              repeat (go_big_quiet_step (first | (go_at_call 57; exact g15 _)))
              refine wpQuiet_nil ?_
              rintro _ ⟨xx, rfl⟩
              have x1 := kc1 xx
              have x2 := kc2 xx
              have HBX : Hid (Below wr.heap.size wr xx.w) := xx.h
              clear kc1 kc2 g15 hne
              obtain ⟨w5, hw5⟩ : ∃ W, xx.w = W := ⟨_, rfl⟩
              rw [hw5] at x1 x2 HBX
              rw [hw5]
              clear hw5
              have hKo := HK.out
              obtain ⟨bt, hbk0⟩ := hKo.blk
              obtain ⟨rt, hrs0⟩ := hKo.res
              have hB5 := (HBX.out.block _ (Array.getElem?_eq_some_iff.1 hbk0).1).trans hbk0
              have hs5r := (HBX.out.block _ (Array.getElem?_eq_some_iff.1 hrs0).1).trans hrs0
              have hown5 := own_kept hKo.own HBX.out
              have hs5 : T + 1 ≤ w5.heap.size := Nat.le_trans hKo.size HBX.out.size
              have HBT : Hid (Below T w1 w5) := hKo.below.trans (HBX.out.mono (by have := hKo.size; omega))
              obtain ⟨i0, hi, hz0, hz1, hz2⟩ := info_parts Tryd.info62L
              obtain ⟨X, hX⟩ : ∃ X, rcs (R.take n) = X := ⟨_, rfl⟩
              have HX : Hid (rcs (R.take (n + 1)) = X ++ [.string (bs r.1), .string (bs r.2)]) := by
                show _ = _
                rw [List.take_add_one, HRN.out, rcs_append, hX]
                rfl
              rw [hX] at hown5
              have x5 := cellB hB5 0 _ rfl
              have hb5 : b < w5.heap.size := Nat.lt_of_lt_of_le hb0 HBX.out.size
              have hown6 : (w5.alloc (.cells #[.string (bs r.1), .string (bs r.2)] 120)).drew.ownsRow (T + 1) 120 2 (.slice ua n uc) n X := hown5.alloc (.cells #[.string (bs r.1), .string (bs r.2)] 120)
              have hsa : (w5.alloc (.cells #[.string (bs r.1), .string (bs r.2)] 120)).drew.heap.size = w5.heap.size + 1 := World.size_alloc _ _
              have hbs : T + 1 ≤ (w5.alloc (.cells #[.string (bs r.1), .string (bs r.2)] 120)).drew.heap.size := by omega
              have hba : Below w5.heap.size w5 (w5.alloc (.cells #[.string (bs r.1), .string (bs r.2)] 120)) := (Below.refl _ _).alloc (Nat.le_refl _) _
              have rca : (w5.alloc (.cells #[.string (bs r.1), .string (bs r.2)] 120)).drew.heap[T]? = some (.cells #[.slice ua n uc] bt) := (hba.block T (by omega)).trans hB5
              have x6 : (w5.alloc (.cells #[.string (bs r.1), .string (bs r.2)] 120)).cell? ⟨T, 0, none⟩ = some (.slice ua n uc) := (hba.cell (p := ⟨T, 0, none⟩) (by show T < w5.heap.size; omega)).trans x5
              have hcn : ∀ j u, [Value.string (bs r.1), .string (bs r.2)][j]? = some u → (w5.alloc (.cells #[.string (bs r.1), .string (bs r.2)] 120)).drew.cell? ((⟨w5.heap.size, 0, none⟩ : Addr).add j) = some u := World.news_of_block (w := (w5.alloc (.cells #[.string (bs r.1), .string (bs r.2)] 120)).drew) (heap_alloc_new w5 (.cells #[.string (bs r.1), .string (bs r.2)] 120))
              have hne : some T ≠ (Value.slice ua n uc).ownBlock := fun h => by have := (hown5.lt _ h.symm).1; omega
              have hcd : T < (w5.alloc (.cells #[.string (bs r.1), .string (bs r.2)] 120)).drew.heap.size := by omega
              have hml : n + 1 ≤ maxLen := by unfold maxLen; omega
              have hkb : (n + 1) * 32 ≤ 140737488355328 := by omega
              have HBL : Hid (Below T w1 (w5.alloc (.cells #[.string (bs r.1), .string (bs r.2)] 120)).drew) := below_drew (HBT.out.alloc (by omega) _)
              have HO6 : Hid (∀ z, (Value.slice ua n uc).ownBlock = some z → T + 1 ≤ z) := fun z hz => (hown6.lt z hz).1
              have HRS : Hid (w.heap.size < w5.heap.size ∧ w.heap.size < T ∧ w5.heap[w.heap.size]? = some (.cells #[.slice none 0 0] rt)) := ⟨by omega, hw1, hs5r⟩
              have HRA : Hid (∀ W, (w5.alloc (.cells #[.string (bs r.1), .string (bs r.2)] 120)).drew.grownBy W (Value.slice ua n uc).ownBlock → W.heap[w.heap.size]? = some (.cells #[.slice none 0 0] rt)) := fun W hgr =>
                (hgr.block w.heap.size (by omega) (fun e => by have := HO6.out _ e.symm; omega)).trans ((hba.block w.heap.size (by omega)).trans hs5r)
              have HCX : Hid (∀ W : World, Below T w1 W → ∀ m q, R[m]? = some q → W.cell? ⟨b, o + m * 2, none⟩ = some (.string (bs q.1)) ∧ b < w1.heap.size) := by
                intro W hb m q hq
                obtain ⟨b', o', e', hb', hcc'⟩ := (HSL.out w1 (Below.refl _ _)).row (HAT.out m q hq).1
                cases e'
                exact ⟨(hb.cell (p := ⟨b, o + m * 2, none⟩) (by show b < T; omega)).trans (hcc' _ _ (HAT.out m q hq).1), hb'⟩
              clear hX hown5 hKo hbk0 hrs0 hB5 hs5r hba HCP HK HBX hsa
              go_upto_region 10 with fail
              go_region_law (first | (refine step_append_lies _ (by rfl) _ _ 27 (by rfl) (T + 1) 120 i0 (.agg #[.string ⟨#[]⟩, .string ⟨#[]⟩]) 2 32 Tryd.underlying27 hi hz0 hz1 hz2 rfl (by decide) _ n X (by rfl) hown6 ⟨w5.heap.size, 0, none⟩ 1 1 [.string (bs r.1), .string (bs r.2)] (by rfl) rfl hcn (by simp [Value.oneCell']) (by decide) hml hkb hbs _ rfl ?_; intro ga ca w6 hown7 hgrow hat hlt6; have rc6 := (hgrow.block T hcd hne).trans rca; have f2 := frozenB rc6 0; have s2 := cellB rc6 0 _ rfl))
              all_goals
                have hrs7 := setB rc6 0 (.slice (some ⟨ga, 0, none⟩) (n + 1) ca)
                have hgs := hgrow.size
                have hB6 : Below T w1 w6 := HBL.out.grown hgrow (by omega) (fun z hz => by have := HO6.out z hz; omega)
                have hB7 := hB6.setCell (p := ⟨T, 0, none⟩) (Nat.le_refl _) (.slice (some ⟨ga, 0, none⟩) (n + 1) ca)
                have hre7 : (w6.setCell ⟨T, 0, none⟩ (.slice (some ⟨ga, 0, none⟩) (n + 1) ca)).heap[w.heap.size]? = some (.cells #[.slice none 0 0] rt) := (set_far (by omega) _ _).trans (HRA.out _ hgrow)
                have HL7 : Hid (Lr w1 T w.heap.size R (n + 1) (.slice (some ⟨ga, 0, none⟩) (n + 1) ca) (w6.setCell ⟨T, 0, none⟩ (.slice (some ⟨ga, 0, none⟩) (n + 1) ca))) := by
                  refine ⟨⟨bt, hrs7⟩, ⟨rt, hre7⟩, ?_, hB7, by simp only [World.setCell, Array.size_modify]; omega⟩
                  rw [HX.out]
                  obtain ⟨q1, q2⟩ := hown7
                  rcases q2 with q2 | ⟨g, cap, cur, e1, q3, q4, q6⟩
                  · exact ⟨q1, .inl q2⟩
                  · exact ⟨q1, .inr ⟨g, cap, cur, e1, q3, (set_far (by omega) _ _).trans q4, q6⟩⟩
                obtain ⟨w7, hw7⟩ : ∃ W, w6.setCell ⟨T, 0, none⟩ (.slice (some ⟨ga, 0, none⟩) (n + 1) ca) = W := ⟨_, rfl⟩
                rw [hw7] at HL7 hre7 hB7
                rw [hw7]
                have d1 := (HCX.out _ hB7 n r HRN.out).1
                rw [hk] at d1
                have HB7 : Hid (_) := hB7
                clear hrs7 hB6 hB7 hw7 rc6 f2 s2 hown7 hgrow hat hlt6 hgs
                by_cases hn0 : n = 0
                · have hk0 : decide (0 < k) = false := by simp; omega
                  have HOK2 : Hid (okRows [] R = okRows (prevK R (n + 1)) (R.drop (n + 1))) := by
                    show _ = _
                    have hkk : isK r.1 = true := by simp at hkv; exact hkv.1
                    have hp0 : prevK R n = [] := by rw [hn0]; rfl
                    rw [HOK.out, hkv, hp0, lt_nil (isK_ne hkk), HPK.out]
                    rfl
                  go_upto_region 11 with fail
                  go_quiet (fail)
                  go_wp2
                  go_roundg (R.length - (n + 1))
                  case measure => omega
                  case rel => exact ⟨n + 1, _, by omega, (by congr 1; omega), Lr.drew HL7.out _, HOK2.out⟩
                · have hk0 : decide (0 < k) = true := by simp; omega
                  obtain ⟨n', hn'⟩ : ∃ n', n = n' + 1 := ⟨n - 1, by omega⟩
                  obtain ⟨q, hq⟩ : ∃ q, R[n']? = some q := ⟨_, List.getElem?_eq_getElem (by omega)⟩
                  have d2 := (HCX.out _ HB7.out n' q hq).1
                  obtain ⟨k2, hk2⟩ : ∃ k2, n' * 2 = k2 := ⟨_, rfl⟩
                  rw [hk2] at d2
                  have e2 : IntKind.i64.wrap ((k : Int) - 2) = (k2 : Int) := wrap_it (by omega) (by omega) (by omega)
                  have m3 : (k2 : Int) < (L.length : Int) := by omega
                  have hge := geq_lt q.1 r.1
                  have hpq : prevK R n = q.1 := by rw [hn']; exact prevK_succ hq
                  cases hlt : lt q.1 r.1
                  · rw [hlt] at hge
                    have HZ : Hid (Z = none) := by
                      show _ = _
                      rw [HL.out, HOK.out, hpq, hlt]
                      simp
                    have z0 := cellB hre7 0 _ rfl
                    have zf := frozenB hre7 0
                    have z2 : ∀ j, ((w7.drewN j).setCell ⟨w.heap.size, 0, none⟩ (.slice none 0 0)).cell? ⟨w.heap.size, 0, none⟩ = some (.slice none 0 0) := fun j => cellB (setB (w := w7.drewN j) hre7 0 (.slice none 0 0)) 0 (.slice none 0 0) rfl
                    have HB : Hid (_) := HBW.out _ HB7.out
                    clear hq hpq hn'
                    go_upto_region 11 with fail
                    go_quiet (fail)
                    go_wp2
                    exact bodyPost_ret (v := .tuple #[.agg #[.slice none 0 0], .int .i64 4]) (by simp [results, Tryd.f40, go_sem, z2]) rfl (rload_none HZ.out ((below_drewN HB.out _).setCell (p := ⟨w.heap.size, 0, none⟩) (Nat.le_refl _) _))
                  · rw [hlt] at hge
                    have HOK2 : Hid (okRows [] R = okRows (prevK R (n + 1)) (R.drop (n + 1))) := by
                      show _ = _
                      rw [HOK.out, hkv, hpq, hlt, HPK.out]
                      rfl
                    clear hq hpq hn'
                    go_upto_region 11 with fail
                    go_quiet (fail)
                    go_wp2
                    go_roundg (R.length - (n + 1))
                    case measure => omega
                    case rel => exact ⟨n + 1, _, by omega, (by congr 1; omega), Lr.drew HL7.out _, HOK2.out⟩
            · rw [if_neg hkv] at hCC
              subst hCC
              have HZ : Hid (Z = none) := by
                show _ = _
                have : (isK r.1 && isV r.2) = false := by simpa using hkv
                rw [HL.out, HOK.out, this]
                rfl
              refine wp_region_grown (W0 := wr) (by kernel_rfl) (by kernel_rfl) (Below.refl _ _) ?_
              repeat (go_big_quiet_step (first | (go_at_call 57; exact g15 _)))
              refine wpQuiet_nil ?_
              rintro _ ⟨xx, rfl⟩
              obtain ⟨rt, hrs⟩ := HK.out.res
              have hrx := (xx.h.block _ (Array.getElem?_eq_some_iff.1 hrs).1).trans hrs
              have z0 := cellB hrx 0 _ rfl
              have zf := frozenB hrx 0
              have z2 := cellB (setB hrx 0 (.slice none 0 0)) 0 (.slice none 0 0) rfl
              have HB : Hid (Below w.heap.size w xx.w) := by
                have h1 := HK.out.below
                have h2 := HK.out.size
                exact HBW.out _ (h1.trans (xx.h.mono (by omega)))
              clear kc1 kc2 g15 hne hrx hrs
              go_wp2
              exact bodyPost_ret (v := .tuple #[.agg #[.slice none 0 0], .int .i64 4]) (by simp [results, Tryd.f40, go_sem, z2]) rfl (rload_none HZ.out (HB.out.setCell (p := ⟨w.heap.size, 0, none⟩) (Nat.le_refl _) _))
      · rw [show loadR s = none from if_neg (fun h => h32 h.2.2.1)]
        have hm2 : ((((texts s).length : Nat) : Int) % 2 != 0) = false := by simp; omega
        have hm3 : (32 : Int) < (((texts s).length : Nat) : Int) := by omega
        clear hg e0 hs
        go_enter Tryd.func40, Tryd.ntmps40
        go_wp2_with (go_at_call 29; refine hU.mono ?_; clear hU; rintro e w1 ⟨v, rfl, hown, hb1⟩; obtain ⟨va, vc, rfl⟩ := owns_slice hown; obtain ⟨hr0, hB, _⟩ := HR0.out _ hb1; have z0 := cellB hr0 0 _ rfl; have zf := frozenB hr0 0)
        exact bodyPost_ret (v := .tuple #[.agg #[.slice none 0 0], .int .i64 4]) (by simp [results, Tryd.f40, go_sem, cellB (setB hr0 0 (.slice none 0 0)) 0 _ rfl]) rfl (rload_none rfl (hB.setCell (p := ⟨w.heap.size, 0, none⟩) (Nat.le_refl _) _))
    · rw [show loadR s = none from if_neg (fun h => h2 h.2.1)]
      have hm2 : ((((texts s).length : Nat) : Int) % 2 != 0) = true := by simp; omega
      clear hg e0 hs
      go_enter Tryd.func40, Tryd.ntmps40
      go_wp2_with (go_at_call 29; refine hU.mono ?_; clear hU; rintro e w1 ⟨v, rfl, hown, hb1⟩; obtain ⟨va, vc, rfl⟩ := owns_slice hown; obtain ⟨hr0, hB, _⟩ := HR0.out _ hb1; have z0 := cellB hr0 0 _ rfl; have zf := frozenB hr0 0)
      exact bodyPost_ret (v := .tuple #[.agg #[.slice none 0 0], .int .i64 4]) (by simp [results, Tryd.f40, go_sem, cellB (setB hr0 0 (.slice none 0 0)) 0 _ rfl]) rfl (rload_none rfl (hB.setCell (p := ⟨w.heap.size, 0, none⟩) (Nat.le_refl _) _))
  · have e4 : errOf s = 4 := if_neg hg
    rw [e4] at hU
    rw [show loadR s = none from if_neg (fun h => hg h.1)]
    clear hg e4 hs
    go_enter Tryd.func40, Tryd.ntmps40
    go_wp2_with (go_at_call 29; refine hU.mono ?_; clear hU; rintro e w1 ⟨v, rfl, hown, hb1⟩; obtain ⟨va, vc, rfl⟩ := owns_slice hown; obtain ⟨hr0, hB, _⟩ := HR0.out _ hb1; have z0 := cellB hr0 0 _ rfl; have zf := frozenB hr0 0)
    exact bodyPost_ret (v := .tuple #[.agg #[.slice none 0 0], .int .i64 4]) (by simp [results, Tryd.f40, go_sem, cellB (setB hr0 0 (.slice none 0 0)) 0 _ rfl]) rfl (rload_none rfl (hB.setCell (p := ⟨w.heap.size, 0, none⟩) (Nat.le_refl _) _))
end Go.Proofs.YtgmobjdjojffgaaDoor
