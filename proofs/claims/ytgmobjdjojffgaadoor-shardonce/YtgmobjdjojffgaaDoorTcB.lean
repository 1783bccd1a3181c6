/- Load, walked. -/
import Derived.Test.YtgmobjdjojffgaaDoorTcA
import Derived.Test.YtgmobjdjojffgaaDoorTbH
namespace Go.Proofs.YtgmobjdjojffgaaDoor
open Go.RowKit
attribute [local go_sem ↓] Go.wp_at_zero Go.wp_at_succ

theorem Sl.at2 {w : World} {a : Option Addr} {c : Nat} {l : List (List UInt8)} (h : Sl w (.slice a l.length c) l) {k : Nat} {t : List UInt8} (hk : l[k]? = some t) : ∃ b o, a = some ⟨b, o, none⟩ ∧ b < w.heap.size ∧ ∀ i t, l[i]? = some t → w.cell? ⟨b, o + i, none⟩ = some (.string (bs t)) := by
  rcases h with ⟨rfl, _⟩ | ⟨b, o, cap, hv, hlt, h⟩
  · cases hk
  · injection hv with h1 _ _
    exact ⟨b, o, h1, hlt, h⟩
theorem wrap_to {y q : Int} (h : y = q) (h0 : -1000000 ≤ q) (h1 : q ≤ 1000000) : IntKind.i64.wrap y = q := by
  subst h
  simp [IntKind.wrap, IntKind.bits, IntKind.signed]; omega
/-- The table that Load makes. -/
structure Lk (w1 : World) (R : List Rw) (n : Nat) (u : Value) (wr : World) : Prop where
  blk : ∃ t, wr.heap[w1.heap.size]? = some (.cells #[u] t)
  own : wr.ownsRow (w1.heap.size + 1) 126 2 u n (rcs (R.take n))
  below : Below w1.heap.size w1 wr
  size : w1.heap.size + 1 ≤ wr.heap.size
theorem Lk.on {w1 wr W : World} {R : List Rw} {n : Nat} {u : Value} (h : Lk w1 R n u wr) (hb : Below wr.heap.size wr W) : Lk w1 R n u W := by
  obtain ⟨t, hh⟩ := h.blk
  exact ⟨⟨t, (hb.block _ h.size).trans hh⟩, own_kept h.own hb, h.below.trans (hb.mono h.below.size), Nat.le_trans h.size hb.size⟩
theorem owns_far {w : World} {base B n : Nat} {e : TypeId} {s : Nat} {v : Value} {xs : List Value} (h : w.ownsRow base e s v n xs) (hB : B < base) (j : Nat) (u : Value) : (w.setCell ⟨B, j, none⟩ u).ownsRow base e s v n xs := by
  obtain ⟨hl, h⟩ := h
  rcases h with h | ⟨g, cap, cur, rfl, hb, hh, h1⟩
  · exact ⟨hl, .inl h⟩
  · exact ⟨hl, .inr ⟨g, cap, cur, rfl, hb, (set_far (by omega) j u).trans hh, h1⟩⟩
/-- What Load gives. -/
def LoadPost (w : World) (x : Option (List Rw)) (e : Ending) (W' : World) : Prop :=
  match x with
  | none => e = .returned (.tuple #[.pointer none, .int .i64 4]) ∧ Below w.heap.size w W'
  | some l => ∃ B v, e = .returned (.tuple #[.pointer (some ⟨B, 0, none⟩), .int .i64 0]) ∧ w.heap.size ≤ B ∧ TabAt W' B l v ∧ (∀ k, v.ownBlock = some k → w.heap.size ≤ k) ∧ Below w.heap.size w W'
theorem load_none {w W' : World} {Z : Option (List Rw)} (h : Z = none) (hb : Below w.heap.size w W') : LoadPost w Z (.returned (.tuple #[.pointer none, .int .i64 4])) W' := by
  subst h
  exact ⟨rfl, hb⟩
theorem load_some {w w1 W' : World} {Z : Option (List Rw)} {R : List Rw} {u : Value} (h : Z = some R) (hok : Ok R) (hb : Below w.heap.size w w1) (hk : Lk w1 R R.length u W') : LoadPost w Z (.returned (.tuple #[.pointer (some ⟨w1.heap.size, 0, none⟩), .int .i64 0])) W' := by
  subst h
  have hown := hk.own
  rw [List.take_length] at hown
  exact ⟨_, u, rfl, hb.size, ⟨hk.blk, Rs.of_owns hown, fun k hk' => by have := (hk.own.lt k hk').1; omega, hok⟩, fun k hk' => by have := (hk.own.lt k hk').1; have := hb.size; omega, hb.trans (hk.below.mono hb.size)⟩
theorem cells_new (w : World) (cs : Array Value) (t : TypeId) : ∀ j u, cs.toList[j]? = some u → (w.alloc (.cells cs t)).drew.cell? ((⟨w.heap.size, 0, none⟩ : Addr).add j) = some u :=
  World.news_of_block (w := (w.alloc (.cells cs t)).drew) (heap_alloc_new w (.cells cs t))
set_option maxRecDepth 20000 in
set_option maxHeartbeats 2000000 in
theorem Load_any (s : List UInt8) (w : World) (hs : s.length ≤ 1000000) (he : Env w) : Calls Tryd.prog 43 #[.string (bs s)] w fun e W' => LoadPost w (loadR s) e W' := by
  have hU := Unpack_any s w hs he
  by_cases hg : good s
  · have e0 : errOf s = 0 := if_pos hg
    rw [e0] at hU
    by_cases h2 : (texts s).length % 2 = 0
    · by_cases h32 : (texts s).length ≤ 32
      · have hR := pairs_len _ h2
        have hat : ∀ n r, (pairs (texts s))[n]? = some r → (texts s)[n * 2]? = some r.1 ∧ (texts s)[n * 2 + 1]? = some r.2 := fun n r hr => pairs_at h2 hr
        have HL : Hid (loadR s = if okRows [] (pairs (texts s)) = true then some (pairs (texts s)) else none) := by
          show _ = _
          unfold loadR
          by_cases ho : okRows [] (pairs (texts s)) = true
          · rw [if_pos ⟨hg, h2, h32, ho⟩, if_pos ho]
          · rw [if_neg (fun h => ho h.2.2.2), if_neg ho]
        obtain ⟨L, hL⟩ : ∃ L, texts s = L := ⟨_, rfl⟩
        rw [hL] at hU h2 h32 hR hat HL
        obtain ⟨R, hRR⟩ : ∃ R, pairs L = R := ⟨_, rfl⟩
        rw [hRR] at hR hat HL
        obtain ⟨Z, hZ⟩ : ∃ Z, loadR s = Z := ⟨_, rfl⟩
        rw [hZ] at HL
        rw [hZ]
        have HAT : Hid (_) := hat
        have hm2 : ((L.length : Int) % 2 != 0) = false := by simp; omega
        have hm3 : (L.length : Int) ≤ 32 := by omega
        clear hg e0 hL hRR hZ hat he hs
        obtain ⟨i0, hi, hz0, hz1, hz2⟩ := info_parts Tryd.info126
        go_enter Tryd.func43, Tryd.ntmps43
        go_wp2_with (first
          | (go_at_call 24; refine hU.mono ?_; clear hU; rintro e w1 ⟨v, rfl, hown, hb1⟩; obtain ⟨va, vc, rfl⟩ := owns_slice hown; have hN := New_any w1)
          | (go_at_call 37; refine hN.mono ?_; clear hN; rintro e w2 ⟨rfl, ht2, hb2, hs2⟩))
        have h0 : Lk w1 R 0 (.slice none 0 0) w2 := ⟨ht2.blk, World.ownsRow_nil _ _ _ _, hb2, by omega⟩
        have hSl := Sl.of_owns hown
        clear ht2 hb2 hown
        go_loopg [7, 8] R.length (fun gk last i wr => ∃ (n : Nat) (u : Value) (lk : List UInt8), n + gk = R.length ∧ i = .int .i64 ((n * 2 : Nat) : Int) ∧ last = .string (bs lk) ∧ Lk w1 R n u wr ∧ Hid (okRows [] R = okRows lk (R.drop n)))
        case atStart => exact ⟨0, _, [], by omega, rfl, rfl, h0, rfl⟩
        case round =>
          obtain ⟨n, u, lk, hn, rfl, rfl, hK, hok⟩ := hrel
          obtain ⟨ua, uc, rfl⟩ := owns_slice hK.own
          obtain ⟨k, hk⟩ : ∃ k, n * 2 = k := ⟨_, rfl⟩
          by_cases hn1 : n = R.length
          · subst hn1
            have HZ : Hid (okRows [] R = true) := by show _ = _; rw [hok.out, List.drop_length]; rfl
            have HK : Hid (_) := hK
            rw [hk]
            have hkl : (k : Int) = (L.length : Int) := by omega
            have hkl2 : decide ((k : Int) < (L.length : Int)) = false := by simp; omega
            clear hok hK
            go_wp2
            refine bodyPost_ret (v := .tuple #[.pointer (some ⟨w1.heap.size, 0, none⟩), .int .i64 0]) (by simp [results, Tryd.f43, go_sem]) rfl (load_some (by rw [HL.out, if_pos HZ.out]) ?_ hb1 HK.out)
            obtain ⟨j1, j2⟩ := ok_rows HZ.out
            exact ⟨j1, by omega, fun r hr => ⟨(j2 r hr).1, (j2 r hr).2.1⟩⟩
          · have hn2 : n < R.length := by omega
            obtain ⟨r, hr⟩ : ∃ r, R[n]? = some r := ⟨_, List.getElem?_eq_getElem hn2⟩
            obtain ⟨l1, l2⟩ := HAT.out n r hr
            obtain ⟨b, o, rfl, hb0, hcc⟩ := (hSl.below hK.below (Nat.le_refl _)).at2 l1
            have c1 := hcc _ _ l1
            have c2 := hcc _ _ l2
            rw [hk] at c1 c2 ⊢
            obtain ⟨k1, hk1⟩ : ∃ k1, k + 1 = k1 := ⟨_, rfl⟩
            rw [hk1] at c2
            have e1 : IntKind.i64.wrap ((k : Int) + 1) = (k1 : Int) := wrap_to (by omega) (by omega) (by omega)
            have m1 : (k : Int) < (L.length : Int) := by omega
            have m2 : (k1 : Int) < (L.length : Int) := by omega
            have hd : R.drop n = r :: R.drop (n + 1) := by rw [List.drop_eq_getElem_cons hn2]; congr 1; exact (List.getElem?_eq_some_iff.1 hr).2
            have HOK : Hid (okRows [] R = (isK r.1 && isV r.2 && lt lk r.1 && okRows r.1 (R.drop (n + 1)))) := by show _ = _; rw [hok.out, hd]; rfl
            have HK : Hid (_) := hK
            clear hcc l1 l2 hK hok hd
            go_upto_region 9 with fail
            go_region
            have hK3 := HK.out.on (below_drew ((Below.refl _ wr).alloc (Nat.le_refl _) (.cells #[.string (bs r.1), .string (bs r.2)] 126)))
            have q3 : (wr.alloc (.cells #[.string (bs r.1), .string (bs r.2)] 126)).drew.heap[wr.heap.size]? = some (.cells #[.string (bs r.1), .string (bs r.2)] 126) := heap_alloc_new wr _
            obtain ⟨W3, hW3⟩ : ∃ W, (wr.alloc (.cells #[.string (bs r.1), .string (bs r.2)] 126)).drew = W := ⟨_, rfl⟩
            obtain ⟨X3, hX3⟩ : ∃ X, wr.heap.size = X := ⟨_, rfl⟩
            have hXB : w1.heap.size < X3 := by have := HK.out.size; omega
            have HU : Hid (∀ q, (Value.slice ua n uc).ownBlock = some q → q < X3) := fun q hq => by have := (HK.out.own.lt q hq).2; omega
            rw [hW3] at hK3 q3 ⊢
            rw [hX3] at q3 ⊢
            have y1 := cellB q3 0 _ rfl
            have y2 := cellB q3 1 _ rfl
            have hleq : (Op.bytesLess (bs r.1).toList (bs lk).toList || ((bs r.1).toList == (bs lk).toList)) = !lt lk r.1 := by rw [bs_toList, bs_toList]; exact leq_lt r.1 lk
            have HK3 : Hid (_) := hK3
            clear hW3 hX3 HK c1 c2 hK3
            have HBB : Hid (Below w.heap.size w W3) := hb1.trans (HK3.out.below.mono hb1.size)
            cases hk' : isK r.1
            · have HZ : Hid (Z = none) := by show _ = _; rw [HL.out, HOK.out, hk']; rfl
              go_wp2_with (first
                | (go_at_call 62; refine (isKey_any _ _).mono ?_; rintro e w4 ⟨rfl, h9⟩; subst h9)
                | (go_at_call 63; refine (isValue_any _ _).mono ?_; rintro e w4 ⟨rfl, h9⟩; subst h9))
              exact bodyPost_ret (v := .tuple #[.pointer none, .int .i64 4]) (by simp [results, Tryd.f43, go_sem]) rfl (load_none HZ.out HBB.out)
            · cases hv' : isV r.2
              · have HZ : Hid (Z = none) := by show _ = _; rw [HL.out, HOK.out, hk', hv']; rfl
                go_wp2_with (first
                  | (go_at_call 62; refine (isKey_any _ _).mono ?_; rintro e w4 ⟨rfl, h9⟩; subst h9)
                  | (go_at_call 63; refine (isValue_any _ _).mono ?_; rintro e w4 ⟨rfl, h9⟩; subst h9))
                exact bodyPost_ret (v := .tuple #[.pointer none, .int .i64 4]) (by simp [results, Tryd.f43, go_sem]) rfl (load_none HZ.out HBB.out)
              · cases hl' : lt lk r.1
                · have HZ : Hid (Z = none) := by show _ = _; rw [HL.out, HOK.out, hk', hv', hl']; rfl
                  rw [hl'] at hleq
                  go_wp2_with (first
                    | (go_at_call 62; refine (isKey_any _ _).mono ?_; rintro e w4 ⟨rfl, h9⟩; subst h9)
                    | (go_at_call 63; refine (isValue_any _ _).mono ?_; rintro e w4 ⟨rfl, h9⟩; subst h9))
                  exact bodyPost_ret (v := .tuple #[.pointer none, .int .i64 4]) (by simp [results, Tryd.f43, go_sem]) rfl (load_none HZ.out HBB.out)
                · have HOK2 : Hid (okRows [] R = okRows r.1 (R.drop (n + 1))) := by show _ = _; rw [HOK.out, hk', hv', hl']; rfl
                  rw [hl'] at hleq
                  clear HOK HL
                  go_upto_region 12 with (first
                    | (go_at_call 62; refine (isKey_any _ _).mono ?_; rintro e w4 ⟨rfl, h9⟩; subst h9)
                    | (go_at_call 63; refine (isValue_any _ _).mono ?_; rintro e w4 ⟨rfl, h9⟩; subst h9))
                  rename World => w5
                  obtain ⟨i0, hi, hz0, hz1, hz2⟩ := info_parts Tryd.info126
                  have hK5 := HK3.out
                  obtain ⟨bt, hB5⟩ := hK5.blk
                  have hown5 := hK5.own
                  have hs5 := hK5.size
                  obtain ⟨B, hB⟩ : ∃ B, w1.heap.size = B := ⟨_, rfl⟩
                  rw [hB] at hB5 hown5 hs5 hXB ⊢
                  obtain ⟨X, hX⟩ : ∃ X, rcs (R.take n) = X := ⟨_, rfl⟩
                  have HX : Hid (rcs (R.take (n + 1)) = X ++ [.string (bs r.1), .string (bs r.2)]) := by
                    show _ = _
                    rw [List.take_add_one, hr, rcs_append, hX]
                    rfl
                  rw [hX] at hown5
                  have x5 := cellB hB5 0 _ rfl
                  have hX5 : X3 < w5.heap.size := (Array.getElem?_eq_some_iff.1 q3).1
                  have hown6 : (w5.alloc (.cells #[.string (bs r.1), .string (bs r.2)] 126)).drew.ownsRow (B + 1) 126 2 (.slice ua n uc) n X := hown5.alloc (.cells #[.string (bs r.1), .string (bs r.2)] 126)
                  have hbs : B + 1 ≤ (w5.alloc (.cells #[.string (bs r.1), .string (bs r.2)] 126)).drew.heap.size := by show B + 1 ≤ (w5.alloc (.cells #[.string (bs r.1), .string (bs r.2)] 126)).heap.size; rw [World.size_alloc]; omega
                  have hba : Below w5.heap.size w5 (w5.alloc (.cells #[.string (bs r.1), .string (bs r.2)] 126)) := (Below.refl _ _).alloc (Nat.le_refl _) _
                  have rca : (w5.alloc (.cells #[.string (bs r.1), .string (bs r.2)] 126)).drew.heap[B]? = some (.cells #[.slice ua n uc] bt) := (hba.block B (by omega)).trans hB5
                  have rcq : (w5.alloc (.cells #[.string (bs r.1), .string (bs r.2)] 126)).drew.heap[X3]? = some (.cells #[.string (bs r.1), .string (bs r.2)] 126) := (hba.block X3 hX5).trans q3
                  have x6 : (w5.alloc (.cells #[.string (bs r.1), .string (bs r.2)] 126)).cell? ⟨B, 0, none⟩ = some (.slice ua n uc) := (hba.cell (p := ⟨B, 0, none⟩) (by show B < w5.heap.size; omega)).trans x5
                  have hcn : ∀ j u, [Value.string (bs r.1), .string (bs r.2)][j]? = some u → (w5.alloc (.cells #[.string (bs r.1), .string (bs r.2)] 126)).drew.cell? ((⟨w5.heap.size, 0, none⟩ : Addr).add j) = some u := cells_new w5 #[.string (bs r.1), .string (bs r.2)] 126
                  have hne : some B ≠ (Value.slice ua n uc).ownBlock := fun h => by have := (hown5.lt _ h.symm).1; omega
                  have hne2 : some X3 ≠ (Value.slice ua n uc).ownBlock := fun h => by have := HU.out _ h.symm; omega
                  have hsa : (w5.alloc (.cells #[.string (bs r.1), .string (bs r.2)] 126)).drew.heap.size = w5.heap.size + 1 := World.size_alloc _ _
                  have hcd : B < (w5.alloc (.cells #[.string (bs r.1), .string (bs r.2)] 126)).drew.heap.size := by omega
                  have hcd2 : X3 < (w5.alloc (.cells #[.string (bs r.1), .string (bs r.2)] 126)).drew.heap.size := by omega
                  have hml : n + 1 ≤ maxLen := by unfold maxLen; omega
                  have hkb : (n + 1) * 32 ≤ 140737488355328 := by omega
                  have HBL : Hid (Below B w1 (w5.alloc (.cells #[.string (bs r.1), .string (bs r.2)] 126)).drew) := by
                    have := hK5.below
                    rw [hB] at this
                    exact below_drew (this.alloc (by omega) _)
                  have HO6 : Hid (∀ z, (Value.slice ua n uc).ownBlock = some z → B ≤ z) := fun z hz => by have := (hown6.lt z hz).1; omega
                  clear hX hown5 HK3 hK5 q3 HBB
                  go_region_law (first | (refine step_append_lies _ (by rfl) _ _ 109 (by rfl) (B + 1) 126 i0 (.agg #[.string ⟨#[]⟩, .string ⟨#[]⟩]) 2 32 Tryd.underlying109 hi hz0 hz1 hz2 rfl (by decide) _ n X (by rfl) hown6 ⟨w5.heap.size, 0, none⟩ 1 1 [.string (bs r.1), .string (bs r.2)] (by rfl) rfl hcn (by simp [Value.oneCell']) (by decide) hml hkb hbs _ rfl ?_; intro ga ca w6 hown7 hgrow hat hlt6; have rc6 := (hgrow.block B hcd hne).trans rca; have f2 := frozenB rc6 0; have s2 := cellB rc6 0 _ rfl))
                  all_goals
                    have hrs := setB rc6 0 (.slice (some ⟨ga, 0, none⟩) (n + 1) ca)
                    have hgs := hgrow.size
                    have rq6 := (hgrow.block X3 hcd2 hne2).trans rcq
                    have rq7 := (set_far (w := w6) (B := B) (k := X3) (by omega) 0 (.slice (some ⟨ga, 0, none⟩) (n + 1) ca)).trans rq6
                    have z1 := cellB rq7 0 _ rfl
                    have hB6 : Below B w1 w6 := HBL.out.grown hgrow (by omega) (fun z hz => HO6.out z hz)
                    have HL7 : Hid (Lk w1 R (n + 1) (.slice (some ⟨ga, 0, none⟩) (n + 1) ca) (w6.setCell ⟨B, 0, none⟩ (.slice (some ⟨ga, 0, none⟩) (n + 1) ca))) := by
                      subst hB
                      refine ⟨⟨bt, hrs⟩, ?_, hB6.setCell (p := ⟨w1.heap.size, 0, none⟩) (Nat.le_refl _) _, by simp only [World.setCell, Array.size_modify]; omega⟩
                      rw [HX.out]
                      exact owns_far hown7 (Nat.lt_succ_self _) 0 _
                    clear hrs rq6 rq7 hB6
                    go_wp2
                    subst hB
                    go_roundg (R.length - (n + 1))
                    case measure => omega
                    case rel => exact ⟨n + 1, _, r.1, by omega, (by congr 1; omega), rfl, HL7.out, HOK2.out⟩
      · rw [show loadR s = none from if_neg (fun h => h32 h.2.2.1)]
        have hm2 : ((((texts s).length : Nat) : Int) % 2 != 0) = false := by simp; omega
        have hm3 : (32 : Int) < (((texts s).length : Nat) : Int) := by omega
        clear hg e0 he hs
        go_enter Tryd.func43, Tryd.ntmps43
        go_wp2_with (go_at_call 24; refine hU.mono ?_; clear hU; rintro e w1 ⟨v, rfl, hown, hb1⟩; obtain ⟨va, vc, rfl⟩ := owns_slice hown)
        exact bodyPost_ret (v := .tuple #[.pointer none, .int .i64 4]) (by simp [results, Tryd.f43, go_sem]) rfl ⟨rfl, hb1⟩
    · rw [show loadR s = none from if_neg (fun h => h2 h.2.1)]
      have hm2 : ((((texts s).length : Nat) : Int) % 2 != 0) = true := by simp; omega
      clear hg e0 he hs
      go_enter Tryd.func43, Tryd.ntmps43
      go_wp2_with (go_at_call 24; refine hU.mono ?_; clear hU; rintro e w1 ⟨v, rfl, hown, hb1⟩; obtain ⟨va, vc, rfl⟩ := owns_slice hown)
      exact bodyPost_ret (v := .tuple #[.pointer none, .int .i64 4]) (by simp [results, Tryd.f43, go_sem]) rfl ⟨rfl, hb1⟩
  · have e4 : errOf s = 4 := if_neg hg
    rw [e4] at hU
    rw [show loadR s = none from if_neg (fun h => hg h.1)]
    clear hg e4 he hs
    go_enter Tryd.func43, Tryd.ntmps43
    go_wp2_with (go_at_call 24; refine hU.mono ?_; clear hU; rintro e w1 ⟨v, rfl, hown, hb1⟩; obtain ⟨va, vc, rfl⟩ := owns_slice hown)
    exact bodyPost_ret (v := .tuple #[.pointer none, .int .i64 4]) (by simp [results, Tryd.f43, go_sem]) rfl ⟨rfl, hb1⟩
end Go.Proofs.YtgmobjdjojffgaaDoor
