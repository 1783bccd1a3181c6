/- The document's table: Do where there is a row, walked. -/
import Derived.Test.YtihilkdokfdoeaaDoorTdD
namespace Go.Proofs.YtihilkdokfdoeaaDoor
open Go.RowKit
attribute [local go_sem ↓] Go.wp_at_zero Go.wp_at_succ

theorem RefPost.drew {w W : World} {B q : Nat} {u : Value} {L : List Rw} (h : RefPost w B q u L W) : RefPost w B q u L W.drew := by
  obtain ⟨u', h1, h2, h3⟩ := h
  exact ⟨u', ⟨h1.cell, h1.fz, h1.rows, h1.own, h1.len, h1.val⟩, h2, h3.os, h3.tape, h3.output, h3.size, h3.block, h3.cells, h3.fz⟩
theorem del_take {L : List Rw} {n : Nat} {r : Rw} (h : L[n]? = some r) (k : List UInt8) : rDel (L.take (n + 1)) k = if r.1 = k then rDel (L.take n) k else rDel (L.take n) k ++ [r] := by
  rw [List.take_add_one, h]
  by_cases e : r.1 = k
  · simp [rDel, List.filter_append, e]
  · have : (r.1 == k) = false := by simpa using e
    simp [rDel, List.filter_append, this, e]
theorem owns_base0 {w : World} {base n : Nat} {e : TypeId} {s : Nat} {v : Value} {xs : List Value} (h : w.ownsRow base e s v n xs) : w.ownsRow 0 e s v n xs := by
  obtain ⟨hl, h⟩ := h
  rcases h with h | ⟨g, cap, cur, rfl, hb, h1⟩
  · exact ⟨hl, .inl h⟩
  · exact ⟨hl, .inr ⟨g, cap, cur, rfl, Nat.zero_le _, h1⟩⟩
theorem del_le (L : List Rw) (k : List UInt8) : (rDel L k).length ≤ L.length := List.length_filter_le _ _
set_option maxRecDepth 20000 in
set_option maxHeartbeats 4000000 in
theorem rDo_some {w : World} {B q : Nat} {L : List Rw} {u : Value} (h : RfAt w B q L u) (kind : Int) (k vl od : List UInt8) (h0 : chk kind k vl od = 0) {i : Nat} {u0 : List UInt8} (hn : atI L k = i) (hat : L[i]? = some (k, u0)) (hv : val? L k = some u0) (hp : ∀ v, rPut L k v = L.set i (k, v)) : Calls Tryd.prog 40 #[.pointer (some ⟨B, q, none⟩), opV kind k vl od] w fun e W' =>
    e = .returned (.tuple #[.string (bs (rdoL L kind k vl od).1), .int .i64 (rdoL L kind k vl od).2.1]) ∧ RefPost w B q u (rdoL L kind k vl od).2.2 W' := by
  have hb1 : Below w.heap.size w (w.alloc (Bx kind k vl od)) := (Below.refl _ _).alloc (Nat.le_refl _) _
  have hop := heap_alloc_new w (Bx kind k vl od)
  have hC := rCheck_any kind k vl od (w.alloc (Bx kind k vl od))
  have HQ : Hid (∀ W, Below (w.alloc (Bx kind k vl od)).heap.size (w.alloc (Bx kind k vl od)) W → W.heap[w.heap.size]? = some (Bx kind k vl od) ∧ Below w.heap.size w W) :=
    fun W hb => ⟨(hb.block _ (by simp)).trans hop, hb1.trans (hb.mono hb1.size)⟩
  obtain ⟨c1, c5, ck, cv, co⟩ := chk_zero h0
  have hvl : vl.length ≤ 64 := by simpa [isV] using cv
  have hul : u0.length ≤ 64 := h.val _ (List.mem_of_getElem? hat)
  have hlen := h.len
  have hlt := h.lt
  have hil := (List.getElem?_eq_some_iff.1 hat).1
  rw [h0] at hC
  have HA : Hid (∀ W, Below w.heap.size w W → Calls Tryd.prog 48 #[.pointer (some ⟨B, q, none⟩), .string (bs k)] W fun e W' => e = .returned (.int .i64 (atI L k)) ∧ Below W.heap.size W W') := fun W hb => at_any (h.on hb) k
  rw [hn] at HA
  obtain ⟨ua, uc, rfl⟩ := owns_slice h.rows
  obtain ⟨g, rfl, hg, y1, y2⟩ := h.rs.at hat
  have yf := h.rows.frozenAt (i * 2 + 1)
  have HR : Hid (∀ W, Below w.heap.size w W → RfAt W B q L (.slice (some ⟨g, 0, none⟩) L.length uc) ∧ W.cell? ⟨B, q, none⟩ = some (.slice (some ⟨g, 0, none⟩) L.length uc) ∧ W.cell? ⟨g, i * 2 + 1, none⟩ = some (.string (bs u0)) ∧ W.frozen? ⟨g, i * 2 + 1, none⟩ = false) := fun W hb =>
    ⟨h.on hb, (h.on hb).cell, (hb.cell (p := ⟨g, i * 2 + 1, none⟩) hg).trans y2, (hb.frozen (p := ⟨g, i * 2 + 1, none⟩) hg).trans yf⟩
  have HD : Hid (∀ W, Below w.heap.size w W → RefPost w B q (.slice (some ⟨g, 0, none⟩) L.length uc) L W) := fun W hb => RefPost.same h hb
  have HS : Hid (∀ W v, Below w.heap.size w W → v.length ≤ 64 → RefPost w B q (.slice (some ⟨g, 0, none⟩) L.length uc) (L.set i (k, v)) (W.setCell ⟨g, i * 2 + 1, none⟩ (.string (bs v)))) := fun W v hb hv => RefPost.from hb hlt (ref_set (h.on hb) hat hv)
  have hi0 : (0 : Int) ≤ (i : Int) := by omega
  have hi1 : (i : Int) < (L.length : Int) := by omega
  have hi2 : (i : Int) < 16 := by omega
  rw [rdo_ok h0 hv]
  unfold Bx at hC HQ
  clear hb1 hop h0 hv hn cv co h y1 y2 yf hat
  obtain rfl | rfl | rfl | rfl | rfl : kind = 1 ∨ kind = 2 ∨ kind = 3 ∨ kind = 4 ∨ kind = 5 := by omega
  · have ht : tells (some u0) L.length 1 vl od = (u0, 0) := rfl
    rw [ht, if_pos (.inr rfl)]
    clear ht hp
    go_enter Tryd.func40, Tryd.ntmps40
    go_wp2_with (first
      | (go_at_call 39; refine hC.mono ?_; clear hC; rintro e w2 ⟨rfl, hb⟩; obtain ⟨hq, hB⟩ := HQ.out _ hb; have q1 := cellB hq 1 _ rfl; have hA := HA.out _ hB; clear HA hb)
      | (go_at_call 48; refine hA.mono ?_; clear hA; rintro e w3 ⟨rfl, hb3⟩; have hq3 := (hb3.block _ (Array.getElem?_eq_some_iff.1 hq).1).trans hq; have r0 := cellB hq3 0 _ rfl; have r1 := cellB hq3 1 _ rfl; have r2 := cellB hq3 2 _ rfl; have r3 := cellB hq3 3 _ rfl; have hB3 := hB.trans (hb3.mono hB.size); obtain ⟨hR3, c3, y2, yf⟩ := HR.out _ hB3; have hlq := (Array.getElem?_eq_some_iff.1 hq3).1; clear hb3 hB hq hq3 q1))
    exact bodyPost_ret (v := .tuple #[.string (bs u0), .int .i64 0]) (by simp [results, Tryd.f40, go_sem]) rfl ⟨rfl, HD.out _ hB3⟩
  · have ht : tells (some u0) L.length 2 vl od = (u0, 0) := rfl
    have hnow : now (some u0) 2 vl = vl := rfl
    rw [ht, if_neg (by simp), if_neg (by decide), hnow, hp]
    have hsv : (bs vl).size = vl.length := bs_size vl
    have hvl' : (vl.length : Int) ≤ 64 := by omega
    clear ht hp hnow
    go_enter Tryd.func40, Tryd.ntmps40
    go_wp2_with (first
      | (go_at_call 39; refine hC.mono ?_; clear hC; rintro e w2 ⟨rfl, hb⟩; obtain ⟨hq, hB⟩ := HQ.out _ hb; have q1 := cellB hq 1 _ rfl; have hA := HA.out _ hB; clear HA hb)
      | (go_at_call 48; refine hA.mono ?_; clear hA; rintro e w3 ⟨rfl, hb3⟩; have hq3 := (hb3.block _ (Array.getElem?_eq_some_iff.1 hq).1).trans hq; have r0 := cellB hq3 0 _ rfl; have r1 := cellB hq3 1 _ rfl; have r2 := cellB hq3 2 _ rfl; have r3 := cellB hq3 3 _ rfl; have hB3 := hB.trans (hb3.mono hB.size); obtain ⟨hR3, c3, y2, yf⟩ := HR.out _ hB3; have hlq := (Array.getElem?_eq_some_iff.1 hq3).1; clear hb3 hB hq hq3 q1))
    exact bodyPost_ret (v := .tuple #[.string (bs u0), .int .i64 0]) (by simp [results, Tryd.f40, go_sem]) rfl ⟨rfl, HS.out _ _ hB3 hvl⟩
  · have hsv : (bs vl).size = vl.length := bs_size vl
    have hsu : (bs u0).size = u0.length := bs_size u0
    have happ := bs_app u0 vl
    have hnow : now (some u0) 3 vl = u0 ++ vl := rfl
    have hsn : (bs (u0 ++ vl)).size = (u0 ++ vl).length := bs_size _
    by_cases h64 : 64 < (u0 ++ vl).length
    · have ht : tells (some u0) L.length 3 vl od = ([], 2) := by simp only [tells, if_true, if_pos h64]
      rw [ht, if_pos (.inl (by decide))]
      obtain ⟨N, hN⟩ : ∃ N, u0 ++ vl = N := ⟨_, rfl⟩
      rw [hN] at happ hsn h64
      have hd : (64 : Int) < (N.length : Int) := by omega
      clear ht hp hnow hN h64
      go_enter Tryd.func40, Tryd.ntmps40
      go_wp2_with (first
        | (go_at_call 39; refine hC.mono ?_; clear hC; rintro e w2 ⟨rfl, hb⟩; obtain ⟨hq, hB⟩ := HQ.out _ hb; have q1 := cellB hq 1 _ rfl; have hA := HA.out _ hB; clear HA hb)
        | (go_at_call 48; refine hA.mono ?_; clear hA; rintro e w3 ⟨rfl, hb3⟩; have hq3 := (hb3.block _ (Array.getElem?_eq_some_iff.1 hq).1).trans hq; have r0 := cellB hq3 0 _ rfl; have r1 := cellB hq3 1 _ rfl; have r2 := cellB hq3 2 _ rfl; have r3 := cellB hq3 3 _ rfl; have hB3 := hB.trans (hb3.mono hB.size); obtain ⟨hR3, c3, y2, yf⟩ := HR.out _ hB3; have hlq := (Array.getElem?_eq_some_iff.1 hq3).1; clear hb3 hB hq hq3 q1))
      exact bodyPost_ret (v := .tuple #[.string (bs []), .int .i64 2]) (by simp [results, Tryd.f40, go_sem, bs]) rfl ⟨rfl, HD.out _ hB3⟩
    · have ht : tells (some u0) L.length 3 vl od = (u0 ++ vl, 0) := by simp only [tells, if_true, if_neg h64]
      rw [ht, if_neg (by simp), if_neg (by decide), hnow, hp]
      obtain ⟨N, hN⟩ : ∃ N, u0 ++ vl = N := ⟨_, rfl⟩
      rw [hN] at happ hsn h64
      rw [hN]
      have hd : (N.length : Int) ≤ 64 := by omega
      have hd2 : N.length ≤ 64 := by omega
      clear ht hp hnow hN h64
      go_enter Tryd.func40, Tryd.ntmps40
      go_wp2_with (first
        | (go_at_call 39; refine hC.mono ?_; clear hC; rintro e w2 ⟨rfl, hb⟩; obtain ⟨hq, hB⟩ := HQ.out _ hb; have q1 := cellB hq 1 _ rfl; have hA := HA.out _ hB; clear HA hb)
        | (go_at_call 48; refine hA.mono ?_; clear hA; rintro e w3 ⟨rfl, hb3⟩; have hq3 := (hb3.block _ (Array.getElem?_eq_some_iff.1 hq).1).trans hq; have r0 := cellB hq3 0 _ rfl; have r1 := cellB hq3 1 _ rfl; have r2 := cellB hq3 2 _ rfl; have r3 := cellB hq3 3 _ rfl; have hB3 := hB.trans (hb3.mono hB.size); obtain ⟨hR3, c3, y2, yf⟩ := HR.out _ hB3; have hlq := (Array.getElem?_eq_some_iff.1 hq3).1; clear hb3 hB hq hq3 q1))
      exact bodyPost_ret (v := .tuple #[.string (bs N), .int .i64 0]) (by simp [results, Tryd.f40, go_sem]) rfl ⟨rfl, HS.out _ _ hB3 hd2⟩
  · have ht : tells (some u0) L.length 4 vl od = (u0, 0) := rfl
    rw [ht, if_neg (by simp), if_pos rfl]
    obtain ⟨i0, hi, hz0, hz1, hz2⟩ := info_parts Tryd.info117
    clear ht hp HS HD
    go_enter Tryd.func40, Tryd.ntmps40
    go_wp2_with (first
      | (go_at_call 39; refine hC.mono ?_; clear hC; rintro e w2 ⟨rfl, hb⟩; obtain ⟨hq, hB⟩ := HQ.out _ hb; have q1 := cellB hq 1 _ rfl; have hA := HA.out _ hB; clear HA hb)
      | (go_at_call 48; refine hA.mono ?_; clear hA; rintro e w3 ⟨rfl, hb3⟩; have hq3 := (hb3.block _ (Array.getElem?_eq_some_iff.1 hq).1).trans hq; have r0 := cellB hq3 0 _ rfl; have r1 := cellB hq3 1 _ rfl; have r2 := cellB hq3 2 _ rfl; have r3 := cellB hq3 3 _ rfl; have hB3 := hB.trans (hb3.mono hB.size); obtain ⟨hR3, c3, y2, yf⟩ := HR.out _ hB3; have hlq := (Array.getElem?_eq_some_iff.1 hq3).1; clear hb3 hB hq hq3 q1))
    have hlt3 := hR3.lt
    have HR3 : Hid (RfAt w3 B q L (.slice (some ⟨g, 0, none⟩) L.length uc)) := hR3
    have hRs := hR3.rs
    have hB4 : Below w.heap.size w w3 := hB3
    clear hR3 y2 yf
    go_loopg [12, 124] L.length (fun gk x j wr => ∃ n : Nat, n + gk = L.length ∧ j = .int .i64 n ∧ wr.ownsRow w3.heap.size 117 2 x (rDel (L.take n) k).length (rcs (rDel (L.take n) k)) ∧ Below w3.heap.size w3 wr)
    case atStart => exact ⟨0, by omega, rfl, World.ownsRow_nil _ _ _ _, Below.refl _ _⟩
    case round =>
      obtain ⟨n, hnn, rfl, hown, hBr⟩ := hrel
      obtain ⟨xa, xc, rfl⟩ := owns_slice hown
      by_cases hn1 : n = L.length
      · subst hn1
        rw [List.take_length] at hown ⊢
        have c5 := (hBr.cell (p := ⟨B, q, none⟩) hlt3).trans HR3.out.cell
        have f5 := (hBr.frozen (p := ⟨B, q, none⟩) hlt3).trans HR3.out.fz
        have HE : Hid (RefPost w B q (.slice (some ⟨g, 0, none⟩) L.length uc) (rDel L k) (wr.setCell ⟨B, q, none⟩ (.slice xa (rDel L k).length xc))) := by
          refine RefPost.from hB4 hlt (ref_end HR3.out ⟨hBr.size, hBr.os, hBr.tape, hBr.output⟩ (fun x hx _ => hBr.block x hx) (owns_base0 hown) (fun z hz => .inr (hown.lt z hz).1) (Nat.le_trans (del_le L k) hlen) (fun r hr => HR3.out.val r (List.mem_filter.1 hr).1))
        clear hown hBr
        go_wp2
        exact bodyPost_ret (v := .tuple #[.string (bs u0), .int .i64 0]) (by simp [results, Tryd.f40, go_sem]) rfl ⟨rfl, HE.out⟩
      · have hn2 : n < L.length := by omega
        obtain ⟨r, hr⟩ : ∃ r, L[n]? = some r := ⟨_, List.getElem?_eq_getElem hn2⟩
        obtain ⟨g', e', hg', d1, d2⟩ := (hRs.on hBr).at hr
        cases e'
        have hdt := del_take hr k
        have hle := del_le (L.take n) k
        have hlt' : (L.take n).length = n := by rw [List.length_take, Nat.min_eq_left (by omega)]
        have p1 := (hBr.cell (p := ⟨w.heap.size, 1, none⟩) hlq).trans r1
        have hlqr : w.heap.size < wr.heap.size := Nat.lt_of_lt_of_le hlq hBr.size
        obtain ⟨D, hD⟩ : ∃ D, rDel (L.take n) k = D := ⟨_, rfl⟩
        rw [hD] at hown hdt hle
        rw [hD]
        by_cases e : r.1 = k
        · rw [if_pos e] at hdt
          have hs : ((bs r.1).toList == (bs k).toList) = true := by rw [e]; simp
          have HDT : Hid (_) := hdt
          have hBx := hBr.alloc hBr.size (.cells #[.string (bs r.1), .string (bs r.2)] 117)
          have HBX : Hid (_) := hBx
          have HOX : Hid ((wr.alloc (.cells #[.string (bs r.1), .string (bs r.2)] 117)).ownsRow w3.heap.size 117 2 (.slice xa D.length xc) D.length (rcs D)) := hown.alloc _
          clear hr hD hdt e hBx hown hBr
          go_wp2
          go_roundg (L.length - (n + 1))
          case measure => omega
          case rel => exact ⟨n + 1, by omega, by go_num, by rw [HDT.out]; exact HOX.out, HBX.out⟩
        · rw [if_neg e] at hdt
          have hs := str_other e
          have HDT : Hid (_) := hdt
          have hsz := hBr.size
          have hBx := (hBr.alloc hBr.size (.cells #[.string (bs r.1), .string (bs r.2)] 117)).alloc (by simp; omega) (.cells #[.string (bs r.1), .string (bs r.2)] 117)
          have HBX : Hid (Below w3.heap.size w3 ((wr.alloc (.cells #[.string (bs r.1), .string (bs r.2)] 117)).alloc (.cells #[.string (bs r.1), .string (bs r.2)] 117))) := hBx
          have hml : D.length + 1 ≤ maxLen := by unfold maxLen; omega
          have hkb : (D.length + 1) * 32 ≤ 140737488355328 := by omega
          obtain ⟨X, hX⟩ : ∃ X, rcs D = X := ⟨_, rfl⟩
          rw [hX] at hown
          have HX : Hid (rcs (D ++ [r]) = X ++ [.string (bs r.1), .string (bs r.2)]) := by
            show _ = _
            rw [rcs_append, hX]
            rfl
          clear hr hD hdt e hBx hBr hX
          go_wp2_with (at_builtin; refine wpList_append_own _ rfl _ _ 90 rfl w3.heap.size 117 i0 (.agg #[.string ⟨#[]⟩, .string ⟨#[]⟩]) 2 32 Tryd.underlying90 hi hz0 hz1 hz2 rfl (by decide) (.slice xa D.length xc) D.length X rfl ((hown.alloc _).alloc _) _ 1 1 [.string (bs r.1), .string (bs r.2)] rfl rfl (World.news_of_block (heap_alloc2_new _ _ _)) (by simp [Value.oneCell']) hml hkb (by simp; omega) ?_; intro v' w' g1 g2 _)
          have hB7 := HBX.out.grown g2 (by simp; omega) (fun z hz => (hown.lt z hz).1)
          go_roundg (L.length - (n + 1))
          case measure => omega
          case rel => exact ⟨n + 1, by omega, by go_num, by rw [HDT.out, HX.out, List.length_append]; exact g1, hB7⟩
  · by_cases hne : u0 = od
    · have ht : tells (some u0) L.length 5 vl od = (u0, 0) := by simp [tells, hne]
      have hnow : now (some u0) 5 vl = vl := rfl
      have hs := str_same u0
      subst hne
      rw [ht, if_neg (by simp), if_neg (by decide), hnow, hp]
      clear ht hp hnow
      go_enter Tryd.func40, Tryd.ntmps40
      go_upto_region 28 with (first
        | (go_at_call 39; refine hC.mono ?_; clear hC; rintro e w2 ⟨rfl, hb⟩; obtain ⟨hq, hB⟩ := HQ.out _ hb; have q1 := cellB hq 1 _ rfl; have hA := HA.out _ hB; clear HA hb)
        | (go_at_call 48; refine hA.mono ?_; clear hA; rintro e w3 ⟨rfl, hb3⟩; have hq3 := (hb3.block _ (Array.getElem?_eq_some_iff.1 hq).1).trans hq; have r0 := cellB hq3 0 _ rfl; have r1 := cellB hq3 1 _ rfl; have r2 := cellB hq3 2 _ rfl; have r3 := cellB hq3 3 _ rfl; have hB3 := hB.trans (hb3.mono hB.size); obtain ⟨hR3, c3, y2, yf⟩ := HR.out _ hB3; have hlq := (Array.getElem?_eq_some_iff.1 hq3).1; clear hb3 hB hq hq3 q1))
      have HE : Hid (_) := HS.out _ vl hB3 hvl
      have HB3 : Hid (_) := hB3
      clear hB3 HS HD hR3
      go_region
      all_goals
        go_wp2
        first
          | exact bodyPost_ret (v := .tuple #[.string (bs u0), .int .i64 0]) (by simp [results, Tryd.f40, go_sem]) rfl ⟨rfl, RefPost.drew HE.out⟩
          | exact bodyPost_ret (v := .tuple #[.string (bs u0), .int .i64 0]) (by simp [results, Tryd.f40, go_sem]) rfl ⟨rfl, HE.out⟩
    · have ht : tells (some u0) L.length 5 vl od = ([], 7) := by simp [tells, hne]
      have hs := str_other hne
      rw [ht, if_pos (.inl (by decide))]
      clear ht hp hne
      go_enter Tryd.func40, Tryd.ntmps40
      go_wp2_with (first
        | (go_at_call 39; refine hC.mono ?_; clear hC; rintro e w2 ⟨rfl, hb⟩; obtain ⟨hq, hB⟩ := HQ.out _ hb; have q1 := cellB hq 1 _ rfl; have hA := HA.out _ hB; clear HA hb)
        | (go_at_call 48; refine hA.mono ?_; clear hA; rintro e w3 ⟨rfl, hb3⟩; have hq3 := (hb3.block _ (Array.getElem?_eq_some_iff.1 hq).1).trans hq; have r0 := cellB hq3 0 _ rfl; have r1 := cellB hq3 1 _ rfl; have r2 := cellB hq3 2 _ rfl; have r3 := cellB hq3 3 _ rfl; have hB3 := hB.trans (hb3.mono hB.size); obtain ⟨hR3, c3, y2, yf⟩ := HR.out _ hB3; have hlq := (Array.getElem?_eq_some_iff.1 hq3).1; clear hb3 hB hq hq3 q1))
      exact bodyPost_ret (v := .tuple #[.string (bs []), .int .i64 7]) (by simp [results, Tryd.f40, go_sem, bs]) rfl ⟨rfl, HD.out _ hB3⟩
theorem rDo_any {w : World} {B q : Nat} {L : List Rw} {u : Value} (h : RfAt w B q L u) (kind : Int) (k vl od : List UInt8) : Calls Tryd.prog 40 #[.pointer (some ⟨B, q, none⟩), opV kind k vl od] w fun e W' =>
    e = .returned (.tuple #[.string (bs (rdoL L kind k vl od).1), .int .i64 (rdoL L kind k vl od).2.1]) ∧ RefPost w B q u (rdoL L kind k vl od).2.2 W' := by
  by_cases h0 : chk kind k vl od = 0
  · rcases at_cases L k with ⟨a1, a2, a3⟩ | ⟨i, u0, a1, a2, a3, a4⟩
    · exact rDo_none h kind k vl od h0 a1 a2 a3
    · exact rDo_some h kind k vl od h0 a1 a2 a3 a4
  · rw [rdo_bad h0]
    exact rDo_bad h kind k vl od h0
end Go.Proofs.YtihilkdokfdoeaaDoor
