/- slices.Delete of one request, and remove, walked. -/
import Derived.Test.YtngoodidajbhcaaDoorBtC
import Derived.Lib.SliceRun
namespace Go.Proofs.YtngoodidajbhcaaDoor.Bat
open Go.RowKit
attribute [local go_sem ↓] Go.wp_at_zero Go.wp_at_succ

/-- clear of a slice of one request. -/
theorem run_clear_one (w : World) (ty : TypeId) (b o c : Nat) (hc : ∀ j, j < 3 → (w.cell? ⟨b, o + j, none⟩).isSome = true) (hf : ∀ j, j < 3 → w.frozen? ⟨b, o + j, none⟩ = false) :
    (Builtin.clear_ #[22] ty #[.slice (some ⟨b, o, none⟩) 1 c]).run Tryd.prog w = .ok (.tuple #[]) (w.setCells b o [.int .i64 0, .int .i64 0, .string ⟨#[]⟩]) := by
  have hst := run_storeCells_cells (P := Tryd.prog) b o [.int .i64 0, .int .i64 0, .string ⟨#[]⟩] 0 w (by simpa using hc) (by simpa using hf) (by intro v hv; simp at hv; rcases hv with rfl | rfl <;> rfl)
  simp only [Nat.add_zero] at hst
  have hz : (Builtin.zeroCells (Value.agg #[.int .i64 0, .int .i64 0, .string ⟨#[]⟩]).cells 1).toList = [.int .i64 0, .int .i64 0, .string ⟨#[]⟩] := by kernel_rfl
  simp [Builtin.clear_, run_underlying Tryd.underlying22, Tryd.zeroValue26, hz, hst]
theorem setCells_far {b k : Nat} (h : k ≠ b) : ∀ (vs : List Value) (o : Nat) (w : World), (w.setCells b o vs).heap[k]? = w.heap[k]?
  | [], _, _ => rfl
  | v :: r, o, w => (setCells_far h r (o + 1) (w.setCell ⟨b, o, none⟩ v)).trans (set_far h o v)
theorem setCells_blk (b : Nat) (t : TypeId) : ∀ (vs : List Value) (o : Nat) (w : World) (cur : Array Value), w.heap[b]? = some (.cells cur t) → o + vs.length ≤ cur.size →
    ∃ cur' : Array Value, (w.setCells b o vs).heap[b]? = some (.cells cur' t) ∧ cur'.size = cur.size ∧ (∀ j, (j < o ∨ o + vs.length ≤ j) → cur'[j]? = cur[j]?) ∧ ∀ j u, vs[j]? = some u → cur'[o + j]? = some u
  | [], o, w, cur, h, _ => ⟨cur, h, rfl, fun _ _ => rfl, fun j u hu => by cases hu⟩
  | v :: r, o, w, cur, h, hl => by
    simp only [List.length_cons] at hl
    obtain ⟨cur', h1, h2, h3, h4⟩ := setCells_blk b t r (o + 1) (w.setCell ⟨b, o, none⟩ v) _ (setB h o v) (by rw [Array.size_setIfInBounds]; omega)
    refine ⟨cur', h1, by rw [h2, Array.size_setIfInBounds], fun j hj => ?_, fun j u hu => ?_⟩
    · simp only [List.length_cons] at hj
      rw [h3 j (by omega), Array.getElem?_setIfInBounds_ne (by omega)]
    · cases j with
      | zero =>
        simp at hu; subst hu
        rw [Nat.add_zero, h3 o (by omega), Array.getElem?_setIfInBounds_self]
        have : o < cur.size := by omega
        simp [this]
      | succ j =>
        simp at hu
        have := h4 j u hu
        rw [show o + (j + 1) = o + 1 + j by omega]
        exact this
theorem setCells_same (b : Nat) : ∀ (vs : List Value) (o : Nat) (w : World), (w.setCells b o vs).os = w.os ∧ (w.setCells b o vs).tape = w.tape ∧ (w.setCells b o vs).output = w.output ∧ (w.setCells b o vs).heap.size = w.heap.size
  | [], _, _ => ⟨rfl, rfl, rfl, rfl⟩
  | v :: r, o, w => by
    obtain ⟨h1, h2, h3, h4⟩ := setCells_same b r (o + 1) (w.setCell ⟨b, o, none⟩ v)
    exact ⟨h1, h2, h3, h4.trans (by simp [World.setCell])⟩
theorem setCells_cell {w : World} {b o j : Nat} (vs : List Value) (h : (w.cell? ⟨b, j, none⟩).isSome = true) (hf : w.frozen? ⟨b, j, none⟩ = false) : ((w.setCells b o vs).cell? ⟨b, j, none⟩).isSome = true ∧ (w.setCells b o vs).frozen? ⟨b, j, none⟩ = false := by
  induction vs generalizing o w with
  | nil => exact ⟨h, hf⟩
  | cons v r ih =>
    refine ih ?_ ?_
    · cases hh : w.heap[b]? with
      | none => simp [World.cell?, hh] at h
      | some ob =>
        cases ob with
        | cells cs t fr =>
          have := setB hh o v
          unfold World.cell? at h ⊢
          simp only [this]
          simp only [hh] at h
          have hj : j < cs.size := by
            rcases Nat.lt_or_ge j cs.size with h' | h'
            · exact h'
            · simp [Array.getElem?_eq_none h'] at h
          simp [hj]
        | _ => simp [World.cell?, hh] at h
    · cases hh : w.heap[b]? with
      | none => simp [World.cell?, hh] at h
      | some ob =>
        cases ob with
        | cells cs t fr =>
          have := setB hh o v
          unfold World.frozen? at hf ⊢
          simp only [this]
          simp only [hh] at hf
          exact hf
        | _ => simp [World.cell?, hh] at h
set_option maxRecDepth 100000 in
set_option maxHeartbeats 4000000 in
theorem Delete_raw (w : World) (g off cap n k : Nat) (xs : List Value) (hk : k < n) (hcap : n ≤ cap) (hxs : xs.length = n * 3) (h1 : ∀ u ∈ xs, u.oneCell' = true)
    (hH : ∀ j, j < n * 3 → w.cell? ⟨g, off + j, none⟩ = xs[j]? ∧ w.frozen? ⟨g, off + j, none⟩ = false) :
    Calls Tryd.prog 35 #[.slice (some ⟨g, off, none⟩) n cap, .int .i64 k, .int .i64 (k + 1 : Nat)] w fun e W' => e = .returned (.slice (some ⟨g, off, none⟩) (k + (n - (k + 1))) cap) ∧
      W' = (w.drew.setCells g (off + k * 3) (xs.drop ((k + 1) * 3))).setCells g (off + (k + (n - (k + 1))) * 3) [.int .i64 0, .int .i64 0, .string ⟨#[]⟩] := by
  obtain ⟨i0, hi0, hz0, hz1, hz2⟩ := info_parts (show (Tryd.prog.info? 26).map (fun i => (i.zero, i.size, i.bytes)) = some (some (.agg #[.int .i64 0, .int .i64 0, .string ⟨#[]⟩]), 3, 32) by kernel_rfl)
  have hsome : ∀ j, j < n * 3 → (w.cell? ⟨g, off + j, none⟩).isSome = true := fun j hj => by
    rw [(hH j hj).1, List.getElem?_eq_getElem (by omega)]; rfl
  obtain ⟨j, hj⟩ : ∃ j, k + 1 = j := ⟨_, rfl⟩
  rw [hj]
  obtain ⟨news, hnews⟩ : ∃ news, news = xs.drop (j * 3) := ⟨_, rfl⟩
  rw [← hnews]
  have hlen : news.length = (n - j) * 3 := by rw [hnews, List.length_drop, hxs]; omega
  obtain ⟨A, hA, hsrc⟩ : ∃ A : Addr, (if cap = j then some (⟨g, off, none⟩ : Addr) else some ⟨g, off + j * 3, none⟩) = some A ∧ Hid (∀ t u, news[t]? = some u → w.drew.cell? (A.add t) = some u) := by
    by_cases h : cap = j
    · refine ⟨⟨g, off, none⟩, by simp [h], fun t u hu => ?_⟩
      have h0 : news.length = 0 := by rw [hlen]; omega
      rw [List.length_eq_zero_iff.1 h0] at hu
      simp at hu
    · refine ⟨⟨g, off + j * 3, none⟩, by simp [h], fun t u hu => ?_⟩
      have ht : t < (n - j) * 3 := by
        have := (List.getElem?_eq_some_iff.1 hu).1
        rwa [hlen] at this
      rw [hnews, List.getElem?_drop] at hu
      rw [Addr.add_lit, show off + j * 3 + t = off + (j * 3 + t) by omega]
      exact (hH (j * 3 + t) (by omega)).1.trans hu
  have s1 : Hid (news.length = (n - j) * 3) := hlen
  have s2 : Hid (∀ u ∈ news, u.oneCell' = true) := fun u hu => h1 u (by rw [hnews] at hu; exact List.mem_of_mem_drop hu)
  have s3 : Hid (∀ t, t < news.length → (w.drew.cell? ⟨g, off + k * 3 + t, none⟩).isSome = true ∧ w.drew.frozen? ⟨g, off + k * 3 + t, none⟩ = false) := by
    intro t ht
    rw [hlen] at ht
    rw [Nat.add_assoc]
    exact ⟨hsome (k * 3 + t) (by omega), (hH (k * 3 + t) (by omega)).2⟩
  obtain ⟨W1, hW1⟩ : ∃ W1, W1 = w.drew.setCells g (off + k * 3) news := ⟨_, rfl⟩
  have hone : n - (k + (n - j)) = 1 := by omega
  have hcl : ∀ ty, (Builtin.clear_ #[22] ty #[.slice (some ⟨g, off + (k + (n - j)) * 3, none⟩) (n - (k + (n - j))) (cap - (k + (n - j)))]).run Tryd.prog W1 = .ok (.tuple #[]) (W1.setCells g (off + (k + (n - j)) * 3) [.int .i64 0, .int .i64 0, .string ⟨#[]⟩]) := by
    intro ty
    rw [hone]
    have hh : ∀ t, t < 3 → (W1.cell? ⟨g, off + (k + (n - j)) * 3 + t, none⟩).isSome = true ∧ W1.frozen? ⟨g, off + (k + (n - j)) * 3 + t, none⟩ = false := by
      intro t ht
      rw [hW1, Nat.add_assoc]
      have hb : (k + (n - j)) * 3 + t < n * 3 := by omega
      exact setCells_cell news (w := w.drew) (hsome _ hb) (hH _ hb).2
    exact run_clear_one W1 ty g _ _ (fun t ht => (hh t ht).1) (fun t ht => (hh t ht).2)
  rw [← hW1]
  have hW : Hid (W1 = w.drew.setCells g (off + k * 3) news) := hW1
  have hic : k ≤ cap := by omega
  have hjc : j ≤ cap := by omega
  have hkj : k < j := by omega
  have hjn : j ≤ n := by omega
  clear hW1 hH hnews hlen hsome hxs h1 hone hj
  go_enter Tryd.func35, Tryd.ntmps35
  go_wp2_with fail
  go_region_law (refine step_append_room rfl (.tmp 22) (.tmp 25) 22 rfl 26 i0 3 Tryd.underlying22 hi0 hz1 g off k cap (by simp [Act.eval, Act.put]) A (n - j) (cap - j) news (by simp [Act.eval, Act.put]) s1.out hsrc.out s2.out (by omega) s3.out ?_; rw [← hW.out])
  go_wp2
  go_ret
  exact ⟨rfl, rfl⟩
theorem owns_parts {w : World} {base g n cap : Nat} {E : TypeId} {s : Nat} {xs : List Value} (h : w.ownsRow base E s (.slice (some ⟨g, 0, none⟩) n cap) n xs) :
    ∃ cur : Array Value, base ≤ g ∧ w.heap[g]? = some (.cells cur E (0, 0)) ∧ n ≤ cap ∧ cap ≤ maxLen ∧ cur.size = cap * s ∧ cur.toList.take (n * s) = xs ∧ xs.length = n * s := by
  obtain ⟨hl, h | ⟨g', cap', cur, hv, h2, h3, h4, h5, h6, h7⟩⟩ := h
  · cases h.1
  · injection hv with h1 _ h8
    injection h1 with h1
    injection h1 with h1 _ _
    subst h1 h8
    exact ⟨cur, h2, h3, h4, h5, h6, h7, hl⟩
theorem rcs_erase (l : List Rq) (k : Nat) : rcs (l.eraseIdx k) = (rcs l).take (k * 3) ++ (rcs l).drop ((k + 1) * 3) := by
  rw [List.eraseIdx_eq_take_drop_succ, rcs_append, rcs_take, rcs_drop]
theorem Delete_any {base g cap : Nat} {w : World} {l : List Rq} (hl : w.ownsRow base 26 3 (.slice (some ⟨g, 0, none⟩) l.length cap) l.length (rcs l)) {k : Nat} (hk : k < l.length) :
    Calls Tryd.prog 35 #[.slice (some ⟨g, 0, none⟩) l.length cap, .int .i64 k, .int .i64 (k + 1 : Nat)] w fun e W' => e = .returned (.slice (some ⟨g, 0, none⟩) (l.eraseIdx k).length cap) ∧ W'.ownsRow base 26 3 (.slice (some ⟨g, 0, none⟩) (l.eraseIdx k).length cap) (l.eraseIdx k).length (rcs (l.eraseIdx k)) ∧
      (∀ q, q ≠ g → W'.heap[q]? = w.heap[q]?) ∧ W'.os = w.os ∧ W'.tape = w.tape ∧ W'.output = w.output ∧ W'.heap.size = w.heap.size := by
  obtain ⟨cur, hb, hg, hc1, hc2, hc3, hc4, hc5⟩ := owns_parts hl
  have hraw := Delete_raw w g 0 cap l.length k (rcs l) hk hc1 (rcs_len l) (rcs_one l) (fun j hj => ⟨by
    rw [Nat.zero_add]; exact hl.cellAt j hj, frozenB hg _⟩)
  refine hraw.mono ?_
  rintro e W' ⟨rfl, rfl⟩
  have hel : (l.eraseIdx k).length = k + (l.length - (k + 1)) := by rw [List.length_eraseIdx_of_lt hk]; omega
  have hdl : ((rcs l).drop ((k + 1) * 3)).length = (l.length - (k + 1)) * 3 := by rw [List.length_drop, rcs_len]; omega
  obtain ⟨c1, g1, z1, o1, n1⟩ := setCells_blk g 26 ((rcs l).drop ((k + 1) * 3)) (0 + k * 3) w.drew cur hg (by rw [hdl, hc3]; omega)
  obtain ⟨c2, g2, z2, o2, n2⟩ := setCells_blk g 26 [.int .i64 0, .int .i64 0, .string ⟨#[]⟩] (0 + (k + (l.length - (k + 1))) * 3) _ c1 g1 (by rw [z1, hc3]; simp; omega)
  rw [hel]
  refine ⟨rfl, ⟨by rw [rcs_len, hel], .inr ⟨g, cap, c2, rfl, hb, g2, by omega, hc2, by rw [z2, z1, hc3], ?_⟩⟩, ?_, ?_⟩
  · apply List.ext_getElem?
    intro j
    by_cases hj : j < (k + (l.length - (k + 1))) * 3
    · rw [List.getElem?_take, if_pos hj, Array.getElem?_toList, o2 j (by omega), rcs_erase]
      have hkl : ((rcs l).take (k * 3)).length = k * 3 := by rw [List.length_take, rcs_len]; omega
      by_cases hj2 : j < k * 3
      · rw [o1 j (by omega), List.getElem?_append_left (by omega), List.getElem?_take, if_pos hj2, ← hc4, List.getElem?_take, if_pos (by omega), Array.getElem?_toList]
      · rw [List.getElem?_append_right (by omega), hkl]
        obtain ⟨u, hu⟩ : ∃ u, ((rcs l).drop ((k + 1) * 3))[j - k * 3]? = some u := ⟨_, List.getElem?_eq_getElem (by omega)⟩
        have := n1 _ u hu
        rw [show 0 + k * 3 + (j - k * 3) = j by omega] at this
        rw [this, hu]
    · rw [List.getElem?_take, if_neg hj, List.getElem?_eq_none (by rw [rcs_len, hel]; omega)]
  · intro q hq
    rw [setCells_far hq, setCells_far hq]
    rfl
  · obtain ⟨a1, a2, a3, a4⟩ := setCells_same g ((rcs l).drop ((k + 1) * 3)) (0 + k * 3) w.drew
    obtain ⟨b1, b2, b3, b4⟩ := setCells_same g [.int .i64 0, .int .i64 0, .string ⟨#[]⟩] (0 + (k + (l.length - (k + 1))) * 3) (w.drew.setCells g (0 + k * 3) ((rcs l).drop ((k + 1) * 3)))
    exact ⟨b1.trans a1, b2.trans a2, b3.trans a3, b4.trans a4⟩
theorem remove_neg (p : Option Addr) (w : World) : Calls Tryd.prog 23 #[.pointer p, .int .i64 (-1)] w fun e W' => e = .returned (.bool false) ∧ W' = w := by
  go_enter Tryd.func23, Tryd.ntmps23
  go_wp2
  go_ret
  exact ⟨rfl, rfl⟩
set_option maxRecDepth 20000 in
set_option maxHeartbeats 2000000 in
theorem remove_any {base : Nat} {w : World} {B : Nat} {v : Value} {l : List Rq} {D : Nat → Int} (h : PoolAt base w B v l D) (hlen : l.length ≤ 1000) {k : Nat} (hk : k < l.length) :
    Calls Tryd.prog 23 #[.pointer (some ⟨B, 0, none⟩), .int .i64 k] w fun e W' => e = .returned (.bool true) ∧ ∃ v', PoolAt base W' B v' (l.eraseIdx k) D ∧ Moved B v v' w W' := by
  obtain ⟨g, cap, rfl, hg1, hg2⟩ := h.own.form (by omega)
  have hgB : g ≠ B := fun e => h.ne (by rw [← e]; rfl)
  have hD := Delete_any h.own hk
  obtain ⟨c0, f0⟩ := h.c0
  have k0 : (0 : Int) ≤ (k : Int) := by omega
  have k1 : (k : Int) ≤ 1000 := by omega
  have hk1 : ((k + 1 : Nat) : Int) = (k : Int) + 1 := by omega
  rw [hk1] at hD
  have HX : Hid (_ ∧ _) := ⟨h, hgB⟩
  clear hk1 h hgB
  go_enter Tryd.func23, Tryd.ntmps23
  go_wp2_with (first | (go_at_call 35; refine hD.mono ?_; rintro e w1 ⟨rfl, ho1, hfar, hos, htp, hout, hsz⟩; have rB := hfar B (fun e => HX.out.2 e.symm); have hblk := HX.out.1.blk; rw [← rB] at hblk; obtain ⟨cs, q1, q2, q3⟩ := hblk; have c1 := cellB q1 0 _ q2; have f1 := frozenB q1 0))
  go_ret
  have h := HX.out.1
  have hgB := HX.out.2
  refine ⟨rfl, _, ⟨blk_set0 ⟨cs, q1, q2, q3⟩ _, owns_kept ho1 (fun q hq => set_far (fun e => hgB (by rw [← e]; exact Option.some.inj hq)) _ _), fun e => hgB (Option.some.inj e), h.base⟩, ?_⟩
  refine ⟨hos, htp, hout, by simp only [World.setCell, Array.size_modify]; omega, fun q hq h1 h2 => (set_far h1 _ _).trans (hfar q (fun e => h2 (by rw [e]; rfl))), fun q hq => .inl hq⟩
end Go.Proofs.YtngoodidajbhcaaDoor.Bat
