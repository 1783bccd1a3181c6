import Derived.Test.YtihilkdokfdoeaaDoorBkJ
namespace Go.Proofs.YtihilkdokfdoeaaDoor
open Go.RowKit
attribute [local go_sem ↓] Go.wp_at_zero Go.wp_at_succ

set_option maxHeartbeats 400000 in
theorem right16 (x : Int) (w : World) (h : Wd x) :
    Calls Tryd.prog 67 #[.int .i64 x, .int .i64 16] w fun e w' => e = .returned (.int .i64 (rot16 x)) ∧ w' = w.drew := by
  have HE : Hid (rot16 x = x / 65536 + x % 65536 * 65536) := rot16_eq x h
  obtain ⟨h0, h1⟩ := h
  go_enter Tryd.func67, Tryd.ntmps67
  go_wp2
  go_region
  go_wp2
  go_ret
  rw [HE.out]
  exact ⟨rfl, rfl⟩
set_option maxHeartbeats 400000 in
theorem right12 (x : Int) (w : World) (h : Wd x) :
    Calls Tryd.prog 67 #[.int .i64 x, .int .i64 12] w fun e w' => e = .returned (.int .i64 (rot12 x)) ∧ w' = w.drew := by
  have HE : Hid (rot12 x = x / 4096 + x % 4096 * 1048576) := rot12_eq x h
  obtain ⟨h0, h1⟩ := h
  go_enter Tryd.func67, Tryd.ntmps67
  go_wp2
  go_region
  go_wp2
  go_ret
  rw [HE.out]
  exact ⟨rfl, rfl⟩
set_option maxHeartbeats 400000 in
theorem right8 (x : Int) (w : World) (h : Wd x) :
    Calls Tryd.prog 67 #[.int .i64 x, .int .i64 8] w fun e w' => e = .returned (.int .i64 (rot8 x)) ∧ w' = w.drew := by
  have HE : Hid (rot8 x = x / 256 + x % 256 * 16777216) := rot8_eq x h
  obtain ⟨h0, h1⟩ := h
  go_enter Tryd.func67, Tryd.ntmps67
  go_wp2
  go_region
  go_wp2
  go_ret
  rw [HE.out]
  exact ⟨rfl, rfl⟩
set_option maxHeartbeats 400000 in
theorem right7 (x : Int) (w : World) (h : Wd x) :
    Calls Tryd.prog 67 #[.int .i64 x, .int .i64 7] w fun e w' => e = .returned (.int .i64 (rot7 x)) ∧ w' = w.drew := by
  have HE : Hid (rot7 x = x / 128 + x % 128 * 33554432) := rot7_eq x h
  obtain ⟨h0, h1⟩ := h
  go_enter Tryd.func67, Tryd.ntmps67
  go_wp2
  go_region
  go_wp2
  go_ret
  rw [HE.out]
  exact ⟨rfl, rfl⟩

set_option maxHeartbeats 1000000 in
theorem g_any (a b c d x y : Int) (w : World) (ha : Wd a) (hb : Wd b) (hc : Wd c) (hd : Wd d) (hx : Wd x) (hy : Wd y)
    (a1 d1 c1 b1 a2 d2 c2 b2 : Int) (e1 : a1 = (a + (b + x)) % 4294967296) (e2 : d1 = rot16 (bits .xor .u32 d a1)) (e3 : c1 = (c + d1) % 4294967296) (e4 : b1 = rot12 (bits .xor .u32 b c1))
    (e5 : a2 = (a1 + (b1 + y)) % 4294967296) (e6 : d2 = rot8 (bits .xor .u32 d1 a2)) (e7 : c2 = (c1 + d2) % 4294967296) (e8 : b2 = rot7 (bits .xor .u32 b1 c2)) :
    Calls Tryd.prog 60 #[.agg #[.int .i64 a, .int .i64 b, .int .i64 c, .int .i64 d], .int .i64 x, .int .i64 y] w fun e w' => e = .returned (.agg #[.int .i64 a2, .int .i64 b2, .int .i64 c2, .int .i64 d2]) ∧ Below w.heap.size w w' := by
  have wa1 : Wd a1 := e1 ▸ mod_wd _
  have wd1 : Wd d1 := e2 ▸ rot16_wd _ (xor_wd _ _ hd wa1)
  have wc1 : Wd c1 := e3 ▸ mod_wd _
  have wb1 : Wd b1 := e4 ▸ rot12_wd _ (xor_wd _ _ hb wc1)
  have wa2 : Wd a2 := e5 ▸ mod_wd _
  have wd2 : Wd d2 := e6 ▸ rot8_wd _ (xor_wd _ _ wd1 wa2)
  have wc2 : Wd c2 := e7 ▸ mod_wd _
  have E1 : Hid (a1 = (a + (b + x)) % 4294967296) := e1
  have E2 : Hid (d1 = rot16 (bits .xor .u32 d a1)) := e2
  have E3 : Hid (c1 = (c + d1) % 4294967296) := e3
  have E4 : Hid (b1 = rot12 (bits .xor .u32 b c1)) := e4
  have E5 : Hid (a2 = (a1 + (b1 + y)) % 4294967296) := e5
  have E6 : Hid (d2 = rot8 (bits .xor .u32 d1 a2)) := e6
  have E7 : Hid (c2 = (c1 + d2) % 4294967296) := e7
  have E8 : Hid (b2 = rot7 (bits .xor .u32 b1 c2)) := e8
  have HX1 : Hid (bits .xor .i64 d a1 = bits .xor .u32 d a1) := xor64 d a1 hd wa1
  have HX2 : Hid (bits .xor .i64 b c1 = bits .xor .u32 b c1) := xor64 _ _ hb wc1
  have HX3 : Hid (bits .xor .i64 d1 a2 = bits .xor .u32 d1 a2) := xor64 _ _ wd1 wa2
  have HX4 : Hid (bits .xor .i64 b1 c2 = bits .xor .u32 b1 c2) := xor64 _ _ wb1 wc2
  have HW1 : Hid (Wd (bits .xor .u32 d a1)) := xor_wd _ _ hd wa1
  have HW2 : Hid (Wd (bits .xor .u32 b c1)) := xor_wd _ _ hb wc1
  have HW3 : Hid (Wd (bits .xor .u32 d1 a2)) := xor_wd _ _ wd1 wa2
  have HW4 : Hid (Wd (bits .xor .u32 b1 c2)) := xor_wd _ _ wb1 wc2
  clear e1 e2 e3 e4 e5 e6 e7 e8
  obtain ⟨ha0, ha9⟩ := ha; obtain ⟨hb0, hb9⟩ := hb; obtain ⟨hc0, hc9⟩ := hc; obtain ⟨hd0, hd9⟩ := hd; obtain ⟨hx0, hx9⟩ := hx; obtain ⟨hy0, hy9⟩ := hy
  obtain ⟨a10, a19⟩ := wa1; obtain ⟨d10, d19⟩ := wd1; obtain ⟨c10, c19⟩ := wc1; obtain ⟨b10, b19⟩ := wb1
  obtain ⟨a20, a29⟩ := wa2; obtain ⟨d20, d29⟩ := wd2; obtain ⟨c20, c29⟩ := wc2
  go_enter Tryd.func60, Tryd.ntmps60
  go_wp2_with fail
  rw [show (a + b + x) % 4294967296 = a1 from by rw [E1.out, Int.add_assoc], HX1.out]
  refine (right16 _ _ HW1.out).mono ?_
  rintro e w1 ⟨rfl, rfl⟩
  rw [← E2.out]
  go_wp2_with fail
  rw [← E3.out, HX2.out]
  refine (right12 _ _ HW2.out).mono ?_
  rintro e w1 ⟨rfl, rfl⟩
  rw [← E4.out]
  go_wp2_with fail
  rw [show (a1 + b1 + y) % 4294967296 = a2 from by rw [E5.out, Int.add_assoc], HX3.out]
  refine (right8 _ _ HW3.out).mono ?_
  rintro e w1 ⟨rfl, rfl⟩
  rw [← E6.out]
  go_wp2_with fail
  rw [← E7.out, HX4.out]
  refine (right7 _ _ HW4.out).mono ?_
  rintro e w1 ⟨rfl, rfl⟩
  rw [← E8.out]
  go_wp2
  exact bodyPost_ret (v := .agg #[.int .i64 a2, .int .i64 b2, .int .i64 c2, .int .i64 d2]) (by simp [results, Tryd.results60, go_sem]) rfl ⟨rfl, ((((((Below.refl _ w).alloc (Nat.le_refl _) _).alloc (by simp) _).drew).drew).drew).drew⟩

def Wds (v : List Int) : Prop := ∀ i : Int, Wd (gv v i)
theorem Wds.put {v : List Int} (h : Wds v) (i x : Int) (hx : Wd x) : Wds (pv v i x) := by
  intro j
  unfold gv pv
  simp only [List.getD_eq_getElem?_getD, List.getElem?_set]
  split
  · split
    · exact hx
    · exact ⟨by decide, by decide⟩
  · exact h j
theorem Wds.mix1 {v : List Int} (h : Wds v) (a b x : Int) : Wds (mix1 v a b x) := h.put _ _ (mod_wd _)
theorem Wds.mix3 {v : List Int} (h : Wds v) (c d : Int) : Wds (mix3 v c d) := h.put _ _ (mod_wd _)
theorem Wds.mix2 {v : List Int} (h : Wds v) (d a : Int) (r : Int → Int) (hr : ∀ x, Wd x → Wd (r x)) : Wds (mix2 v d a r) := h.put _ _ (hr _ (xor_wd _ _ (h _) (h _)))
theorem Wds.mixL {v : List Int} (h : Wds v) (a b c d x y : Int) : Wds (mixL v a b c d x y) :=
  ((((((((h.mix1 a b x).mix2 d a rot16 rot16_wd).mix3 c d).mix2 b c rot12 rot12_wd).mix1 a b y).mix2 d a rot8 rot8_wd).mix3 c d).mix2 b c rot7 rot7_wd)
theorem Wds.roundL {v : List Int} (h : Wds v) (m s : List Int) : Wds (roundL v m s) :=
  (((((((h.mixL _ _ _ _ _ _).mixL _ _ _ _ _ _).mixL _ _ _ _ _ _).mixL _ _ _ _ _ _).mixL _ _ _ _ _ _).mixL _ _ _ _ _ _).mixL _ _ _ _ _ _).mixL _ _ _ _ _ _

/-- What the four stores of the plain text leave is what the eight steps of the program's leave. -/
theorem mixL_put (v : List Int) (a b c d x y : Int) (hl : v.length = 16) (a0 : 0 ≤ a) (a9 : a < 16) (b0 : 0 ≤ b) (b9 : b < 16) (c0 : 0 ≤ c) (c9 : c < 16) (d0 : 0 ≤ d) (d9 : d < 16)
    (ab : a ≠ b) (ac : a ≠ c) (ad : a ≠ d) (bc : b ≠ c) (bd : b ≠ d) (cd : c ≠ d)
    (a1 d1 c1 b1 a2 d2 c2 b2 : Int) (e1 : a1 = (gv v a + (gv v b + x)) % 4294967296) (e2 : d1 = rot16 (bits .xor .u32 (gv v d) a1)) (e3 : c1 = (gv v c + d1) % 4294967296) (e4 : b1 = rot12 (bits .xor .u32 (gv v b) c1))
    (e5 : a2 = (a1 + (b1 + y)) % 4294967296) (e6 : d2 = rot8 (bits .xor .u32 d1 a2)) (e7 : c2 = (c1 + d2) % 4294967296) (e8 : b2 = rot7 (bits .xor .u32 b1 c2)) :
    mixL v a b c d x y = pv (pv (pv (pv v a a2) b b2) c c2) d d2 := by
  have L : ∀ (u : List Int) (i z : Int), (pv u i z).length = u.length := fun u i z => by simp [pv]
  have P : ∀ (u : List Int) (i j z : Int), u.length = 16 → 0 ≤ i → i < 16 → 0 ≤ j → gv (pv u i z) j = if i = j then z else gv u j := fun u i j z h1 h2 h3 h4 => by
    by_cases e : i = j
    · subst e; rw [if_pos rfl]; exact gv_pv_same u i z h2 (by omega)
    · rw [if_neg e]; exact gv_pv_other u i j z h2 h4 e
  have s1 : mix1 v a b x = pv v a a1 := by rw [mix1, e1]
  have s2 : mix2 (pv v a a1) d a rot16 = pv (pv v a a1) d d1 := by
    have t1 : gv (pv v a a1) d = gv v d := by rw [P _ a d _ hl a0 a9 d0, if_neg ad]
    have t2 : gv (pv v a a1) a = a1 := by rw [P _ a a _ hl a0 a9 a0, if_pos rfl]
    rw [mix2, t1, t2, ← e2]
  have s3 : mix3 (pv (pv v a a1) d d1) c d = pv (pv (pv v a a1) d d1) c c1 := by
    have t1 : gv (pv (pv v a a1) d d1) c = gv v c := by rw [P _ d c _ (by rw [L, hl]) d0 d9 c0, if_neg cd.symm, P _ a c _ hl a0 a9 c0, if_neg ac]
    have t2 : gv (pv (pv v a a1) d d1) d = d1 := by rw [P _ d d _ (by rw [L, hl]) d0 d9 d0, if_pos rfl]
    rw [mix3, t1, t2, ← e3]
  have s4 : mix2 (pv (pv (pv v a a1) d d1) c c1) b c rot12 = pv (pv (pv (pv v a a1) d d1) c c1) b b1 := by
    have t1 : gv (pv (pv (pv v a a1) d d1) c c1) b = gv v b := by rw [P _ c b _ (by rw [L, L, hl]) c0 c9 b0, if_neg bc.symm, P _ d b _ (by rw [L, hl]) d0 d9 b0, if_neg bd.symm, P _ a b _ hl a0 a9 b0, if_neg ab]
    have t2 : gv (pv (pv (pv v a a1) d d1) c c1) c = c1 := by rw [P _ c c _ (by rw [L, L, hl]) c0 c9 c0, if_pos rfl]
    rw [mix2, t1, t2, ← e4]
  have s5 : mix1 (pv (pv (pv (pv v a a1) d d1) c c1) b b1) a b y = pv (pv (pv (pv (pv v a a1) d d1) c c1) b b1) a a2 := by
    have t1 : gv (pv (pv (pv (pv v a a1) d d1) c c1) b b1) a = a1 := by rw [P _ b a _ (by rw [L, L, L, hl]) b0 b9 a0, if_neg ab.symm, P _ c a _ (by rw [L, L, hl]) c0 c9 a0, if_neg ac.symm, P _ d a _ (by rw [L, hl]) d0 d9 a0, if_neg ad.symm, P _ a a _ hl a0 a9 a0, if_pos rfl]
    have t2 : gv (pv (pv (pv (pv v a a1) d d1) c c1) b b1) b = b1 := by rw [P _ b b _ (by rw [L, L, L, hl]) b0 b9 b0, if_pos rfl]
    rw [mix1, t1, t2, ← e5]
  have s6 : mix2 (pv (pv (pv (pv (pv v a a1) d d1) c c1) b b1) a a2) d a rot8 = pv (pv (pv (pv (pv (pv v a a1) d d1) c c1) b b1) a a2) d d2 := by
    have t1 : gv (pv (pv (pv (pv (pv v a a1) d d1) c c1) b b1) a a2) d = d1 := by rw [P _ a d _ (by rw [L, L, L, L, hl]) a0 a9 d0, if_neg ad, P _ b d _ (by rw [L, L, L, hl]) b0 b9 d0, if_neg bd, P _ c d _ (by rw [L, L, hl]) c0 c9 d0, if_neg cd, P _ d d _ (by rw [L, hl]) d0 d9 d0, if_pos rfl]
    have t2 : gv (pv (pv (pv (pv (pv v a a1) d d1) c c1) b b1) a a2) a = a2 := by rw [P _ a a _ (by rw [L, L, L, L, hl]) a0 a9 a0, if_pos rfl]
    rw [mix2, t1, t2, ← e6]
  have s7 : mix3 (pv (pv (pv (pv (pv (pv v a a1) d d1) c c1) b b1) a a2) d d2) c d = pv (pv (pv (pv (pv (pv (pv v a a1) d d1) c c1) b b1) a a2) d d2) c c2 := by
    have t1 : gv (pv (pv (pv (pv (pv (pv v a a1) d d1) c c1) b b1) a a2) d d2) c = c1 := by rw [P _ d c _ (by rw [L, L, L, L, L, hl]) d0 d9 c0, if_neg cd.symm, P _ a c _ (by rw [L, L, L, L, hl]) a0 a9 c0, if_neg ac, P _ b c _ (by rw [L, L, L, hl]) b0 b9 c0, if_neg bc, P _ c c _ (by rw [L, L, hl]) c0 c9 c0, if_pos rfl]
    have t2 : gv (pv (pv (pv (pv (pv (pv v a a1) d d1) c c1) b b1) a a2) d d2) d = d2 := by rw [P _ d d _ (by rw [L, L, L, L, L, hl]) d0 d9 d0, if_pos rfl]
    rw [mix3, t1, t2, ← e7]
  have s8 : mix2 (pv (pv (pv (pv (pv (pv (pv v a a1) d d1) c c1) b b1) a a2) d d2) c c2) b c rot7 = pv (pv (pv (pv (pv (pv (pv (pv v a a1) d d1) c c1) b b1) a a2) d d2) c c2) b b2 := by
    have t1 : gv (pv (pv (pv (pv (pv (pv (pv v a a1) d d1) c c1) b b1) a a2) d d2) c c2) b = b1 := by rw [P _ c b _ (by rw [L, L, L, L, L, L, hl]) c0 c9 b0, if_neg bc.symm, P _ d b _ (by rw [L, L, L, L, L, hl]) d0 d9 b0, if_neg bd.symm, P _ a b _ (by rw [L, L, L, L, hl]) a0 a9 b0, if_neg ab, P _ b b _ (by rw [L, L, L, hl]) b0 b9 b0, if_pos rfl]
    have t2 : gv (pv (pv (pv (pv (pv (pv (pv v a a1) d d1) c c1) b b1) a a2) d d2) c c2) c = c2 := by rw [P _ c c _ (by rw [L, L, L, L, L, L, hl]) c0 c9 c0, if_pos rfl]
    rw [mix2, t1, t2, ← e8]
  rw [mixL, s1, s2, s3, s4, s5, s6, s7, s8]
  apply list_of_gv (by rw [L, L, L, L, L, L, L, L, L, L, L, L])
  intro j j0 j1
  by_cases ja : j = a
  · rw [ja, P _ b a _ (by rw [L, L, L, L, L, L, L, hl]) b0 b9 a0, if_neg ab.symm, P _ c a _ (by rw [L, L, L, L, L, L, hl]) c0 c9 a0, if_neg ac.symm, P _ d a _ (by rw [L, L, L, L, L, hl]) d0 d9 a0, if_neg ad.symm, P _ a a _ (by rw [L, L, L, L, hl]) a0 a9 a0, if_pos rfl, P _ d a _ (by rw [L, L, L, hl]) d0 d9 a0, if_neg ad.symm, P _ c a _ (by rw [L, L, hl]) c0 c9 a0, if_neg ac.symm, P _ b a _ (by rw [L, hl]) b0 b9 a0, if_neg ab.symm, P _ a a _ hl a0 a9 a0, if_pos rfl]
  · skip
    by_cases jb : j = b
    · rw [jb, P _ b b _ (by rw [L, L, L, L, L, L, L, hl]) b0 b9 b0, if_pos rfl, P _ d b _ (by rw [L, L, L, hl]) d0 d9 b0, if_neg bd.symm, P _ c b _ (by rw [L, L, hl]) c0 c9 b0, if_neg bc.symm, P _ b b _ (by rw [L, hl]) b0 b9 b0, if_pos rfl]
    · skip
      by_cases jc : j = c
      · rw [jc, P _ b c _ (by rw [L, L, L, L, L, L, L, hl]) b0 b9 c0, if_neg bc, P _ c c _ (by rw [L, L, L, L, L, L, hl]) c0 c9 c0, if_pos rfl, P _ d c _ (by rw [L, L, L, hl]) d0 d9 c0, if_neg cd.symm, P _ c c _ (by rw [L, L, hl]) c0 c9 c0, if_pos rfl]
      · skip
        by_cases jd : j = d
        · rw [jd, P _ b d _ (by rw [L, L, L, L, L, L, L, hl]) b0 b9 d0, if_neg bd, P _ c d _ (by rw [L, L, L, L, L, L, hl]) c0 c9 d0, if_neg cd, P _ d d _ (by rw [L, L, L, L, L, hl]) d0 d9 d0, if_pos rfl, P _ d d _ (by rw [L, L, L, hl]) d0 d9 d0, if_pos rfl]
        · rw [P _ b j _ (by rw [L, L, L, L, L, L, L, hl]) b0 b9 j0, if_neg (Ne.symm jb), P _ c j _ (by rw [L, L, L, L, L, L, hl]) c0 c9 j0, if_neg (Ne.symm jc), P _ d j _ (by rw [L, L, L, L, L, hl]) d0 d9 j0, if_neg (Ne.symm jd), P _ a j _ (by rw [L, L, L, L, hl]) a0 a9 j0, if_neg (Ne.symm ja), P _ b j _ (by rw [L, L, L, hl]) b0 b9 j0, if_neg (Ne.symm jb), P _ c j _ (by rw [L, L, hl]) c0 c9 j0, if_neg (Ne.symm jc), P _ d j _ (by rw [L, hl]) d0 d9 j0, if_neg (Ne.symm jd), P _ a j _ hl a0 a9 j0, if_neg (Ne.symm ja), P _ d j _ (by rw [L, L, L, hl]) d0 d9 j0, if_neg (Ne.symm jd), P _ c j _ (by rw [L, L, hl]) c0 c9 j0, if_neg (Ne.symm jc), P _ b j _ (by rw [L, hl]) b0 b9 j0, if_neg (Ne.symm jb), P _ a j _ hl a0 a9 j0, if_neg (Ne.symm ja)]
end Go.Proofs.YtihilkdokfdoeaaDoor
