/- The pool's Done and Take, walked. -/
import Derived.Test.YtbibfhhnnjojnaaBtE
namespace Go.Proofs.Ytbibfhhnnjojnaa
open Go.RowKit
attribute [local go_sem ↓] Go.wp_at_zero Go.wp_at_succ

set_option maxRecDepth 20000 in
set_option maxHeartbeats 4000000 in
theorem Done_any {base : Nat} {w : World} {B : Nat} {v : Value} {l : List Rq} {D : Nat → Int} (h : PoolAt base w B v l D) (hlen : l.length ≤ 1000) {c : Nat} {n : Int} (hok : okB c n = true) :
    Calls Try.prog 12 #[.pointer (some ⟨B, 0, none⟩), .int .i64 c, .int .i64 n] w fun e W' => e = .returned (.tuple #[.bool (hitB (upP c n) l), .int .i64 0]) ∧ ∃ v', PoolAt base W' B v' (rmL (upP c n) l) (updM D c n) ∧ Moved B v v' w W' := by
  have hQ := fault_ok hok w
  obtain ⟨hc0, hc1, hn0, hn1⟩ := okB_t hok
  have hc : c < 64 := by omega
  obtain ⟨cd, fd⟩ := h.cd hc
  rw [Nat.add_comm] at cd fd
  obtain ⟨M, hM⟩ : ∃ M, max (D c) n = M := ⟨_, rfl⟩
  obtain ⟨d, hd⟩ : ∃ d, D c = d := ⟨_, rfl⟩
  rw [hd] at cd hM
  have hset0 : PoolAt base (w.setCell ⟨B, 1 + c, none⟩ (.int .i64 M)) B v l (updM D c n) := by
    rw [Nat.add_comm]
    refine ⟨?_, owns_kept h.own (fun k hk => set_far (fun e => h.ne (by rw [← e]; exact hk)) _ _), h.ne, h.base⟩
    unfold updM
    rw [hd, hM]
    exact blk_setd h.blk hc M
  have hset := hset0.next (below_drew (Below.refl _ _))
  have hmv : Moved B v v w (w.setCell ⟨B, 1 + c, none⟩ (.int .i64 M)).drew := ⟨rfl, rfl, rfl, by show w.heap.size ≤ (w.heap.modify _ _).size; simp, fun k hk h1 h2 => set_far (w := w) h1 _ _, fun k hk => .inl hk⟩
  have HX : Hid (_ ∧ _) := ⟨hset, hmv⟩
  have hMi : (if d < n then n else d) = M := by rw [← hM]; split <;> omega
  clear hset0 hset hmv h hd hM
  have hcc : (0 : Int) ≤ (c : Int) := by omega
  have HR : Hid (∀ W, PoolAt base W B v l (updM D c n) → Calls Try.prog 26 #[.pointer (some ⟨B, 0, none⟩), .int .i64 (idxI (upP c n) l)] W fun e W' => e = .returned (.bool (hitB (upP c n) l)) ∧ ∃ v', PoolAt base W' B v' (rmL (upP c n) l) (updM D c n) ∧ Moved B v v' W W') := fun W hW => remove_idx hW hlen (upP c n)
  obtain ⟨I, hI⟩ : ∃ I, idxI (upP c n) l = I := ⟨_, rfl⟩
  obtain ⟨H, hH⟩ : ∃ I, hitB (upP c n) l = I := ⟨_, rfl⟩
  rw [hI] at HR
  rw [hH] at HR ⊢
  have HI : Hid (idxI (upP c n) l = I) := hI
  clear hI hH
  go_enter Try.func12, Try.ntmps12
  go_upto_region 6 with (first
    | (go_at_call 23; refine hQ.mono ?_; rintro e w1 ⟨rfl, h9⟩; replace h9 := h9.symm; subst h9))
  go_region
  all_goals
    obtain ⟨hset, hmv⟩ := HX.out
    clear HX
    obtain ⟨W1, hW1⟩ : ∃ W, (w.setCell ⟨B, 1 + c, none⟩ (.int .i64 M)).drew = W := ⟨_, rfl⟩
    rw [hW1] at hset hmv ⊢
    clear hW1 cd fd
    obtain ⟨b1, b2, b3, hb⟩ := two_boxes W1 c n
    have hF := find35 (hset.next hb) hlen c n W1.heap.size (W1.heap.size + 1) b1 (by omega) b2 b3
    rw [HI.out] at hF
    have HS : Hid (_) := hset
    clear b1 b2 b3 hset
    go_wp2_with (first
      | (go_at_call 29; refine (upTo_any c n _).mono ?_; rintro e w1 ⟨rfl, rfl⟩)
      | (go_at_call 24; refine hF.mono ?_; rintro e w2 ⟨rfl, hb2⟩; have hB2 := hb.trans (hb2.mono hb.size))
      | (go_at_call 26; refine (HR.out _ (HS.out.next hB2)).mono ?_; rintro e w3 ⟨rfl, v', h3, hm3⟩))
    exact bodyPost_ret (v := .tuple #[.bool H, .int .i64 0]) (by simp [results, Try.f12, go_sem]) rfl ⟨rfl, v', h3, (hmv.trans (Moved.of_below hB2 B v)).trans hm3⟩

/-- The first ones, so many at most, with at most 9000 bytes in all, b of which are taken. -/
def takeGo : Nat → Nat → List Rq → List Rq
  | 0, _, _ => []
  | _ + 1, _, [] => []
  | m + 1, b, a :: r => if 9000 < b + a.2.2.length then [] else a :: takeGo m (b + a.2.2.length) r
def sumT (l : List Rq) : Nat := (l.map fun a => a.2.2.length).sum
theorem sumT_snoc (l : List Rq) (a : Rq) : sumT (l ++ [a]) = sumT l + a.2.2.length := by simp [sumT]
theorem takeGo_nil (m b : Nat) : takeGo m b [] = [] := by cases m <;> rfl
theorem take_snoc {α : Type} {l : List α} {k : Nat} {a : α} (h : l[k]? = some a) : l.take (k + 1) = l.take k ++ [a] := by
  obtain ⟨hk, e⟩ := List.getElem?_eq_some_iff.1 h
  rw [List.take_succ_eq_append_getElem hk, e]
theorem drop_cons {α : Type} {l : List α} {k : Nat} {a : α} (h : l[k]? = some a) : l.drop k = a :: l.drop (k + 1) := by
  obtain ⟨hk, e⟩ := List.getElem?_eq_some_iff.1 h
  rw [List.drop_eq_getElem_cons hk, e]
/-- As far as it is taken. -/
def TkAt (l : List Rq) (k : Nat) : Prop := takeGo 4 0 l = l.take k ++ takeGo (4 - k) (sumT (l.take k)) (l.drop k)
theorem TkAt.zero (l : List Rq) : TkAt l 0 := by simp [TkAt, sumT]
theorem TkAt.succ {l : List Rq} {k : Nat} {a : Rq} (h : TkAt l k) (hk : k < 4) (ha : l[k]? = some a) (hs : sumT (l.take k) + a.2.2.length ≤ 9000) : TkAt l (k + 1) := by
  unfold TkAt at *
  rw [h, take_snoc ha, drop_cons ha, show 4 - k = (4 - (k + 1)) + 1 by omega, takeGo, if_neg (by omega), sumT_snoc]
  simp
theorem TkAt.cut {l : List Rq} {k : Nat} {a : Rq} (h : TkAt l k) (hk : k < 4) (ha : l[k]? = some a) (hs : 9000 < sumT (l.take k) + a.2.2.length) : takeGo 4 0 l = l.take k := by
  unfold TkAt at h
  rw [h, drop_cons ha, show 4 - k = (4 - (k + 1)) + 1 by omega, takeGo, if_pos hs, List.append_nil]
theorem TkAt.full {l : List Rq} {k : Nat} (h : TkAt l k) (hk : k = min l.length 4) : takeGo 4 0 l = l.take k := by
  unfold TkAt at h
  rw [h]
  by_cases h4 : l.length ≤ 4
  · rw [List.drop_of_length_le (by omega), takeGo_nil, List.append_nil]
  · rw [show 4 - k = 0 by omega]; simp [takeGo]
theorem Take_nil (w : World) : Calls Try.prog 18 #[.pointer none] w fun e W' => e = .returned (.slice none 0 0) ∧ W' = w := by
  go_enter Try.func18, Try.ntmps18
  go_wp2_with (go_at_call 16; refine (Len_nil _).mono ?_; rintro e w1 ⟨rfl, rfl⟩)
  go_loop [3, 4, 9] (fun n b i => n = .slice none 0 0 ∧ b = .int .i64 0 ∧ i = .int .i64 0) (fun _ _ _ => 0)
  case atStart => exact ⟨rfl, rfl, rfl⟩
  case round =>
    obtain ⟨rfl, rfl, rfl⟩ := hrel
    go_wp2
    go_ret
    exact ⟨rfl, rfl⟩
theorem Try.info31 : (Try.prog.info? 31).map (fun i => (i.zero, i.size, i.bytes)) = some (some (.agg #[.int .i64 0, .int .i64 0, .string ⟨#[]⟩]), 3, 32) := by kernel_rfl
set_option maxRecDepth 20000 in
set_option maxHeartbeats 4000000 in
theorem Take_any {base : Nat} {w : World} {B : Nat} {v : Value} {l : List Rq} {D : Nat → Int} (h : PoolAt base w B v l D) (hlen : l.length ≤ 1000) (hbig : ∀ a ∈ l, a.2.2.length ≤ 4000) :
    Calls Try.prog 18 #[.pointer (some ⟨B, 0, none⟩)] w fun e W' => (∃ u, e = .returned u ∧ W'.ownsRow w.heap.size 31 3 u (takeGo 4 0 l).length (rcs (takeGo 4 0 l))) ∧ Below w.heap.size w W' := by
  have hLen := Len_any h
  obtain ⟨i0, hi, hz0, hz1, hz2⟩ := info_parts Try.info31
  obtain ⟨m, hm⟩ : ∃ m, min l.length 4 = m := ⟨_, rfl⟩
  have hm1 : m ≤ 4 := by omega
  have hm2 : m ≤ l.length := by omega
  have hmi : (if (4 : Int) < (l.length : Int) then (4 : Int) else (l.length : Int)) = (m : Int) := by split <;> omega
  have HM : Hid (m = min l.length 4) := hm.symm
  have HB : Hid (∀ a ∈ l, a.2.2.length ≤ 4000) := hbig
  clear hm hbig
  go_enter Try.func18, Try.ntmps18
  go_wp2_with (go_at_call 16; refine hLen.mono ?_; rintro e w1 ⟨rfl, h9⟩; replace h9 := h9.symm; subst h9)
  go_loopg [3, 4, 9] m (fun gk p b i wr => ∃ k : Nat, k + gk = m ∧ i = .int .i64 k ∧ b = .int .i64 (sumT (l.take k)) ∧ wr.ownsRow w.heap.size 31 3 p (l.take k).length (rcs (l.take k)) ∧ Hid (TkAt l k ∧ sumT (l.take k) ≤ 9000) ∧ Below w.heap.size w wr)
  case atStart => exact ⟨0, by omega, rfl, rfl, World.ownsRow_nil _ _ _ _, ⟨TkAt.zero l, by simp [sumT]⟩, Below.refl _ _⟩
  case round =>
    obtain ⟨k, hgk, rfl, rfl, hown, HT, hB⟩ := hrel
    by_cases hlt : k < m
    · obtain ⟨a, ha⟩ : ∃ a, l[k]? = some a := ⟨_, List.getElem?_eq_getElem (by omega)⟩
      have hr := h.next hB
      obtain ⟨g, cap, hv, hg1, hg2, x0, x1, x2⟩ := row_at hr.own ha
      have c0 := hr.c0.1
      rw [hv] at c0
      have k0 : (0 : Int) ≤ (k : Int) := by omega
      have k1 : (k : Int) < (m : Int) := by omega
      have k2 : (k : Int) < (l.length : Int) := by omega
      have k4 : (k : Int) ≤ 4 := by omega
      have hsz : (bs a.2.2).size = a.2.2.length := bs_size _
      have hal : a.2.2.length ≤ 4000 := HB.out a (List.mem_of_getElem? ha)
      have HSn : Hid (sumT (l.take (k + 1)) = sumT (l.take k) + a.2.2.length) := by show _ = _; rw [take_snoc ha, sumT_snoc]
      have HTk : Hid (rcs (l.take (k + 1)) = rcs (l.take k) ++ [.int .i64 a.1, .int .i64 a.2.1, .string (bs a.2.2)]) := by show _ = _; rw [take_snoc ha, rcs_append]; rfl
      have hlk : (l.take k).length = k := by rw [List.length_take]; omega
      have HLk : Hid ((l.take (k + 1)).length = k + 1) := by show _ = _; rw [List.length_take]; omega
      have HA : Hid (l[k]? = some a) := ha
      have hs9 := HT.out.2
      rw [hlk] at hown
      obtain ⟨S, hS⟩ : ∃ S, sumT (l.take k) = S := ⟨_, rfl⟩
      obtain ⟨T, hTl⟩ : ∃ T, a.2.2.length = T := ⟨_, rfl⟩
      have HS : Hid (sumT (l.take k) = S ∧ a.2.2.length = T) := ⟨hS, hTl⟩
      rw [hS] at HSn hs9 ⊢
      rw [hTl] at HSn hsz hal
      obtain ⟨R, hR⟩ : ∃ R, rcs (l.take k) = R := ⟨_, rfl⟩
      rw [hR] at HTk hown
      obtain ⟨pa, pc, rfl⟩ := owns_slice hown
      clear ha hv hr hR hlk hS hTl hg1 hLen
      by_cases hbr : 9000 < S + T
      · have hbr2 : (9000 : Int) < (S : Int) + (T : Int) := by omega
        have HZ : Hid (takeGo 4 0 l = l.take k) := TkAt.cut HT.out.1 (by omega) HA.out (by rw [HS.out.1, HS.out.2]; exact hbr)
        have HZ2 : Hid ((l.take k).length = k ∧ rcs (l.take k) = R) := ⟨by rw [List.length_take]; omega, by have := HTk.out; rw [take_snoc HA.out, rcs_append] at this; exact List.append_cancel_right this⟩
        go_wp2
        go_ret
        refine ⟨⟨_, rfl, ?_⟩, hB⟩
        rw [HZ.out, HZ2.out.1, HZ2.out.2]
        exact hown
      · have hbr2 : (S : Int) + (T : Int) ≤ 9000 := by omega
        have hml : k + 1 ≤ maxLen := by unfold maxLen; omega
        have hkb : (k + 1) * 32 ≤ 140737488355328 := by omega
        have HT2 : Hid (TkAt l (k + 1) ∧ sumT (l.take (k + 1)) ≤ 9000) := ⟨TkAt.succ HT.out.1 (by omega) HA.out (by rw [HS.out.1, HS.out.2]; omega), by rw [HSn.out]; omega⟩
        go_wp2_with (first
          | (at_builtin; refine wpList_append_own _ rfl _ _ 45 rfl w.heap.size 31 i0 (.agg #[.int .i64 0, .int .i64 0, .string ⟨#[]⟩]) 3 32 Try.underlying45 hi hz0 hz1 hz2 rfl (by decide) (.slice pa k pc) k R rfl (hown.alloc _) _ 1 1 [.int .i64 a.1, .int .i64 a.2.1, .string (bs a.2.2)] rfl rfl (World.news_of_block (heap_alloc_new _ _)) (by simp [Value.oneCell']) hml hkb (by have := hB.size; simp; omega) ?_; intro v' w' h1 h2 _))
        go_roundg (m - (k + 1))
        case measure => omega
        case rel => exact ⟨k + 1, by omega, by go_num, by rw [HSn.out]; go_num, by rw [HTk.out, HLk.out]; exact h1, HT2, (hB.alloc hB.size _).grown h2 (by have := hB.size; simp; omega) (fun q hq => (hown.lt q hq).1)⟩
    · have hkm : k = m := by omega
      subst hkm
      have HZ : Hid (takeGo 4 0 l = l.take k) := TkAt.full HT.out.1 HM.out
      obtain ⟨pa, pc, rfl⟩ := owns_slice hown
      go_wp2
      go_ret
      exact ⟨⟨_, rfl, by rw [HZ.out]; exact hown⟩, hB⟩
end Go.Proofs.Ytbibfhhnnjojnaa
