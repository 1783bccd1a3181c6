/- The pool's Done and Take, walked. -/
import Derived.Test.YtngoodidajbhcaaDoorBtE
namespace Go.Proofs.YtngoodidajbhcaaDoor.Bat
open Go.RowKit
attribute [local go_sem ↓] Go.wp_at_zero Go.wp_at_succ

set_option maxRecDepth 20000 in
set_option maxHeartbeats 4000000 in
theorem Done_any {base : Nat} {w : World} {B : Nat} {v : Value} {l : List Rq} {D : Nat → Int} (h : PoolAt base w B v l D) (hlen : l.length ≤ 1000) {c : Nat} {n : Int} (hok : okB c n = true) :
    Calls Tryd.prog 12 #[.pointer (some ⟨B, 0, none⟩), .int .i64 c, .int .i64 n] w fun e W' => e = .returned (.tuple #[.bool (hitB (upP c n) l), .int .i64 0]) ∧ ∃ v', PoolAt base W' B v' (rmL (upP c n) l) (updM D c n) ∧ Moved B v v' w W' := by
  have hQ := fault_ok hok w
  obtain ⟨hc0, hc1, hn0, hn1⟩ := okB_t hok
  have hc : c < 64 := by omega
  obtain ⟨cd, fd⟩ := h.cd hc
  rw [Nat.add_comm] at cd fd
  obtain ⟨M, hM⟩ : ∃ M, max (D c) n = M := ⟨_, rfl⟩
  obtain ⟨d, hd⟩ : ∃ d, D c = d := ⟨_, rfl⟩
  rw [hd] at cd hM
  have hset0 : PoolAt base (w.setCell ⟨B, 1 + c, none⟩ (.int .i64 M)) B v l (updM D c n) := by
    rw [Nat.add_comm]
    refine ⟨?_, owns_kept h.own (fun k hk => set_far (fun e => h.ne (by rw [← e]; exact hk)) _ _), h.ne, h.base⟩
    unfold updM
    rw [hd, hM]
    exact blk_setd h.blk hc M
  have hset := hset0.next (below_drew (Below.refl _ _))
  have hmv : Moved B v v w (w.setCell ⟨B, 1 + c, none⟩ (.int .i64 M)).drew := ⟨rfl, rfl, rfl, by show w.heap.size ≤ (w.heap.modify _ _).size; simp, fun k hk h1 h2 => set_far (w := w) h1 _ _, fun k hk => .inl hk⟩
  have HX : Hid (_ ∧ _) := ⟨hset, hmv⟩
  have hMi : (if d < n then n else d) = M := by rw [← hM]; split <;> omega
  clear hset0 hset hmv h hd hM
  have hcc : (0 : Int) ≤ (c : Int) := by omega
  have HR : Hid (∀ W, PoolAt base W B v l (updM D c n) → Calls Tryd.prog 23 #[.pointer (some ⟨B, 0, none⟩), .int .i64 (idxI (upP c n) l)] W fun e W' => e = .returned (.bool (hitB (upP c n) l)) ∧ ∃ v', PoolAt base W' B v' (rmL (upP c n) l) (updM D c n) ∧ Moved B v v' W W') := fun W hW => remove_idx hW hlen (upP c n)
  obtain ⟨I, hI⟩ : ∃ I, idxI (upP c n) l = I := ⟨_, rfl⟩
  obtain ⟨H, hH⟩ : ∃ I, hitB (upP c n) l = I := ⟨_, rfl⟩
  rw [hI] at HR
  rw [hH] at HR ⊢
  have HI : Hid (idxI (upP c n) l = I) := hI
  clear hI hH
  go_enter Tryd.func12, Tryd.ntmps12
  go_upto_region 6 with (first
    | (go_at_call 20; refine hQ.mono ?_; rintro e w1 ⟨rfl, h9⟩; replace h9 := h9.symm; subst h9))
  go_region
  all_goals
    obtain ⟨hset, hmv⟩ := HX.out
    clear HX
    obtain ⟨W1, hW1⟩ : ∃ W, (w.setCell ⟨B, 1 + c, none⟩ (.int .i64 M)).drew = W := ⟨_, rfl⟩
    rw [hW1] at hset hmv ⊢
    clear hW1 cd fd
    obtain ⟨b1, b2, b3, hb⟩ := two_boxes W1 c n
    have hF := find35 (hset.next hb) hlen c n W1.heap.size (W1.heap.size + 1) b1 (by omega) b2 b3
    rw [HI.out] at hF
    have HS : Hid (_) := hset
    clear b1 b2 b3 hset
    go_wp2_with (first
      | (go_at_call 24; refine (upTo_any c n _).mono ?_; rintro e w1 ⟨rfl, rfl⟩)
      | (go_at_call 21; refine hF.mono ?_; rintro e w2 ⟨rfl, hb2⟩; have hB2 := hb.trans (hb2.mono hb.size))
      | (go_at_call 23; refine (HR.out _ (HS.out.next hB2)).mono ?_; rintro e w3 ⟨rfl, v', h3, hm3⟩))
    exact bodyPost_ret (v := .tuple #[.bool H, .int .i64 0]) (by simp [results, Tryd.f12, go_sem]) rfl ⟨rfl, v', h3, (hmv.trans (Moved.of_below hB2 B v)).trans hm3⟩

/-- The first ones, so many at most, with at most 9000 bytes in all, b of which are taken. -/
def takeGo : Nat → Nat → List Rq → List Rq
  | 0, _, _ => []
  | _ + 1, _, [] => []
  | m + 1, b, a :: r => if 9000 < b + a.2.2.length then [] else a :: takeGo m (b + a.2.2.length) r
def sumT (l : List Rq) : Nat := (l.map fun a => a.2.2.length).sum
theorem sumT_snoc (l : List Rq) (a : Rq) : sumT (l ++ [a]) = sumT l + a.2.2.length := by simp [sumT]
theorem takeGo_nil (m b : Nat) : takeGo m b [] = [] := by cases m <;> rfl
theorem take_snoc {α : Type} {l : List α} {k : Nat} {a : α} (h : l[k]? = some a) : l.take (k + 1) = l.take k ++ [a] := by
  obtain ⟨hk, e⟩ := List.getElem?_eq_some_iff.1 h
  rw [List.take_succ_eq_append_getElem hk, e]
theorem drop_cons {α : Type} {l : List α} {k : Nat} {a : α} (h : l[k]? = some a) : l.drop k = a :: l.drop (k + 1) := by
  obtain ⟨hk, e⟩ := List.getElem?_eq_some_iff.1 h
  rw [List.drop_eq_getElem_cons hk, e]
/-- As far as it is taken. -/
def TkAt (l : List Rq) (k : Nat) : Prop := takeGo 4 0 l = l.take k ++ takeGo (4 - k) (sumT (l.take k)) (l.drop k)
theorem TkAt.zero (l : List Rq) : TkAt l 0 := by simp [TkAt, sumT]
theorem TkAt.succ {l : List Rq} {k : Nat} {a : Rq} (h : TkAt l k) (hk : k < 4) (ha : l[k]? = some a) (hs : sumT (l.take k) + a.2.2.length ≤ 9000) : TkAt l (k + 1) := by
  unfold TkAt at *
  rw [h, take_snoc ha, drop_cons ha, show 4 - k = (4 - (k + 1)) + 1 by omega, takeGo, if_neg (by omega), sumT_snoc]
  simp
theorem TkAt.cut {l : List Rq} {k : Nat} {a : Rq} (h : TkAt l k) (hk : k < 4) (ha : l[k]? = some a) (hs : 9000 < sumT (l.take k) + a.2.2.length) : takeGo 4 0 l = l.take k := by
  unfold TkAt at h
  rw [h, drop_cons ha, show 4 - k = (4 - (k + 1)) + 1 by omega, takeGo, if_pos hs, List.append_nil]
theorem TkAt.full {l : List Rq} {k : Nat} (h : TkAt l k) (hk : k = min l.length 4) : takeGo 4 0 l = l.take k := by
  unfold TkAt at h
  rw [h]
  by_cases h4 : l.length ≤ 4
  · rw [List.drop_of_length_le (by omega), takeGo_nil, List.append_nil]
  · rw [show 4 - k = 0 by omega]; simp [takeGo]
theorem Tryd.info26 : (Tryd.prog.info? 26).map (fun i => (i.zero, i.size, i.bytes)) = some (some (.agg #[.int .i64 0, .int .i64 0, .string ⟨#[]⟩]), 3, 32) := by kernel_rfl
end Go.Proofs.YtngoodidajbhcaaDoor.Bat
