/- Tables: change, Do, walked. -/
import Derived.Test.YtihilkdokfdoeaaDoorTbF
namespace Go.Proofs.YtihilkdokfdoeaaDoor
open Go.RowKit
attribute [local go_sem ↓] Go.wp_at_zero Go.wp_at_succ

theorem bs_app (a b : List UInt8) : bs a ++ bs b = bs (a ++ b) := by
  apply ByteArray.ext
  rw [ByteArray.data_append]
  simp [bs]
/-- The rows behind change. -/
def chgR (l : List Rw) (kind : Int) (k v o u : List UInt8) : List Rw := if (tells (some u) l.length kind v o).2 ≠ 0 ∨ kind = 1 then l else if kind = 4 then delR l k else putR l k (now (some u) kind v)
set_option maxRecDepth 20000 in
set_option maxHeartbeats 1000000 in
theorem change_any {w : World} {B : Nat} {l : List Rw} {v : Value} (h : TabAt w B l v) {kind : Int} {k vl o u : List UInt8} (hk1 : 1 ≤ kind) (hk5 : kind ≤ 5) (hu : val? l k = some u) (hk : isK k = true) (hv : isV vl = true) :
    Calls Tryd.prog 80 #[.pointer (some ⟨B, 0, none⟩), .int .i64 (plc l k), opV kind k vl o] w fun e W' =>
      e = .returned (.tuple #[.string (bs (tells (some u) l.length kind vl o).1), .int .i64 (tells (some u) l.length kind vl o).2]) ∧ DoPost w B v (chgR l kind k vl o u) W' := by
  have hb1 : Below w.heap.size w (w.alloc (.cells #[.int .i64 kind, .string (bs k), .string (bs vl), .string (bs o)] 47)) := (Below.refl _ _).alloc (Nat.le_refl _) _
  obtain ⟨a, c, rfl, hcap⟩ := h.rows.slice
  have hcell := h.cell
  have hlt := h.lt
  have hat := at_some h.ok.sorted hu
  have hp := (List.getElem?_eq_some_iff.1 hat).1
  have hlen := h.ok.len
  obtain ⟨g, rfl, hg, _, hc2⟩ := h.rows.at hat
  have hul : u.length ≤ 64 := by have := (h.ok.row _ (val_mem hu)).2; simpa [isV] using this
  have hvl : vl.length ≤ 64 := by simpa [isV] using hv
  have HS : Hid (∀ W', Below w.heap.size w W' → DoPost w B (.slice (some ⟨g, 0, none⟩) l.length c) l W') := fun W' hb => DoPost.same h hb
  have HP : Hid (∀ x, isV x = true → Calls Tryd.prog 90 #[.pointer (some ⟨B, 0, none⟩), .int .i64 (plc l k), .int .i64 ((plc l k + 1 : Nat) : Int), .slice (some ⟨w.heap.size + 1, 0, none⟩) 1 1] ((w.alloc (.cells #[.int .i64 kind, .string (bs k), .string (bs vl), .string (bs o)] 47)).alloc (.cells #[.string (bs k), .string (bs x)] 178)) fun e W' => e = .returned (.tuple #[]) ∧ DoPost w B (.slice (some ⟨g, 0, none⟩) l.length c) (putR l k x) W') := by
    intro x hx
    refine (rep_put h hb1 (by omega) (by omega) (w.heap.size) _ (heap_alloc_new w _) (by omega) (ok_put h.ok hk hx (.inl (by rw [hu]; rfl))) (put_some hu x).symm (w.heap.size + 1) (by simp)).mono ?_
    rintro e W' ⟨rfl, h1, _⟩
    exact ⟨rfl, h1⟩
  have HD : Hid (Calls Tryd.prog 90 #[.pointer (some ⟨B, 0, none⟩), .int .i64 (plc l k), .int .i64 ((plc l k + 1 : Nat) : Int), .slice none 0 0] (w.alloc (.cells #[.int .i64 kind, .string (bs k), .string (bs vl), .string (bs o)] 47)) fun e W' => e = .returned (.tuple #[]) ∧ DoPost w B (.slice (some ⟨g, 0, none⟩) l.length c) (delR l k) W') :=
    rep_del h hb1 (by omega) (by omega) (ok_del h.ok hu) rfl
  have e1 : ((plc l k + 1 : Nat) : Int) = (plc l k : Int) + 1 := by omega
  rw [e1] at HP HD
  have HB : Hid (_) := hb1
  have hp16 : (plc l k : Int) < 16 := by omega
  have hpl : (plc l k : Int) < (l.length : Int) := by omega
  clear e1 h hb1 hat hk hv
  obtain rfl | rfl | rfl | rfl | rfl : kind = 1 ∨ kind = 2 ∨ kind = 3 ∨ kind = 4 ∨ kind = 5 := by omega
  · have ht : tells (some u) l.length 1 vl o = (u, 0) := rfl
    rw [chgR, ht, if_pos (.inr rfl)]
    clear ht HP HD hu
    obtain ⟨P, hP⟩ : ∃ P, plc l k = P := ⟨_, rfl⟩
    rw [hP] at hc2 hp hp16 hpl
    rw [hP]
    clear hP
    go_enter Tryd.func80, Tryd.ntmps80
    go_wp2
    exact bodyPost_ret (v := .tuple #[.string (bs u), .int .i64 0]) (by simp [results, Tryd.f80, go_sem]) rfl ⟨rfl, HS.out _ HB.out⟩
  · have ht : tells (some u) l.length 2 vl o = (u, 0) := rfl
    have hn : now (some u) 2 vl = vl := rfl
    rw [chgR, ht, if_neg (by simp), if_neg (by decide), hn]
    have hR := HP.out vl (by simpa [isV] using hvl)
    clear ht hn HP HD hu
    obtain ⟨P, hP⟩ : ∃ P, plc l k = P := ⟨_, rfl⟩
    rw [hP] at hc2 hp hp16 hpl hR
    rw [hP]
    clear hP
    go_enter Tryd.func80, Tryd.ntmps80
    go_wp2_with (go_at_call 90; refine hR.mono ?_; rintro e w2 ⟨rfl, hD⟩)
    exact bodyPost_ret (v := .tuple #[.string (bs u), .int .i64 0]) (by simp [results, Tryd.f80, go_sem]) rfl ⟨rfl, hD⟩
  · have hsu : (bs u).size = u.length := bs_size u
    have hsv : (bs vl).size = vl.length := bs_size vl
    have happ := bs_app u vl
    have hn : now (some u) 3 vl = u ++ vl := rfl
    by_cases h64 : 64 < (u ++ vl).length
    · have ht : tells (some u) l.length 3 vl o = ([], 2) := by simp only [tells, if_true, if_pos h64]
      have hi : isV (u ++ vl) = false := by simp only [isV, decide_eq_false_iff_not]; omega
      rw [chgR, ht, if_pos (.inl (by decide))]
      clear ht hn HP HD hu h64
      obtain ⟨P, hP⟩ : ∃ P, plc l k = P := ⟨_, rfl⟩
      rw [hP] at hc2 hp hp16 hpl
      rw [hP]
      clear hP
      obtain ⟨N, hN⟩ : ∃ N, u ++ vl = N := ⟨_, rfl⟩
      rw [hN] at happ hi
      clear hN
      go_enter Tryd.func80, Tryd.ntmps80
      go_wp2_with (go_at_call 77; refine (isValue_any _ _).mono ?_; rintro e w1 ⟨rfl, h9⟩; subst h9)
      exact bodyPost_ret (v := .tuple #[.string (bs []), .int .i64 2]) (by simp [results, Tryd.f80, go_sem, bs]) rfl ⟨rfl, HS.out _ HB.out⟩
    · have ht : tells (some u) l.length 3 vl o = (u ++ vl, 0) := by simp only [tells, if_true, if_neg h64]
      have hi : isV (u ++ vl) = true := by simp only [isV, decide_eq_true_eq]; omega
      rw [chgR, ht, if_neg (by simp), if_neg (by decide), hn]
      have hR := HP.out (u ++ vl) hi
      clear ht hn HP HD hu h64
      obtain ⟨P, hP⟩ : ∃ P, plc l k = P := ⟨_, rfl⟩
      rw [hP] at hc2 hp hp16 hpl hR
      rw [hP]
      clear hP
      obtain ⟨N, hN⟩ : ∃ N, u ++ vl = N := ⟨_, rfl⟩
      rw [hN] at happ hi hR
      rw [hN]
      clear hN
      go_enter Tryd.func80, Tryd.ntmps80
      go_wp2_with (first
        | (go_at_call 77; refine (isValue_any _ _).mono ?_; rintro e w1 ⟨rfl, h9⟩; subst h9)
        | (go_at_call 90; refine hR.mono ?_; rintro e w2 ⟨rfl, hD⟩))
      exact bodyPost_ret (v := .tuple #[.string (bs N), .int .i64 0]) (by simp [results, Tryd.f80, go_sem]) rfl ⟨rfl, hD⟩
  · have ht : tells (some u) l.length 4 vl o = (u, 0) := rfl
    rw [chgR, ht, if_neg (by simp), if_pos rfl]
    have hR := HD.out
    clear ht HP HD hu
    obtain ⟨P, hP⟩ : ∃ P, plc l k = P := ⟨_, rfl⟩
    rw [hP] at hc2 hp hp16 hpl hR
    rw [hP]
    clear hP
    go_enter Tryd.func80, Tryd.ntmps80
    go_wp2_with (go_at_call 90; refine hR.mono ?_; rintro e w2 ⟨rfl, hD⟩)
    exact bodyPost_ret (v := .tuple #[.string (bs u), .int .i64 0]) (by simp [results, Tryd.f80, go_sem]) rfl ⟨rfl, hD⟩
  · have hn : now (some u) 5 vl = vl := rfl
    by_cases hne : u = o
    · have ht : tells (some u) l.length 5 vl o = (u, 0) := by simp [tells, hne]
      have hs := str_same u
      subst hne
      rw [chgR, ht, if_neg (by simp), if_neg (by decide), hn]
      have hR := HP.out vl (by simpa [isV] using hvl)
      clear ht hn HP HD hu
      obtain ⟨P, hP⟩ : ∃ P, plc l k = P := ⟨_, rfl⟩
      rw [hP] at hc2 hp hp16 hpl hR
      rw [hP]
      clear hP
      go_enter Tryd.func80, Tryd.ntmps80
      go_wp2_with (go_at_call 90; refine hR.mono ?_; rintro e w2 ⟨rfl, hD⟩)
      exact bodyPost_ret (v := .tuple #[.string (bs u), .int .i64 0]) (by simp [results, Tryd.f80, go_sem]) rfl ⟨rfl, hD⟩
    · have ht : tells (some u) l.length 5 vl o = ([], 7) := by simp [tells, hne]
      have hs := str_other hne
      rw [chgR, ht, if_pos (.inl (by decide))]
      clear ht hn HP HD hu hne
      obtain ⟨P, hP⟩ : ∃ P, plc l k = P := ⟨_, rfl⟩
      rw [hP] at hc2 hp hp16 hpl
      rw [hP]
      clear hP
      go_enter Tryd.func80, Tryd.ntmps80
      go_wp2
      exact bodyPost_ret (v := .tuple #[.string (bs []), .int .i64 7]) (by simp [results, Tryd.f80, go_sem, bs]) rfl ⟨rfl, HS.out _ HB.out⟩
end Go.Proofs.YtihilkdokfdoeaaDoor
