/- Tables: Do, walked. -/
import Derived.Test.YtihilkdokfdoeaaDoorTbG
namespace Go.Proofs.YtihilkdokfdoeaaDoor
open Go.RowKit
attribute [local go_sem ↓] Go.wp_at_zero Go.wp_at_succ

theorem do_bad {l : List Rw} {kind : Int} {k v o : List UInt8} (h : chk kind k v o ≠ 0) : doR l kind k v o = ([], chk kind k v o, l) := by rw [doR, if_pos h]
theorem do_none {l : List Rw} {kind : Int} {k v o : List UInt8} (h : chk kind k v o = 0) (hn : val? l k = none) : doR l kind k v o = ((tells none l.length kind v o).1, (tells none l.length kind v o).2, begR l kind k v o) := by
  rw [doR, if_neg (by simp [h])]
  simp only [hn]
  congr 2
  rw [begR]
  by_cases ht : (tells none l.length kind v o).2 ≠ 0
  · rw [if_pos (.inl ht), if_pos ht]
  · have hk : kind = 2 ∨ kind = 3 := by
      by_cases hk : kind ≠ 2 ∧ kind ≠ 3
      · rw [tells, if_pos hk] at ht
        simp at ht
      · omega
    rw [if_neg (by omega), if_neg (by omega), if_neg ht]
    unfold now
    split
    · rfl
    · rfl
theorem do_some {l : List Rw} {kind : Int} {k v o u : List UInt8} (h : chk kind k v o = 0) (hu : val? l k = some u) : doR l kind k v o = ((tells (some u) l.length kind v o).1, (tells (some u) l.length kind v o).2, chgR l kind k v o u) := by
  rw [doR, if_neg (by simp [h])]
  simp only [hu]
  rfl
theorem Do_nil (kind : Int) (k vl o : List UInt8) (w : World) : Calls Tryd.prog 66 #[.pointer none, opV kind k vl o] w fun e W' => e = .returned (.tuple #[.string (bs []), .int .i64 (if chk kind k vl o = 0 then 7 else chk kind k vl o)]) ∧ Below w.heap.size w W' := by
  have hb1 : Below w.heap.size w (w.alloc (.cells #[.int .i64 kind, .string (bs k), .string (bs vl), .string (bs o)] 47)) := (Below.refl _ _).alloc (Nat.le_refl _) _
  have hC := Check_any kind k vl o (w.alloc (.cells #[.int .i64 kind, .string (bs k), .string (bs vl), .string (bs o)] 47))
  obtain ⟨C, hC0⟩ : ∃ C, chk kind k vl o = C := ⟨_, rfl⟩
  rw [hC0] at hC
  rw [hC0]
  clear hC0
  by_cases h0 : C = 0
  · subst h0
    rw [if_pos rfl]
    have HB : Hid (_) := hb1
    clear hb1
    go_enter Tryd.func66, Tryd.ntmps66
    go_wp2_with (go_at_call 64; refine hC.mono ?_; rintro e w1 ⟨rfl, hb⟩)
    exact bodyPost_ret (v := .tuple #[.string (bs []), .int .i64 7]) (by simp [results, Tryd.f66, go_sem, bs]) rfl ⟨rfl, HB.out.trans (hb.mono HB.out.size)⟩
  · rw [if_neg h0]
    have HB : Hid (_) := hb1
    have hne : (C != 0) = true := by simpa using h0
    clear hb1
    go_enter Tryd.func66, Tryd.ntmps66
    go_wp2_with (go_at_call 64; refine hC.mono ?_; rintro e w1 ⟨rfl, hb⟩)
    exact bodyPost_ret (v := .tuple #[.string (bs []), .int .i64 C]) (by simp [results, Tryd.f66, go_sem, bs]) rfl ⟨rfl, HB.out.trans (hb.mono HB.out.size)⟩
set_option maxRecDepth 20000 in
set_option maxHeartbeats 1000000 in
theorem Do_any {w : World} {B : Nat} {l : List Rw} {v : Value} (h : TabAt w B l v) (kind : Int) (k vl o : List UInt8) : Calls Tryd.prog 66 #[.pointer (some ⟨B, 0, none⟩), opV kind k vl o] w fun e W' =>
    e = .returned (.tuple #[.string (bs (doR l kind k vl o).1), .int .i64 (doR l kind k vl o).2.1]) ∧ DoPost w B v (doR l kind k vl o).2.2 W' := by
  have hb1 : Below w.heap.size w (w.alloc (.cells #[.int .i64 kind, .string (bs k), .string (bs vl), .string (bs o)] 47)) := (Below.refl _ _).alloc (Nat.le_refl _) _
  have hop := heap_alloc_new w (.cells #[.int .i64 kind, .string (bs k), .string (bs vl), .string (bs o)] 47)
  have hC := Check_any kind k vl o (w.alloc (.cells #[.int .i64 kind, .string (bs k), .string (bs vl), .string (bs o)] 47))
  have HQ : Hid (∀ W, Below (w.alloc (.cells #[.int .i64 kind, .string (bs k), .string (bs vl), .string (bs o)] 47)).heap.size (w.alloc (.cells #[.int .i64 kind, .string (bs k), .string (bs vl), .string (bs o)] 47)) W → W.heap[w.heap.size]? = some (.cells #[.int .i64 kind, .string (bs k), .string (bs vl), .string (bs o)] 47) ∧ Below w.heap.size w W) :=
    fun W hb => ⟨(hb.block _ (by simp)).trans hop, hb1.trans (hb.mono hb1.size)⟩
  by_cases h0 : chk kind k vl o = 0
  · obtain ⟨c1, c5, ck, cv, co⟩ := chk_zero h0
    rw [h0] at hC
    have HP : Hid (∀ W, Below w.heap.size w W → Calls Tryd.prog 78 #[.pointer (some ⟨B, 0, none⟩), .string (bs k)] W fun e W' => e = .returned (.tuple #[.int .i64 (plc l k), .bool (val? l k).isSome]) ∧ Below W.heap.size W W') := fun W hb => place_any (h.on hb) k
    cases hu : val? l k with
    | none =>
      rw [do_none h0 hu]
      have HG : Hid (∀ W, Below w.heap.size w W → Calls Tryd.prog 79 #[.pointer (some ⟨B, 0, none⟩), .int .i64 (plc l k), opV kind k vl o] W fun e W' =>
          e = .returned (.tuple #[.string (bs (tells none l.length kind vl o).1), .int .i64 (tells none l.length kind vl o).2]) ∧ DoPost w B v (begR l kind k vl o) W') := by
        intro W hb
        refine (tBegin_any (h.on hb) c1 c5 hu ck cv).mono ?_
        rintro e W' ⟨rfl, h1⟩
        exact ⟨rfl, h1.from hb⟩
      rw [hu] at HP
      clear h hb1 hop h0 hu
      obtain ⟨T, hT⟩ : ∃ T, (tells none l.length kind vl o).1 = T := ⟨_, rfl⟩
      obtain ⟨E, hE⟩ : ∃ E, (tells none l.length kind vl o).2 = E := ⟨_, rfl⟩
      obtain ⟨P, hP⟩ : ∃ P, plc l k = P := ⟨_, rfl⟩
      rw [hT, hE, hP] at HG
      rw [hP] at HP
      simp only [hT, hE]
      clear hT hE hP
      have hns : (Option.isSome (none : Option (List UInt8))) = false := rfl
      rw [hns] at HP
      go_enter Tryd.func66, Tryd.ntmps66
      go_wp2_with (first
        | (go_at_call 64; refine hC.mono ?_; clear hC; rintro e w1 ⟨rfl, hb⟩; obtain ⟨hq, hB⟩ := HQ.out _ hb; have q1 := cellB hq 1 _ rfl; have hP := HP.out _ hB; clear HP hb)
        | (go_at_call 78; refine hP.mono ?_; clear hP; rintro e w2 ⟨rfl, hb2⟩; have hq2 := (hb2.block _ (Array.getElem?_eq_some_iff.1 hq).1).trans hq; have r0 := cellB hq2 0 _ rfl; have r1 := cellB hq2 1 _ rfl; have r2 := cellB hq2 2 _ rfl; have r3 := cellB hq2 3 _ rfl; have hG := HG.out _ (hB.trans (hb2.mono hB.size)); clear HG hb2 hB hq hq2 q1)
        | (go_at_call 79; refine hG.mono ?_; rintro e w3 ⟨rfl, hD⟩))
      exact bodyPost_ret (v := .tuple #[.string (bs T), .int .i64 E]) (by simp [results, Tryd.f66, go_sem]) rfl ⟨rfl, hD⟩
    | some u =>
      rw [do_some h0 hu]
      have HG : Hid (∀ W, Below w.heap.size w W → Calls Tryd.prog 80 #[.pointer (some ⟨B, 0, none⟩), .int .i64 (plc l k), opV kind k vl o] W fun e W' =>
          e = .returned (.tuple #[.string (bs (tells (some u) l.length kind vl o).1), .int .i64 (tells (some u) l.length kind vl o).2]) ∧ DoPost w B v (chgR l kind k vl o u) W') := by
        intro W hb
        refine (change_any (h.on hb) c1 c5 hu ck cv).mono ?_
        rintro e W' ⟨rfl, h1⟩
        exact ⟨rfl, h1.from hb⟩
      rw [hu] at HP
      clear h hb1 hop h0 hu
      obtain ⟨T, hT⟩ : ∃ T, (tells (some u) l.length kind vl o).1 = T := ⟨_, rfl⟩
      obtain ⟨E, hE⟩ : ∃ E, (tells (some u) l.length kind vl o).2 = E := ⟨_, rfl⟩
      obtain ⟨P, hP⟩ : ∃ P, plc l k = P := ⟨_, rfl⟩
      rw [hT, hE, hP] at HG
      rw [hP] at HP
      simp only [hT, hE]
      clear hT hE hP
      have hns : (Option.isSome (some u)) = true := rfl
      rw [hns] at HP
      go_enter Tryd.func66, Tryd.ntmps66
      go_wp2_with (first
        | (go_at_call 64; refine hC.mono ?_; clear hC; rintro e w1 ⟨rfl, hb⟩; obtain ⟨hq, hB⟩ := HQ.out _ hb; have q1 := cellB hq 1 _ rfl; have hP := HP.out _ hB; clear HP hb)
        | (go_at_call 78; refine hP.mono ?_; clear hP; rintro e w2 ⟨rfl, hb2⟩; have hq2 := (hb2.block _ (Array.getElem?_eq_some_iff.1 hq).1).trans hq; have r0 := cellB hq2 0 _ rfl; have r1 := cellB hq2 1 _ rfl; have r2 := cellB hq2 2 _ rfl; have r3 := cellB hq2 3 _ rfl; have hG := HG.out _ (hB.trans (hb2.mono hB.size)); clear HG hb2 hB hq hq2 q1)
        | (go_at_call 80; refine hG.mono ?_; rintro e w3 ⟨rfl, hD⟩))
      exact bodyPost_ret (v := .tuple #[.string (bs T), .int .i64 E]) (by simp [results, Tryd.f66, go_sem]) rfl ⟨rfl, hD⟩
  · rw [do_bad h0]
    have HD : Hid (∀ W, Below w.heap.size w W → DoPost w B v l W) := fun W hb => DoPost.same h hb
    obtain ⟨C, hC0⟩ : ∃ C, chk kind k vl o = C := ⟨_, rfl⟩
    rw [hC0] at hC h0
    rw [hC0]
    have hne : (C != 0) = true := by simpa using h0
    clear hC0 h hb1 hop
    go_enter Tryd.func66, Tryd.ntmps66
    go_wp2_with (go_at_call 64; refine hC.mono ?_; rintro e w1 ⟨rfl, hb⟩; obtain ⟨hq, hB⟩ := HQ.out _ hb)
    exact bodyPost_ret (v := .tuple #[.string (bs []), .int .i64 C]) (by simp [results, Tryd.f66, go_sem, bs]) rfl ⟨rfl, HD.out _ hB⟩
end Go.Proofs.YtihilkdokfdoeaaDoor
