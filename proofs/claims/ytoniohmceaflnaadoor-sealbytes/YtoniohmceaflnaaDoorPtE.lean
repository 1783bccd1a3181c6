/- What bytes say was signed, walked: the program's Decode. -/
import Derived.Test.YtoniohmceaflnaaDoorPtC
import Derived.Deep.RegionHeld3
import Derived.Deep.DeepCutAuto
import Derived.Test.YtoniohmceaflnaaDoorOnD
namespace Go.Proofs.YtoniohmceaflnaaDoor
open Go.RowKit
attribute [local go_sem ↓] Go.wp_at_zero Go.wp_at_succ

def sDecV (s : List UInt8) : (Int × Int) × List UInt8 × List UInt8 := (sDecL s).getD ((0, 0), [], [])
def sDecE (s : List UInt8) : Int := if (sDecL s).isSome then 0 else 4
theorem sDecT_not {l : List (List UInt8)} (h : ∀ a t tg, l = [a, t, tg] → tg.length ≠ 16) : sDecT l = none := by
  unfold sDecT
  split
  · rename_i a t tg
    rw [if_neg (h a t tg rfl)]
  · rfl
theorem list3 {l : List (List UInt8)} (h : l.length = 3) : ∃ a b c, l = [a, b, c] := by
  match l with
  | [] => cases h
  | [_] => cases h
  | [_, _] => cases h
  | [a, b, c] => exact ⟨a, b, c, rfl⟩
  | _ :: _ :: _ :: _ :: _ => simp at h
/-- What is asked first, of a list of texts. -/
theorem sDec_first (s : List UInt8) : (∃ a t tg, texts s = [a, t, tg] ∧ tg.length = 16 ∧ errOf s = 0 ∧ sDecV s = if partyE a = 0 then ((partyG a, partyN a), t, tg) else ((0, 0), [], [])) ∧ sDecE s = partyE ((texts s).headD []) ∨
    (sDecV s = ((0, 0), [], []) ∧ sDecE s = 4 ∧ ((∃ a t tg, texts s = [a, t, tg] ∧ errOf s = 0 ∧ tg.length ≠ 16) ∨ errOf s = 0 ∧ (texts s).length ≠ 3 ∨ errOf s = 4)) := by
  by_cases h3 : (texts s).length = 3
  · have h0 : errOf s = 0 := by
      rcases err_cases s with h | ⟨_, h⟩
      · exact h
      · rw [h] at h3; cases h3
    obtain ⟨a, t, tg, hT⟩ := list3 h3
    by_cases hl : tg.length = 16
    · refine .inl ⟨⟨a, t, tg, hT, hl, h0, ?_⟩, ?_⟩
      · rw [sDecV, sDecL, hT, sDecT, if_pos hl, partyE, partyG, partyN]
        rcases hp : partyL a with _ | ⟨g, n⟩
        · simp
        · simp
      · rw [sDecE, sDecL, hT, sDecT, if_pos hl, partyE]
        rcases hp : partyL a with _ | ⟨g, n⟩
        · simp [hp]
        · simp [hp]
    · have hn : sDecL s = none := by
        rw [sDecL, hT]; exact sDecT_not (fun a' t' tg' h => by simp only [List.cons.injEq, and_true] at h; rw [← h.2.2]; exact hl)
      exact .inr ⟨by rw [sDecV, hn]; rfl, by rw [sDecE, hn]; rfl, .inl ⟨a, t, tg, hT, h0, hl⟩⟩
  · have hn : sDecL s = none := sDecT_not (fun a t tg h => by rw [h] at h3; exact absurd rfl h3)
    refine .inr ⟨by rw [sDecV, hn]; rfl, by rw [sDecE, hn]; rfl, .inr ?_⟩
    rcases err_cases s with h | ⟨h, _⟩
    · exact .inl ⟨h, h3⟩
    · exact .inr h
theorem partyE_cases (a : List UInt8) : partyE a = 0 ∨ partyE a = 4 := by
  unfold partyE
  split
  · exact .inl rfl
  · exact .inr rfl

set_option maxRecDepth 20000 in
set_option maxHeartbeats 2000000 in
theorem sDecode_any (s : List UInt8) (w : World) (hs : s.length ≤ 1000000) (he : Env w) :
    Calls Tryd.prog 22 #[.string (bs s)] w fun e W' => e = .returned (.tuple #[.agg #[.int .i64 (sDecV s).1.1, .int .i64 (sDecV s).1.2, .string (bs (sDecV s).2.1), .string (bs (sDecV s).2.2)], .int .i64 (sDecE s)]) ∧ Below w.heap.size w W' := by
  have hb0 : Below w.heap.size w (w.alloc (.cells #[.int .i64 0, .int .i64 0, .string ⟨#[]⟩, .string ⟨#[]⟩] 36)) := (Below.refl _ w).alloc (Nat.le_refl _) _
  have r0 : (w.alloc (.cells #[.int .i64 0, .int .i64 0, .string ⟨#[]⟩, .string ⟨#[]⟩] 36)).heap[w.heap.size]? = some (.cells #[.int .i64 0, .int .i64 0, .string ⟨#[]⟩, .string ⟨#[]⟩] 36) := heap_alloc_new _ _
  have hlp : w.heap.size < (w.alloc (.cells #[.int .i64 0, .int .i64 0, .string ⟨#[]⟩, .string ⟨#[]⟩] 36)).heap.size := by simp
  have hU := Unpack_any s (w.alloc (.cells #[.int .i64 0, .int .i64 0, .string ⟨#[]⟩, .string ⟨#[]⟩] 36)) hs (he.next hb0)
  rcases sDec_first s with ⟨⟨a, t, tg, hT, hl, h0, hV⟩, hE⟩ | ⟨hV, hE, hcase⟩
  · have hla := texts_mem (s := s) (t := a) (by rw [hT]; simp)
    rw [hV, hE, hT, List.headD_cons]
    rw [h0, hT] at hU
    have hq : (((bs tg).size : Int) != 16) = false := by rw [bs_size, hl]; rfl
    have hPc := partyE_cases a
    have hP := fun W (h : Env W) => Party_any a W (by omega) h
    obtain ⟨PG, hPG⟩ : ∃ x, partyG a = x := ⟨_, rfl⟩
    obtain ⟨PN, hPN⟩ : ∃ x, partyN a = x := ⟨_, rfl⟩
    obtain ⟨PE, hPE⟩ : ∃ x, partyE a = x := ⟨_, rfl⟩
    rw [hPG, hPN, hPE]
    rw [hPG, hPN, hPE] at hP
    rw [hPE] at hPc
    clear hPG hPN hPE hV hE hT hl h0
    rcases hPc with rfl | rfl
    · rw [if_pos rfl]
      go_enter Tryd.func22, Tryd.ntmps22
      go_wp2_with fail
      refine hU.mono ?_
      clear hU
      rintro e w1 ⟨v, rfl, hv, hb1⟩
      obtain ⟨vb, vo, vc, rfl, hvl, c0, c1, c2⟩ := (Sl.of_owns (l := [a, t, tg]) hv).cells3
      have hvg := own_ge hv vb rfl
      have hB1 := hb0.trans (hb1.mono hb0.size)
      have r1 := (hb1.block w.heap.size hlp).trans r0
      have hl1 : w.heap.size < w1.heap.size := (Array.getElem?_eq_some_iff.1 r1).1
      have he1 := he.next hB1
      clear hv hb1 r0 hb0 hlp
      go_wp2_with fail
      refine (hP w1 he1).mono ?_
      clear hP
      rintro e w2 ⟨rfl, hb2⟩
      have hB2 := hB1.trans (hb2.mono hB1.size)
      have r2 := (hb2.block w.heap.size hl1).trans r1
      have hl2 : w.heap.size < w2.heap.size := (Array.getElem?_eq_some_iff.1 r2).1
      have d1 := (hb2.cell (p := ⟨vb, vo + 1, none⟩) hvl).trans c1
      have d2 := (hb2.cell (p := ⟨vb, vo + 2, none⟩) hvl).trans c2
      have hvl2 : vb < w2.heap.size := Nat.lt_of_lt_of_le hvl hb2.size
      clear hb2 c0 c1 c2 r1 hB1 he1 hvl
      have hb3 : Below w2.heap.size w2 (w2.alloc (.cells #[.int .i64 PG, .int .i64 PN] 23)) := (Below.refl _ _).alloc (Nat.le_refl _) _
      have q3 : (w2.alloc (.cells #[.int .i64 PG, .int .i64 PN] 23)).heap[w2.heap.size]? = some (.cells #[.int .i64 PG, .int .i64 PN] 23) := heap_alloc_new _ _
      go_wp2_with fail
      obtain ⟨W3, hW3⟩ : ∃ W, w2.alloc (.cells #[.int .i64 PG, .int .i64 PN] 23) = W := ⟨_, rfl⟩
      rw [hW3] at hb3 q3 ⊢
      clear hW3
      have hB3 := hB2.trans (hb3.mono hB2.size)
      have r3 := (hb3.block w.heap.size hl2).trans r2
      have e1 := (hb3.cell (p := ⟨vb, vo + 1, none⟩) hvl2).trans d1
      have e2 := (hb3.cell (p := ⟨vb, vo + 2, none⟩) hvl2).trans d2
      have hne1 : w.heap.size ≠ w2.heap.size := by omega
      have hne2 : w.heap.size ≠ vb := by rw [World.size_alloc] at hvg; omega
      have y0 := cellB q3 0 _ rfl
      have y1 := cellB q3 1 _ rfl
      have f0 := frozenB r3 0
      have f1 := frozenB r3 1
      have f2 := frozenB r3 2
      have f3 := frozenB r3 3
      have s0 := cellB r3 0 _ rfl
      have s1 := cellB r3 1 _ rfl
      have s2 := cellB r3 2 _ rfl
      have s3 := cellB r3 3 _ rfl
      go_region_held3 (fun w' => w'.cell? ⟨w2.heap.size, 0, none⟩ = some (.int .i64 PG) ∧ w'.cell? ⟨w2.heap.size, 1, none⟩ = some (.int .i64 PN) ∧ w'.cell? ⟨vb, vo + 1, none⟩ = some (.string (bs t)) ∧ w'.cell? ⟨vb, vo + 2, none⟩ = some (.string (bs tg))) (go_keep) (fail)
      have hr4 := setB (setB (setB (setB r3 0 (.int .i64 PG)) 1 (.int .i64 PN)) 2 (.string (bs t))) 3 (.string (bs tg))
      have z0 := cellB hr4 0 (.int .i64 PG) rfl
      have z1 := cellB hr4 1 (.int .i64 PN) rfl
      have z2 := cellB hr4 2 (.string (bs t)) rfl
      have z3 := cellB hr4 3 (.string (bs tg)) rfl
      have hBz := below_drew3 ((((hB3.setCell (p := ⟨w.heap.size, 0, none⟩) (Nat.le_refl _) (.int .i64 PG)).setCell (p := ⟨w.heap.size, 1, none⟩) (Nat.le_refl _) (.int .i64 PN)).setCell (p := ⟨w.heap.size, 2, none⟩) (Nat.le_refl _) (.string (bs t))).setCell (p := ⟨w.heap.size, 3, none⟩) (Nat.le_refl _) (.string (bs tg)))
      go_wp2
      exact bodyPost_ret (v := .tuple #[.agg #[.int .i64 PG, .int .i64 PN, .string (bs t), .string (bs tg)], .int .i64 0]) (by simp [results, Tryd.f22, go_sem, z0, z1, z2, z3]) rfl ⟨rfl, hBz⟩
    · rw [if_neg (by decide)]
      go_enter Tryd.func22, Tryd.ntmps22
      go_wp2_with fail
      refine hU.mono ?_
      clear hU
      rintro e w1 ⟨v, rfl, hv, hb1⟩
      obtain ⟨vb, vo, vc, rfl, hvl, c0, c1, c2⟩ := (Sl.of_owns (l := [a, t, tg]) hv).cells3
      have hvg := own_ge hv vb rfl
      have hB1 := hb0.trans (hb1.mono hb0.size)
      have r1 := (hb1.block w.heap.size hlp).trans r0
      have hl1 : w.heap.size < w1.heap.size := (Array.getElem?_eq_some_iff.1 r1).1
      have he1 := he.next hB1
      clear hv hb1 r0 hb0 hlp
      go_wp2_with fail
      refine (hP w1 he1).mono ?_
      clear hP
      rintro e w2 ⟨rfl, hb2⟩
      have hB2 := hB1.trans (hb2.mono hB1.size)
      have r2 := (hb2.block w.heap.size hl1).trans r1
      have hl2 : w.heap.size < w2.heap.size := (Array.getElem?_eq_some_iff.1 r2).1
      have d1 := (hb2.cell (p := ⟨vb, vo + 1, none⟩) hvl).trans c1
      have d2 := (hb2.cell (p := ⟨vb, vo + 2, none⟩) hvl).trans c2
      have hvl2 : vb < w2.heap.size := Nat.lt_of_lt_of_le hvl hb2.size
      clear hb2 c0 c1 c2 r1 hB1 he1 hvl
      have hb3 : Below w2.heap.size w2 (w2.alloc (.cells #[.int .i64 PG, .int .i64 PN] 23)) := (Below.refl _ _).alloc (Nat.le_refl _) _
      have q3 : (w2.alloc (.cells #[.int .i64 PG, .int .i64 PN] 23)).heap[w2.heap.size]? = some (.cells #[.int .i64 PG, .int .i64 PN] 23) := heap_alloc_new _ _
      go_upto_region 5 with fail
      obtain ⟨W3, hW3⟩ : ∃ W, w2.alloc (.cells #[.int .i64 PG, .int .i64 PN] 23) = W := ⟨_, rfl⟩
      rw [hW3] at hb3 q3 ⊢
      clear hW3
      have hB3 := hB2.trans (hb3.mono hB2.size)
      have r3 := (hb3.block w.heap.size hl2).trans r2
      have e1 := (hb3.cell (p := ⟨vb, vo + 1, none⟩) hvl2).trans d1
      have e2 := (hb3.cell (p := ⟨vb, vo + 2, none⟩) hvl2).trans d2
      have hne1 : w.heap.size ≠ w2.heap.size := by omega
      have hne2 : w.heap.size ≠ vb := by rw [World.size_alloc] at hvg; omega
      have y0 := cellB q3 0 _ rfl
      have y1 := cellB q3 1 _ rfl
      have f0 := frozenB r3 0
      have f1 := frozenB r3 1
      have f2 := frozenB r3 2
      have f3 := frozenB r3 3
      have s0 := cellB r3 0 _ rfl
      have s1 := cellB r3 1 _ rfl
      have s2 := cellB r3 2 _ rfl
      have s3 := cellB r3 3 _ rfl
      have hr4 := setB (setB (setB (setB r3 0 (.int .i64 0)) 1 (.int .i64 0)) 2 (.string ⟨#[]⟩)) 3 (.string ⟨#[]⟩)
      have z0 := cellB hr4 0 (.int .i64 0) rfl
      have z1 := cellB hr4 1 (.int .i64 0) rfl
      have z2 := cellB hr4 2 (.string ⟨#[]⟩) rfl
      have z3 := cellB hr4 3 (.string ⟨#[]⟩) rfl
      have hBz := (((hB3.setCell (p := ⟨w.heap.size, 0, none⟩) (Nat.le_refl _) (.int .i64 0)).setCell (p := ⟨w.heap.size, 1, none⟩) (Nat.le_refl _) (.int .i64 0)).setCell (p := ⟨w.heap.size, 2, none⟩) (Nat.le_refl _) (.string ⟨#[]⟩)).setCell (p := ⟨w.heap.size, 3, none⟩) (Nat.le_refl _) (.string ⟨#[]⟩)
      clear hr4
      go_wp2
      exact bodyPost_ret (v := .tuple #[.agg #[.int .i64 0, .int .i64 0, .string ⟨#[]⟩, .string ⟨#[]⟩], .int .i64 4]) (by simp [results, Tryd.f22, go_sem, z0, z1, z2, z3]) rfl ⟨rfl, hBz⟩
  · rw [hV, hE]
    have hcase2 : errOf s = 0 ∧ (∃ a t tg, texts s = [a, t, tg] ∧ (((bs tg).size : Int) != 16) = true) ∨ errOf s = 0 ∧ (((texts s).length : Int) != 3) = true ∨ errOf s = 4 := by
      rcases hcase with ⟨a, t, tg, h1, h2, h3⟩ | ⟨h1, h2⟩ | h1
      · exact .inl ⟨h2, a, t, tg, h1, by rw [bs_size]; simp; omega⟩
      · exact .inr (.inl ⟨h1, by simp; omega⟩)
      · exact .inr (.inr h1)
    obtain ⟨ES, hES⟩ : ∃ x, errOf s = x := ⟨_, rfl⟩
    rw [hES] at hU hcase2
    obtain ⟨L, hL⟩ : ∃ L, texts s = L := ⟨_, rfl⟩
    rw [hL] at hU hcase2
    clear hES hL hcase hV hE
    go_enter Tryd.func22, Tryd.ntmps22
    go_wp2_with fail
    refine hU.mono ?_
    clear hU
    rintro e w1 ⟨v, rfl, hv, hb1⟩
    have hB1 := hb0.trans (hb1.mono hb0.size)
    have r1 := (hb1.block w.heap.size hlp).trans r0
    have f0 := frozenB r1 0
    have f1 := frozenB r1 1
    have f2 := frozenB r1 2
    have f3 := frozenB r1 3
    have s0 := cellB r1 0 _ rfl
    have s1 := cellB r1 1 _ rfl
    have s2 := cellB r1 2 _ rfl
    have s3 := cellB r1 3 _ rfl
    have hr4 := setB (setB (setB (setB r1 0 (.int .i64 0)) 1 (.int .i64 0)) 2 (.string ⟨#[]⟩)) 3 (.string ⟨#[]⟩)
    have z0 := cellB hr4 0 (.int .i64 0) rfl
    have z1 := cellB hr4 1 (.int .i64 0) rfl
    have z2 := cellB hr4 2 (.string ⟨#[]⟩) rfl
    have z3 := cellB hr4 3 (.string ⟨#[]⟩) rfl
    have hBz := (((hB1.setCell (p := ⟨w.heap.size, 0, none⟩) (Nat.le_refl _) (.int .i64 0)).setCell (p := ⟨w.heap.size, 1, none⟩) (Nat.le_refl _) (.int .i64 0)).setCell (p := ⟨w.heap.size, 2, none⟩) (Nat.le_refl _) (.string ⟨#[]⟩)).setCell (p := ⟨w.heap.size, 3, none⟩) (Nat.le_refl _) (.string ⟨#[]⟩)
    clear hr4 hb1 r0 hb0
    rcases hcase2 with ⟨rfl, a, t, tg, rfl, hq⟩ | hcase2
    · obtain ⟨vb, vo, vc, rfl, hvl, c0, c1, c2⟩ := (Sl.of_owns (l := [a, t, tg]) hv).cells3
      clear hv
      go_wp2
      exact bodyPost_ret (v := .tuple #[.agg #[.int .i64 0, .int .i64 0, .string ⟨#[]⟩, .string ⟨#[]⟩], .int .i64 4]) (by simp [results, Tryd.f22, go_sem, z0, z1, z2, z3]) rfl ⟨rfl, hBz⟩
    · obtain ⟨va, vc, rfl⟩ := (Sl.of_owns hv).slice
      clear hv
      rcases hcase2 with ⟨rfl, hne⟩ | rfl
      all_goals
        go_wp2
        exact bodyPost_ret (v := .tuple #[.agg #[.int .i64 0, .int .i64 0, .string ⟨#[]⟩, .string ⟨#[]⟩], .int .i64 4]) (by simp [results, Tryd.f22, go_sem, z0, z1, z2, z3]) rfl ⟨rfl, hBz⟩
end Go.Proofs.YtoniohmceaflnaaDoor
