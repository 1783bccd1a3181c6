/- A certificate adopted. -/
import Derived.Test.YtmggfkhfiggloaaDoorMkG
namespace Go.Proofs.YtmggfkhfiggloaaDoor
open Go.RowKit
attribute [local go_sem ↓] Go.wp_at_zero Go.wp_at_succ

/-- What adopting gives. -/
def adoptR (g : Int) (s : St) (ct : List UInt8) (cg : Int) (T : List Tg) : Bool × Int × St :=
  if readE ct ≠ 0 ∨ (readV ct).1 ≠ g ∨ cg ≠ g then (false, 4, s)
  else if (readV ct).2.1 ≤ s.n then (false, 0, s)
  else (true, 0, ⟨s.V, (readV ct).2.1, (readV ct).2.2, ct, cg, T⟩)
theorem readE_cases (s : List UInt8) : readE s = 0 ∨ readE s = 4 := by
  unfold readE; split
  · exact .inl rfl
  · exact .inr rfl
theorem Adopt_nil (ct : ByteArray) (cg : Int) (v : Value) (w : World) : Calls Tryd.prog 17 #[.pointer none, .agg #[.string ct, .int .i64 cg, v]] w fun e W' => e = .returned (.tuple #[.bool false, .int .i64 7]) ∧ Below w.heap.size w W' := by
  have hb := (Below.refl w.heap.size w).alloc (Nat.le_refl _) (.cells #[.string ct, .int .i64 cg, v] 49)
  have HB : Hid (_) := hb
  clear hb
  go_enter Tryd.func17, Tryd.ntmps17
  go_wp2
  exact bodyPost_ret (v := .tuple #[.bool false, .int .i64 7]) (by simp [results, Tryd.f17, go_sem]) rfl ⟨rfl, HB.out⟩
set_option maxRecDepth 20000 in
set_option maxHeartbeats 4000000 in
theorem Adopt_any {w : World} {B : Nat} {g : Int} {f : Nat} {s : St} {cv : Value} (h : MarkAt w B g f s cv) (ct : List UInt8) (cg : Int) (T : List Tg) (v : Value) (hv : Tp w v T) (hT : T.length * 24 ≤ 140737488355328) (he : Env w) (b : Bool) (E : Int) (s' : St) (hR : adoptR g s ct cg T = (b, E, s')) :
    Calls Tryd.prog 17 #[.pointer (some ⟨B, 0, none⟩), .agg #[.string (bs ct), .int .i64 cg, v]] w fun e W' => e = .returned (.tuple #[.bool b, .int .i64 E]) ∧ ∃ cv', MarkAt W' B g f s' cv' ∧ Mv B w W' ∧ Fr w.heap.size cv cv' := by
  have hba := (Below.refl w.heap.size w).alloc (Nat.le_refl _) (.cells #[.string (bs ct), .int .i64 cg, v] 49)
  have rQ := heap_alloc_new w (.cells #[.string (bs ct), .int .i64 cg, v] 49)
  have hF := Read_any ct (w.alloc (.cells #[.string (bs ct), .int .i64 cg, v] 49)) (he.next hba)
  have q0 := cellB rQ 0 _ rfl
  have hBl := h.lt
  obtain ⟨va, vc, rfl⟩ := hv.slice
  have hq : ¬ w.heap.size = B := by omega
  unfold adoptR at hR
  have hec := readE_cases ct
  obtain ⟨⟨G, M, S⟩, hG⟩ : ∃ x, readV ct = x := ⟨_, rfl⟩
  obtain ⟨RE, hRE⟩ : ∃ x, readE ct = x := ⟨_, rfl⟩
  obtain ⟨sn, hsn⟩ : ∃ x, s.n = x := ⟨_, rfl⟩
  rw [hG, hRE] at hR hF
  rw [hRE] at hec
  rw [hsn] at hR
  simp only at hR hF
  have hsz : (w.alloc (.cells #[.string (bs ct), .int .i64 cg, .slice va T.length vc] 49)).heap.size = w.heap.size + 1 := by simp
  have HC : Hid (∀ w1, Below (w.alloc (.cells #[.string (bs ct), .int .i64 cg, .slice va T.length vc] 49)).heap.size (w.alloc (.cells #[.string (bs ct), .int .i64 cg, .slice va T.length vc] 49)) w1 → MarkAt w1 B g f s cv ∧ Below w.heap.size w w1 ∧ w1.heap[w.heap.size]? = some (.cells #[.string (bs ct), .int .i64 cg, .slice va T.length vc] 49) ∧ Tp w1 (.slice va T.length vc) T ∧ w.heap.size + 1 ≤ w1.heap.size) := by
    intro w1 hb1
    have hB1 := hba.trans (hb1.mono hba.size)
    exact ⟨h.on hB1, hB1, (hb1.block _ (by omega)).trans rQ, hv.on hB1, by have := hb1.size; omega⟩
  have HS : Hid (s.n = sn) := hsn
  clear rQ hba h hv hsn hsz hG hRE he
  by_cases hbad : RE ≠ 0 ∨ G ≠ g ∨ cg ≠ g
  · rw [if_pos hbad] at hR
    simp only [Prod.mk.injEq] at hR
    obtain ⟨rfl, rfl, rfl⟩ := hR
    have hcase : RE = 4 ∨ (RE = 0 ∧ (G != g) = true) ∨ (RE = 0 ∧ (G != g) = false ∧ (cg != g) = true) := by
      rcases hec with e | e
      · by_cases e2 : G = g
        · right; right
          refine ⟨e, by simp [e2], ?_⟩
          rcases hbad with h | h | h
          · exact absurd e h
          · exact absurd e2 h
          · simpa using h
        · right; left; exact ⟨e, by simpa using e2⟩
      · exact .inl e
    clear hbad hec
    rcases hcase with rfl | ⟨rfl, e1⟩ | ⟨rfl, e1, e2⟩
    all_goals
      go_enter Tryd.func17, Tryd.ntmps17
      go_upto_region 4 with (first | (go_at_call 10; refine hF.mono ?_; rintro e w1 ⟨rfl, hb⟩))
      obtain ⟨h1, hB1, rQ1, hv1, hs1⟩ := HC.out _ hb
      have c0 := h1.c.1
      have q1 := cellB rQ1 1 _ rfl
      have HZ : Hid (_ ∧ _) := ⟨h1, hB1⟩
      clear HC h1 hB1 rQ1 hv1 hb hF
      go_quiet (fail)
      go_wp2
      obtain ⟨h1, hB1⟩ := HZ.out
      exact bodyPost_ret (v := .tuple #[.bool false, .int .i64 4]) (by simp [results, Tryd.f17, go_sem]) rfl ⟨rfl, _, h1.on (below_drewN (Below.refl _ w1) nq), (Mv.of_below hB1 B).trans (Mv.of_below (below_drewN (Below.refl _ w1) nq) B), fun k hk => .inl hk⟩
  · rw [if_neg hbad] at hR
    obtain ⟨rfl, rfl, rfl⟩ : RE = 0 ∧ G = g ∧ cg = g := by
      refine ⟨?_, ?_, ?_⟩
      · by_cases e : RE = 0
        · exact e
        · exact absurd (.inl e) hbad
      · by_cases e : G = g
        · exact e
        · exact absurd (.inr (.inl e)) hbad
      · by_cases e : cg = g
        · exact e
        · exact absurd (.inr (.inr e)) hbad
    have e1 : (cg != cg) = false := by simp
    clear hbad hec
    have HR : Hid (_) := hR
    clear hR
    go_enter Tryd.func17, Tryd.ntmps17
    go_upto_region 4 with (first | (go_at_call 10; refine hF.mono ?_; rintro e w1 ⟨rfl, hb⟩))
    obtain ⟨h1, hB1, rQ1, hv1, hs1⟩ := HC.out _ hb
    have c0 := h1.c.1
    have q1 := cellB rQ1 1 _ rfl
    have HZ : Hid (_ ∧ _ ∧ _ ∧ _) := ⟨h1, hB1, rQ1, hv1⟩
    clear HC h1 hB1 rQ1 hv1 hb hF
    go_quiet (fail)
    obtain ⟨h1, hB1, rQ1, hv1⟩ := HZ.out
    have hdr := below_drewN (Below.refl w1.heap.size w1) nq
    have h2 := h1.on hdr
    have hB2 : Below w.heap.size w (w1.drewN nq) := hB1.trans (hdr.mono hB1.size)
    have rQ2 : (w1.drewN nq).heap[w.heap.size]? = _ := rQ1
    have hv2 := hv1.on hdr
    have hs2 : w.heap.size + 1 ≤ (w1.drewN nq).heap.size := hs1
    obtain ⟨W, hW⟩ : ∃ W, w1.drewN nq = W := ⟨_, rfl⟩
    obtain ⟨Q, hQ⟩ : ∃ Q, w.heap.size = Q := ⟨_, rfl⟩
    rw [hW] at h2 hB2 rQ2 hv2 hs2 ⊢
    have HQ : Hid (w.heap.size = Q) := hQ
    have HB2 : Hid (Below w.heap.size w W) := hB2
    rw [hQ] at rQ2 hs2 hq ⊢
    have hq2 : ¬ B = Q := fun e => hq e.symm
    obtain ⟨c32, c33, c34, c35, c36⟩ := h2.cs
    rw [HS.out] at c32
    have q0 := cellB rQ2 0 _ rfl
    have q1 := cellB rQ2 1 _ rfl
    have q2 := cellB rQ2 2 _ rfl
    have hN := clone_any (bs ct) cg T (.slice va T.length vc) W hT hv2
    have HY : Hid (_ ∧ _) := ⟨h2, hv2⟩
    clear HZ h1 hB1 rQ1 hv1 hdr h2 hB2 hv2 hW c0 hs1 rQ2
    by_cases hn : M ≤ sn
    · have hR := HR.out
      rw [if_pos hn] at hR
      simp only [Prod.mk.injEq] at hR
      obtain ⟨rfl, rfl, rfl⟩ := hR
      clear hN HR
      go_wp2
      exact bodyPost_ret (v := .tuple #[.bool false, .int .i64 0]) (by simp [results, Tryd.f17, go_sem]) rfl ⟨rfl, _, HY.out.1, Mv.of_below HB2.out B, fun k hk => .inl hk⟩
    · have hR := HR.out
      rw [if_neg hn] at hR
      simp only [Prod.mk.injEq] at hR
      obtain ⟨rfl, rfl, rfl⟩ := hR
      have hn2 : sn < M := by omega
      clear hn HR
      go_wp2_with (first | (go_at_call 36; refine hN.mono ?_; rintro e w3 ⟨v', rfl, ho3, hb3⟩; obtain ⟨a3, c3, rfl⟩ := owns_slice ho3; have h3 := HY.out.1.on hb3; obtain ⟨d32, d33, d34, d35, d36⟩ := h3.cs; have z0 := h3.frozen 32; have z1 := h3.frozen 33; have z2 := h3.frozen 34; have z3 := h3.frozen 35; have z4 := h3.frozen 36; have HW : Hid (_ ∧ _ ∧ _) := ⟨h3, ho3, hb3⟩; clear h3 ho3 hb3))
      obtain ⟨h3, ho3, hb3⟩ := HW.out
      have ho4 : ∀ k, (Value.slice a3 T.length c3).ownBlock = some k → Q + 1 ≤ k := fun k hk => by have := (ho3.lt k hk).1; omega
      have h4 := MarkAt.stab h3 M S ct cg T (.slice a3 T.length c3) (Tp.of_owns ho3) (fun k hk _ => by have := ho4 k hk; have := HQ.out; omega) hT
      have hm4 := ((Mv.of_below HB2.out B).trans (Mv.of_below hb3 B)).trans (putS_mv w3 B (.int .i64 M) (.string (bs S)) (.string (bs ct)) (.int .i64 cg) (.slice a3 T.length c3))
      unfold putS at h4 hm4
      exact bodyPost_ret (v := .tuple #[.bool true, .int .i64 0]) (by simp [results, Tryd.f17, go_sem]) rfl ⟨rfl, _, h4, hm4, fun k hk => .inr (by have := ho4 k hk; have := HQ.out; omega)⟩
end Go.Proofs.YtmggfkhfiggloaaDoor
