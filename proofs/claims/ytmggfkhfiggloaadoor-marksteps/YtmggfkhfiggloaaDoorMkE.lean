/- The marks' textOf and Stable, walked. -/
import Derived.Test.YtmggfkhfiggloaaDoorMkD
namespace Go.Proofs.YtmggfkhfiggloaaDoor
open Go.RowKit
attribute [local go_sem ↓] Go.wp_at_zero Go.wp_at_succ

/-- A vote's text, of a group and f. -/
def tofE (g : Int) (f : Nat) (no n : Int) (st : List UInt8) : Int := if inR no 0 (3 * (f : Int)) = true then textE g n st else 1
def tofV (g : Int) (f : Nat) (no n : Int) (st : List UInt8) : List UInt8 := if inR no 0 (3 * (f : Int)) = true then textV g n st else []
def nilE (no : Int) : Int := if no < 0 then 1 else 7
theorem textOf_nil (no n : Int) (st : ByteArray) (w : World) : Calls Tryd.prog 34 #[.pointer none, .int .i64 no, .int .i64 n, .string st] w fun e W' => e = .returned (.tuple #[.string (bs []), .int .i64 (nilE no)]) ∧ W' = w := by
  unfold nilE
  by_cases h : no < 0
  · rw [if_pos h]
    go_enter Tryd.func34, Tryd.ntmps34
    go_wp2
    exact bodyPost_ret (v := .tuple #[.string (bs []), .int .i64 1]) (by simp [results, Tryd.f34, go_sem, bs]) rfl ⟨rfl, rfl⟩
  · rw [if_neg h]
    have h0 : 0 ≤ no := by omega
    clear h
    go_enter Tryd.func34, Tryd.ntmps34
    go_wp2
    exact bodyPost_ret (v := .tuple #[.string (bs []), .int .i64 7]) (by simp [results, Tryd.f34, go_sem, bs]) rfl ⟨rfl, rfl⟩
set_option maxRecDepth 20000 in
set_option maxHeartbeats 1000000 in
theorem textOf_any {w : World} {B : Nat} {g : Int} {f : Nat} {s : St} {cv : Value} (h : MarkAt w B g f s cv) (no n : Int) (st : List UInt8) (hs : st.length ≤ 140737488351232) (he : EnvP w) : Calls Tryd.prog 34 #[.pointer (some ⟨B, 0, none⟩), .int .i64 no, .int .i64 n, .string (bs st)] w fun e W' => e = .returned (.tuple #[.string (bs (tofV g f no n st)), .int .i64 (tofE g f no n st)]) ∧ Below w.heap.size w W' := by
  obtain ⟨c0, c1⟩ := h.c
  have f3 : (f : Int) ≤ 3 := by have := h.f3; omega
  have hT := Text_any g n st w hs he
  unfold tofE tofV
  cases hr : inR no 0 (3 * (f : Int))
  · rw [if_neg (by decide), if_neg (by decide)]
    rcases inR_f hr with h1 | ⟨h1, h2⟩
    all_goals
      clear h hr hT
      go_enter Tryd.func34, Tryd.ntmps34
      go_wp2
      exact bodyPost_ret (v := .tuple #[.string (bs []), .int .i64 1]) (by simp [results, Tryd.f34, go_sem, bs]) rfl ⟨rfl, Below.refl _ _⟩
  · rw [if_pos rfl, if_pos rfl]
    obtain ⟨r0, r1⟩ := inR_t hr
    obtain ⟨E, hE⟩ : ∃ x, textE g n st = x := ⟨_, rfl⟩
    obtain ⟨X, hX⟩ : ∃ x, textV g n st = x := ⟨_, rfl⟩
    rw [hE, hX] at hT ⊢
    clear h hr hE hX
    go_enter Tryd.func34, Tryd.ntmps34
    go_wp2_with (first | (go_at_call 8; refine hT.mono ?_; rintro e w1 ⟨rfl, hb⟩))
    exact bodyPost_ret (v := .tuple #[.string (bs X), .int .i64 E]) (by simp [results, Tryd.f34, go_sem]) rfl ⟨rfl, hb⟩

theorem Stable_nil (w : World) : Calls Tryd.prog 20 #[.pointer none] w fun e W' => e = .returned (.tuple #[.int .i64 0, .string (bs []), .agg #[.string (bs []), .int .i64 0, .slice none 0 0]]) ∧ Below w.heap.size w W' := by
  have r1 := heap_alloc_new w (.cells #[.string ⟨#[]⟩, .int .i64 0, .slice none 0 0] 49)
  have hba := (Below.refl w.heap.size w).alloc (Nat.le_refl _) (.cells #[.string ⟨#[]⟩, .int .i64 0, .slice none 0 0] 49)
  have HX : Hid (_ ∧ _) := ⟨hba, r1⟩
  clear hba r1
  go_enter Tryd.func20, Tryd.ntmps20
  go_upto_region 2 with fail
  obtain ⟨hba, r1⟩ := HX.out
  obtain ⟨W, hW⟩ : ∃ W, w.alloc (.cells #[.string ⟨#[]⟩, .int .i64 0, .slice none 0 0] 49) = W := ⟨_, rfl⟩
  rw [hW] at hba r1 ⊢
  have f0 := frozenB r1 0
  have f1 := frozenB r1 1
  have f2 := frozenB r1 2
  have c0 := cellB r1 0 _ rfl
  have c1 := cellB r1 1 _ rfl
  have c2 := cellB r1 2 _ rfl
  clear HX hW
  have hr := put3_blk r1 (.string (bs [])) (.int .i64 0) (.slice none 0 0)
  have hb := put3_below hba (Nat.le_refl w.heap.size) (.string (bs [])) (.int .i64 0) (.slice none 0 0)
  have x1 := cellB hr 0 _ rfl
  have x2 := cellB hr 1 _ rfl
  have x3 := cellB hr 2 _ rfl
  have HB : Hid (_) := hb
  unfold put3 at x1 x2 x3
  have HY : Hid (_ ∧ _ ∧ _) := ⟨x1, x2, x3⟩
  clear r1 hba x1 x2 x3 hr hb
  go_wp2
  obtain ⟨x1, x2, x3⟩ := HY.out
  exact bodyPost_ret (v := .tuple #[.int .i64 0, .string (bs []), .agg #[.string (bs []), .int .i64 0, .slice none 0 0]]) (by simp [bs] at x1 x2 x3; simp [results, Tryd.f20, go_sem, x1, x2, x3, bs]) rfl ⟨rfl, HB.out⟩
set_option maxRecDepth 20000 in
set_option maxHeartbeats 4000000 in
theorem Stable_any {w : World} {B : Nat} {g : Int} {f : Nat} {s : St} {cv : Value} (h : MarkAt w B g f s cv) : Calls Tryd.prog 20 #[.pointer (some ⟨B, 0, none⟩)] w fun e W' => ∃ v, e = .returned (.tuple #[.int .i64 s.n, .string (bs s.s), .agg #[.string (bs s.t), .int .i64 s.g, v]]) ∧ W'.ownsRow w.heap.size 94 2 v s.T.length (tcs s.T) ∧ Below w.heap.size w W' := by
  obtain ⟨V, n, s, t, sg, T⟩ := s
  dsimp only
  have hba := (Below.refl w.heap.size w).alloc (Nat.le_refl _) (.cells #[.string ⟨#[]⟩, .int .i64 0, .slice none 0 0] 49)
  have h1 := h.on hba
  have r1 := heap_alloc_new w (.cells #[.string ⟨#[]⟩, .int .i64 0, .slice none 0 0] 49)
  have hlB := h.lt
  have HX : Hid (_ ∧ _ ∧ _) := ⟨hba, r1, h1⟩
  have hsz : (w.alloc (.cells #[.string ⟨#[]⟩, .int .i64 0, .slice none 0 0] 49)).heap.size = w.heap.size + 1 := by simp
  clear h h1 hba r1
  go_enter Tryd.func20, Tryd.ntmps20
  go_upto_region 3 with fail
  obtain ⟨hba, r1, h1⟩ := HX.out
  obtain ⟨W2, hW2⟩ : ∃ W, (w.alloc (.cells #[.string ⟨#[]⟩, .int .i64 0, .slice none 0 0] 49)) = W := ⟨_, rfl⟩
  obtain ⟨R, hR⟩ : ∃ R, w.heap.size = R := ⟨_, rfl⟩
  have HB : Hid (Below R w W2) := by rw [← hR, ← hW2]; exact hba
  have HR : Hid (w.heap.size = R) := hR
  rw [hW2] at r1 h1 hsz ⊢
  rw [hR] at r1 hlB hsz ⊢
  have hBR : ¬ B = R := by omega
  have hRB : ¬ R = B := by omega
  have hc := h1.cs
  have hTp := h1.tags
  have hln := h1.len
  dsimp only at hc hTp hln
  obtain ⟨y0, y1, y2, y3, y4⟩ := hc
  have hlt1 := h1.lt
  have hlt2 := (Array.getElem?_eq_some_iff.1 r1).1
  obtain ⟨va, vc, rfl⟩ := hTp.slice
  have hN : Calls Tryd.prog 36 #[.agg #[.string (bs t), .int .i64 sg, .slice va T.length vc]] W2.drew fun e W' => ∃ a' c', e = .returned (.agg #[.string (bs t), .int .i64 sg, .slice a' T.length c']) ∧ W'.ownsRow W2.heap.size 94 2 (.slice a' T.length c') T.length (tcs T) ∧ Below W2.heap.size W2 W' ∧ W'.cell? ⟨B, 32, none⟩ = some (.int .i64 n) ∧ W'.cell? ⟨B, 33, none⟩ = some (.string (bs s)) ∧ W'.cell? ⟨B, 34, none⟩ = some (.string (bs t)) ∧ W'.cell? ⟨B, 35, none⟩ = some (.int .i64 sg) ∧ W'.cell? ⟨B, 36, none⟩ = some (.slice va T.length vc) ∧ W'.heap[R]? = some (.cells #[.string ⟨#[]⟩, .int .i64 0, .slice none 0 0] 49) := by
    refine (clone_any (bs t) sg T (.slice va T.length vc) W2.drew hln (hTp.keep (Nat.le_refl _) (fun _ _ _ _ => rfl))).mono ?_
    rintro e W' ⟨v', rfl, ho, hb⟩
    have hb' : Below W2.heap.size W2 W' := ⟨hb.os, hb.tape, hb.output, hb.size, hb.block⟩
    obtain ⟨a', c', rfl⟩ := owns_slice ho
    exact ⟨a', c', rfl, ho, hb', (hb'.cell (p := ⟨B, 32, none⟩) hlt1).trans y0, (hb'.cell (p := ⟨B, 33, none⟩) hlt1).trans y1, (hb'.cell (p := ⟨B, 34, none⟩) hlt1).trans y2, (hb'.cell (p := ⟨B, 35, none⟩) hlt1).trans y3, (hb'.cell (p := ⟨B, 36, none⟩) hlt1).trans y4, (hb'.block _ hlt2).trans r1⟩
  have z0 := cellB r1 0 _ rfl
  have z1 := cellB r1 1 _ rfl
  have z2 := cellB r1 2 _ rfl
  have HZ : Hid (W2.heap.size = R + 1) := hsz
  clear r1 HX h1 hba hTp hln hW2 hsz
  go_region_held3 (fun w' => w'.cell? ⟨B, 32, none⟩ = some (.int .i64 n) ∧ w'.cell? ⟨B, 33, none⟩ = some (.string (bs s)) ∧ w'.cell? ⟨B, 34, none⟩ = some (.string (bs t)) ∧ w'.cell? ⟨B, 35, none⟩ = some (.int .i64 sg) ∧ w'.cell? ⟨B, 36, none⟩ = some (.slice va T.length vc)) (go_keep)
    (first
      | (go_at_call 36; refine hN.mono ?_; rintro e w3 ⟨a', c', rfl, ho3, hb3, k0, k1, k2, k3, k4, rR⟩; have m0 := cellB rR 0 _ rfl; have m1 := cellB rR 1 _ rfl; have m2 := cellB rR 2 _ rfl; have f0 := frozenB rR 0; have f1 := frozenB rR 1; have f2 := frozenB rR 2))
  all_goals
    go_wp2
    have hr := put3_blk rR (.string (bs t)) (.int .i64 sg) (.slice a' T.length c')
    have x1 := cellB hr 0 _ rfl
    have x2 := cellB hr 1 _ rfl
    have x3 := cellB hr 2 _ rfl
    unfold put3 at x1 x2 x3
    have hz := HZ.out
    refine bodyPost_ret (v := .tuple #[.int .i64 n, .string (bs s), .agg #[.string (bs t), .int .i64 sg, .slice a' T.length c']]) (by simp [results, Tryd.f20, go_sem, x1, x2, x3]) rfl ⟨_, rfl, ?_, ?_⟩
    · rw [HR.out]
      exact owns_base (owns_kept ho3 (fun k hk => put3_far (by have := (ho3.lt k hk).1; omega) _ _ _)) (by omega)
    · rw [HR.out]
      exact put3_below (HB.out.trans (hb3.mono (by omega))) (Nat.le_refl _) _ _ _
end Go.Proofs.YtmggfkhfiggloaaDoor
