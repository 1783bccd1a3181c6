/- What the statements all ask besides: a plan of three best orders. -/
import Derived.Test.YtifalaigfinciaaGreatDoorShG
import Derived.Test.YtifalaigfinciaaGreatDoorCtE
namespace Go.Proofs.YtifalaigfinciaaGreatDoor
open Go.RowKit
attribute [local go_sem ↓] Go.wp_at_zero Go.wp_at_succ

theorem said_small {k b : List UInt8} {g v n : Int} (h : inS g v n = true) (hk : k.length ≤ 1000) (hb : b.length ≤ 9000) : saidE k g v n b = 0 := by
  have h1 := said_tot (k := k) (b := b) h
  have h2 := pack_len [k, Lib.itoa g, Lib.itoa v, Lib.itoa n, b] (by omega)
  simp only [List.length_cons, List.length_nil] at h2
  exact (saidE_0 (k := k) (b := b) h (by unfold saidT; omega)).1
theorem sread_said {k b : List UInt8} {g v n : Int} (hk : k = kOrd ∨ k = kSet) (h : saidE k g v n b = 0) : sreadV (saidV k g v n b) = (k, g, v, n, b) := by
  obtain ⟨h1, h2, h3⟩ := saidE_zero h
  rw [h3]
  exact (sread_some (sreadL_some.2 ⟨hk, h1, rfl, h2⟩)).1
theorem sread_nil : sreadV [] = ([], 0, 0, 0, []) := by
  refine (sread_none ?_).1
  rfl
theorem Bl_new1 (w : World) (n v : Int) (t : List UInt8) (g : Int) (ta : Option Addr) (tn tc B : Nat) (hB : w.heap.size = B) (m : Nat) (hm : B < m) : Bl m (w.alloc (.cells #[.int .i64 n, .int .i64 v, .string (bs t), .int .i64 g, .slice ta tn tc] 34)) (.slice (some ⟨B, 0, none⟩) 1 1) [⟨n, v, t, g, ta, tn, tc⟩] := by
  have hh := heap_alloc_new w (.cells #[.int .i64 n, .int .i64 v, .string (bs t), .int .i64 g, .slice ta tn tc] 34)
  rw [hB] at hh
  refine .inr ⟨B, 0, 1, rfl, hm, fun i x hx => ?_⟩
  match i, hx with
  | 0, hx =>
    simp at hx; subst hx
    exact ⟨cellB hh 0 _ rfl, cellB hh 1 _ rfl, cellB hh 2 _ rfl, cellB hh 3 _ rfl, cellB hh 4 _ rfl⟩
  | i + 1, hx => simp at hx
def fA (A C : List UInt8) : List Bv := [⟨5, 1, A, 0, none, 0, 0⟩, ⟨7, 0, C, 0, none, 0, 0⟩]
def fB (B : List UInt8) : List Bv := [⟨5, 2, B, 0, none, 0, 0⟩]
def fL (A B C : List UInt8) (P : Nat) : List Cv := [⟨3, 4, [], 0, none, 0, 0, .slice (some ⟨P, 0, none⟩) 2 2, fA A C⟩, ⟨3, 0, [], 0, none, 0, 0, .slice (some ⟨P + 1, 0, none⟩) 1 1, fB B⟩]
theorem fL_fills (A B C : List UInt8) (P : Nat) (h1 : (sreadV B).2.2.2.2 = [98]) (h2 : (sreadV C).2.2.2.2 = [99]) : lowL (fL A B C P) = 4 ∧ fillsL (fL A B C P) = [(5, [98]), (6, []), (7, [99])] := by
  have e1 : lowL (fL A B C P) = 4 := rfl
  have e2 : lastL (fL A B C P) = 7 := rfl
  have e3 : numsL 4 7 = [5, 6, 7] := rfl
  have b5 : batchL (fL A B C P) 5 = [98] := by
    have : pick 5 none (allB (fL A B C P)) = some ⟨5, 2, B, 0, none, 0, 0⟩ := rfl
    rw [batchL, this]; exact h1
  have b6 : batchL (fL A B C P) 6 = [] := by
    have : pick 6 none (allB (fL A B C P)) = none := rfl
    rw [batchL, this]
    show (sreadV []).2.2.2.2 = []
    rw [sread_nil]
  have b7 : batchL (fL A B C P) 7 = [99] := by
    have : pick 7 none (allB (fL A B C P)) = some ⟨7, 0, C, 0, none, 0, 0⟩ := rfl
    rw [batchL, this]; exact h2
  refine ⟨e1, ?_⟩
  rw [fillsL, e1, e2, e3]
  simp only [List.map_cons, List.map_nil, b5, b6, b7]
theorem fL_lies (A B C : List UInt8) (w : World) (P : Nat) (hP : w.heap.size = P) : Cl (P + 3) (((w.alloc (.cells #[.int .i64 5, .int .i64 1, .string (bs A), .int .i64 0, .slice none 0 0, .int .i64 7, .int .i64 0, .string (bs C), .int .i64 0, .slice none 0 0] 34)).alloc (.cells #[.int .i64 5, .int .i64 2, .string (bs B), .int .i64 0, .slice none 0 0] 34)).alloc (.cells #[.int .i64 3, .int .i64 4, .string ⟨#[]⟩, .int .i64 0, .slice none 0 0, .slice (some ⟨P, 0, none⟩) 2 2, .int .i64 3, .int .i64 0, .string ⟨#[]⟩, .int .i64 0, .slice none 0 0, .slice (some ⟨P + 1, 0, none⟩) 1 1] 27)) (.slice (some ⟨P + 1 + 1, 0, none⟩) 2 2) (fL A B C P) := by
  have h0 := heap_alloc_new w (.cells #[.int .i64 5, .int .i64 1, .string (bs A), .int .i64 0, .slice none 0 0, .int .i64 7, .int .i64 0, .string (bs C), .int .i64 0, .slice none 0 0] 34)
  obtain ⟨w1, hw1⟩ : ∃ w1, w.alloc (.cells #[.int .i64 5, .int .i64 1, .string (bs A), .int .i64 0, .slice none 0 0, .int .i64 7, .int .i64 0, .string (bs C), .int .i64 0, .slice none 0 0] 34) = w1 := ⟨_, rfl⟩
  have hs1 : w1.heap.size = P + 1 := by rw [← hw1]; simp [hP]
  rw [hw1, hP] at h0
  rw [hw1]
  have h1 := heap_alloc_new w1 (.cells #[.int .i64 5, .int .i64 2, .string (bs B), .int .i64 0, .slice none 0 0] 34)
  have h01 := (Below.heap_alloc w1 (.cells #[.int .i64 5, .int .i64 2, .string (bs B), .int .i64 0, .slice none 0 0] 34) P (by omega)).trans h0
  have hb1 := Bl_new1 w1 5 2 B 0 none 0 0 (P + 1) hs1 (P + 3) (by omega)
  obtain ⟨w2, hw2⟩ : ∃ w2, w1.alloc (.cells #[.int .i64 5, .int .i64 2, .string (bs B), .int .i64 0, .slice none 0 0] 34) = w2 := ⟨_, rfl⟩
  have hs2 : w2.heap.size = P + 1 + 1 := by rw [← hw2]; simp [hs1]
  rw [hw2] at h1 h01 hb1
  rw [hw2]
  have hb2 := (Below.refl w2.heap.size w2).alloc (Nat.le_refl _) (.cells #[.int .i64 3, .int .i64 4, .string ⟨#[]⟩, .int .i64 0, .slice none 0 0, .slice (some ⟨P, 0, none⟩) 2 2, .int .i64 3, .int .i64 0, .string ⟨#[]⟩, .int .i64 0, .slice none 0 0, .slice (some ⟨P + 1, 0, none⟩) 1 1] 27)
  have h2 := heap_alloc_new w2 (.cells #[.int .i64 3, .int .i64 4, .string ⟨#[]⟩, .int .i64 0, .slice none 0 0, .slice (some ⟨P, 0, none⟩) 2 2, .int .i64 3, .int .i64 0, .string ⟨#[]⟩, .int .i64 0, .slice none 0 0, .slice (some ⟨P + 1, 0, none⟩) 1 1] 27)
  rw [hs2] at h2
  have h02 := (hb2.block P (by omega)).trans h01
  have hbA : Bl (P + 3) (w2.alloc (.cells #[.int .i64 3, .int .i64 4, .string ⟨#[]⟩, .int .i64 0, .slice none 0 0, .slice (some ⟨P, 0, none⟩) 2 2, .int .i64 3, .int .i64 0, .string ⟨#[]⟩, .int .i64 0, .slice none 0 0, .slice (some ⟨P + 1, 0, none⟩) 1 1] 27)) (.slice (some ⟨P, 0, none⟩) 2 2) (fA A C) := by
    refine .inr ⟨P, 0, 2, rfl, by omega, fun i x hx => ?_⟩
    match i, hx with
    | 0, hx =>
      simp [fA] at hx; subst hx
      exact ⟨cellB h02 0 _ rfl, cellB h02 1 _ rfl, cellB h02 2 _ rfl, cellB h02 3 _ rfl, cellB h02 4 _ rfl⟩
    | 1, hx =>
      simp [fA] at hx; subst hx
      exact ⟨cellB h02 5 _ rfl, cellB h02 6 _ rfl, cellB h02 7 _ rfl, cellB h02 8 _ rfl, cellB h02 9 _ rfl⟩
    | i + 2, hx => simp [fA] at hx
  have hbB : Bl (P + 3) (w2.alloc (.cells #[.int .i64 3, .int .i64 4, .string ⟨#[]⟩, .int .i64 0, .slice none 0 0, .slice (some ⟨P, 0, none⟩) 2 2, .int .i64 3, .int .i64 0, .string ⟨#[]⟩, .int .i64 0, .slice none 0 0, .slice (some ⟨P + 1, 0, none⟩) 1 1] 27)) (.slice (some ⟨P + 1, 0, none⟩) 1 1) (fB B) := by
    rw [hs1] at h1
    have h12 := (hb2.block (P + 1) (by omega)).trans h1
    refine .inr ⟨P + 1, 0, 1, rfl, by omega, fun i x hx => ?_⟩
    match i, hx with
    | 0, hx =>
      simp [fB] at hx; subst hx
      exact ⟨cellB h12 0 _ rfl, cellB h12 1 _ rfl, cellB h12 2 _ rfl, cellB h12 3 _ rfl, cellB h12 4 _ rfl⟩
    | i + 1, hx => simp [fB] at hx
  refine .inr ⟨P + 1 + 1, 0, 2, rfl, by omega, fun i x hx => ?_⟩
  match i, hx with
  | 0, hx =>
    simp [fL] at hx; subst hx
    exact ⟨⟨cellB h2 0 _ rfl, cellB h2 1 _ rfl, cellB h2 2 _ rfl, cellB h2 3 _ rfl, cellB h2 4 _ rfl, cellB h2 5 _ rfl⟩, hbA⟩
  | 1, hx =>
    simp [fL] at hx; subst hx
    exact ⟨⟨cellB h2 6 _ rfl, cellB h2 7 _ rfl, cellB h2 8 _ rfl, cellB h2 9 _ rfl, cellB h2 10 _ rfl, cellB h2 11 _ rfl⟩, hbB⟩
  | i + 2, hx => simp [fL] at hx
theorem fills_cells {W : World} {base : Nat} {u : Value} {l : List (Int × List UInt8)} (h : W.ownsRow base 42 2 u l.length (fcs l)) (hl : 0 < l.length) : ∃ g o cap, u = .slice (some ⟨g, o, none⟩) l.length cap ∧ g < W.heap.size ∧ ∀ (i : Nat) f, l[i]? = some f → W.cell? ⟨g, o + i * 2, none⟩ = some (.int .i64 f.1) ∧ W.cell? ⟨g, o + i * 2 + 1, none⟩ = some (.string (bs f.2)) := by
  have ht := (Tp.of_owns (l := l) h).tl
  obtain ⟨a, c, rfl⟩ := ht.slice
  obtain ⟨b, o, rfl, hlt⟩ := ht.some hl
  exact ⟨b, o, c, rfl, hlt, fun i f hf => ht.cells hf⟩

set_option maxRecDepth 20000 in
set_option maxHeartbeats 2000000 in
theorem fills_any (w : World) (he : Env w) : Calls Tryz.prog 5 #[] w fun e W' => e = .returned (.bool true) ∧ Below w.heap.size w W' := by
  have eA := said_small (k := kOrd) (g := 1) (v := 1) (n := 5) (b := [97]) rfl (by decide) (by decide)
  have eB := said_small (k := kOrd) (g := 1) (v := 2) (n := 5) (b := [98]) rfl (by decide) (by decide)
  have eC := said_small (k := kOrd) (g := 1) (v := 0) (n := 7) (b := [99]) rfl (by decide) (by decide)
  have rB := congrArg (fun y : Sd => y.2.2.2.2) (sread_said (k := kOrd) (.inl rfl) eB)
  have rC := congrArg (fun y : Sd => y.2.2.2.2) (sread_said (k := kOrd) (.inl rfl) eC)
  have hA := Order_any 1 1 5 [97] w (by decide) he.p
  have HB : Hid (∀ W, Below w.heap.size w W → Calls Tryz.prog 7 #[.int .i64 1, .int .i64 2, .int .i64 5, .string ⟨#[98]⟩] W fun e W' => e = .returned (.tuple #[.string (bs (saidV kOrd 1 2 5 [98])), .int .i64 (saidE kOrd 1 2 5 [98])]) ∧ Below W.heap.size W W') := fun W hW => Order_any 1 2 5 [98] W (by decide) (he.next hW).p
  have HC : Hid (∀ W, Below w.heap.size w W → Calls Tryz.prog 7 #[.int .i64 1, .int .i64 0, .int .i64 7, .string ⟨#[99]⟩] W fun e W' => e = .returned (.tuple #[.string (bs (saidV kOrd 1 0 7 [99])), .int .i64 (saidE kOrd 1 0 7 [99])]) ∧ Below W.heap.size W W') := fun W hW => Order_any 1 0 7 [99] W (by decide) (he.next hW).p
  rw [eB] at HB
  rw [eC] at HC
  rw [eA] at hA
  obtain ⟨A, hAe⟩ : ∃ A, saidV kOrd 1 1 5 [97] = A := ⟨_, rfl⟩
  obtain ⟨B, hBe⟩ : ∃ B, saidV kOrd 1 2 5 [98] = B := ⟨_, rfl⟩
  obtain ⟨C, hCe⟩ : ∃ C, saidV kOrd 1 0 7 [99] = C := ⟨_, rfl⟩
  rw [hBe] at HB rB
  rw [hCe] at HC rC
  rw [hAe] at hA
  have hA' : Calls Tryz.prog 7 #[.int .i64 1, .int .i64 1, .int .i64 5, .string ⟨#[97]⟩] w fun e W' => e = .returned (.tuple #[.string (bs A), .int .i64 0]) ∧ Below w.heap.size w W' := hA
  have HP : Hid (∀ W P, Below w.heap.size w W → W.heap.size = P → Calls Tryz.prog 8 #[.slice (some ⟨P + 1 + 1, 0, none⟩) 2 2] (((W.alloc (.cells #[.int .i64 5, .int .i64 1, .string (bs A), .int .i64 0, .slice none 0 0, .int .i64 7, .int .i64 0, .string (bs C), .int .i64 0, .slice none 0 0] 34)).alloc (.cells #[.int .i64 5, .int .i64 2, .string (bs B), .int .i64 0, .slice none 0 0] 34)).alloc (.cells #[.int .i64 3, .int .i64 4, .string ⟨#[]⟩, .int .i64 0, .slice none 0 0, .slice (some ⟨P, 0, none⟩) 2 2, .int .i64 3, .int .i64 0, .string ⟨#[]⟩, .int .i64 0, .slice none 0 0, .slice (some ⟨P + 1, 0, none⟩) 1 1] 27)) fun e W' => ∃ g o cap, e = .returned (.tuple #[.int .i64 4, .slice (some ⟨g, o, none⟩) 3 cap]) ∧ (W'.cell? ⟨g, o + 1, none⟩ = some (.string ⟨#[98]⟩) ∧ W'.cell? ⟨g, o + 2 + 1, none⟩ = some (.string ⟨#[]⟩) ∧ W'.cell? ⟨g, o + 4, none⟩ = some (.int .i64 7) ∧ W'.cell? ⟨g, o + 4 + 1, none⟩ = some (.string ⟨#[99]⟩)) ∧ Below w.heap.size w W') := by
    intro W P hW hP
    obtain ⟨f1, f2⟩ := fL_fills A B C P rB rC
    have hcl := fL_lies A B C W P hP
    have hb := ((hW.alloc hW.size (.cells #[.int .i64 5, .int .i64 1, .string (bs A), .int .i64 0, .slice none 0 0, .int .i64 7, .int .i64 0, .string (bs C), .int .i64 0, .slice none 0 0] 34)).alloc (Nat.le_trans hW.size (by simp)) (.cells #[.int .i64 5, .int .i64 2, .string (bs B), .int .i64 0, .slice none 0 0] 34)).alloc (Nat.le_trans hW.size (by simp; omega)) (.cells #[.int .i64 3, .int .i64 4, .string ⟨#[]⟩, .int .i64 0, .slice none 0 0, .slice (some ⟨P, 0, none⟩) 2 2, .int .i64 3, .int .i64 0, .string ⟨#[]⟩, .int .i64 0, .slice none 0 0, .slice (some ⟨P + 1, 0, none⟩) 1 1] 27)
    have hpl := Plan_any (fL A B C P) _ _ (by simp [fL]) (by intro c hc; simp [fL] at hc; rcases hc with rfl | rfl <;> simp [fA, fB]) (he.next hb) (hcl.mono (by simp; omega))
    refine hpl.mono ?_
    rintro e W' ⟨u, rfl, hown, hb2⟩
    rw [f2] at hown
    obtain ⟨g, o, cap, rfl, _, hc⟩ := fills_cells hown (by simp)
    rw [f1]
    refine ⟨g, o, cap, rfl, ⟨(hc 0 _ rfl).2, (hc 1 _ rfl).2, (hc 2 _ rfl).1, (hc 2 _ rfl).2⟩, hb.trans (hb2.mono hb.size)⟩
  clear hA hAe hBe hCe rB rC eA eB eC he
  go_enter Tryz.func5, Tryz.ntmps5
  go_upto_region 4 with (first
    | (go_at_call 7; refine hA'.mono ?_; clear hA'; rintro e w1 ⟨rfl, hb1⟩; have hB := HB.out w1 hb1)
    | (go_at_call 7; refine hB.mono ?_; clear hB; rintro e w2 ⟨rfl, hb2⟩; have hB2 := hb1.trans (hb2.mono hb1.size); have hC := HC.out w2 hB2)
    | (go_at_call 7; refine hC.mono ?_; clear hC; rintro e w3 ⟨rfl, hb3⟩))
  have hB3 := hB2.trans (hb3.mono hB2.size)
  have hPl := HP.out w3 w3.heap.size hB3 rfl
  clear HP HB HC hb1 hb2 hb3 hB2 hB3
  go_upto_region 5 with (first | (go_at_call 8; refine hPl.mono ?_; clear hPl; rintro e w4 ⟨g, o, cap, rfl, ⟨c1, c2, c3, c4⟩, hb4⟩))
  go_wp2
  exact bodyPost_ret (v := .bool true) (by simp [results, Tryz.f5, go_sem]) rfl ⟨rfl, hb4⟩
end Go.Proofs.YtifalaigfinciaaGreatDoor
