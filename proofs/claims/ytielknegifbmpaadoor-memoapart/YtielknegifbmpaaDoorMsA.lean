/- An order's, or a settlement's text: the plain text, and the program's, walked. -/
import Derived.Test.YtielknegifbmpaaDoorMeE
import Derived.Deep.AppendLies
import Derived.Deep.RegionLaw
import Derived.Deep.LoopGhost
import Derived.Deep.CutBlock
namespace Go.Proofs.YtielknegifbmpaaDoor
open Go.RowKit
attribute [local go_sem ↓] Go.wp_at_zero Go.wp_at_succ

theorem set_far {w : World} {B k : Nat} (h : k ≠ B) (j : Nat) (u : Value) : (w.setCell ⟨B, j, none⟩ u).heap[k]? = w.heap[k]? := Below.heap_setCell _ _ _ _ h
theorem owns_new (w : World) (cs : Array Value) (e : TypeId) (size n : Nat) (h : cs.size = n * size) (hn : n ≤ maxLen) : (w.alloc (.cells cs e)).ownsRow w.heap.size e size (.slice (some ⟨w.heap.size, 0, none⟩) n n) n cs.toList :=
  ⟨by simpa using h, .inr ⟨w.heap.size, n, cs, rfl, Nat.le_refl _, heap_alloc_new w _, Nat.le_refl _, hn, h, by rw [← h, ← Array.length_toList, List.take_length]⟩⟩
theorem str_same (a : List UInt8) : ((bs a).toList == (bs a).toList) = true := by simp
theorem str_other {a b : List UInt8} (h : a ≠ b) : ((bs a).toList == (bs b).toList) = false := str_ne (fun e => h (bs_inj e))

/-- From least to most? -/
def inR (n a b : Int) : Bool := decide (a ≤ n) && decide (n ≤ b)
theorem inR_t {n a b : Int} (h : inR n a b = true) : a ≤ n ∧ n ≤ b := by simpa [inR] using h
theorem inR_f {n a b : Int} (h : inR n a b = false) : n < a ∨ (a ≤ n ∧ b < n) := by simp [inR] at h; omega
theorem within_any (n a b : Int) (w : World) : Calls Tryd.prog 53 #[.int .i64 n, .int .i64 a, .int .i64 b] w fun e W' => e = .returned (.bool (inR n a b)) ∧ W' = w := by
  by_cases h1 : a ≤ n
  · by_cases h2 : n ≤ b
    · rw [show inR n a b = true by simp [inR, h1, h2]]
      go_enter Tryd.func53, Tryd.ntmps53
      go_wp2
      go_ret
      exact ⟨rfl, rfl⟩
    · rw [show inR n a b = false by simp [inR, h2]]
      have h3 : b < n := by omega
      go_enter Tryd.func53, Tryd.ntmps53
      go_wp2
      go_ret
      exact ⟨rfl, rfl⟩
  · rw [show inR n a b = false by simp [inR, h1]]
    go_enter Tryd.func53, Tryd.ntmps53
    go_wp2
    go_ret
    exact ⟨rfl, rfl⟩

/-- The text that says so much. -/
def saidT (k : List UInt8) (g v n : Int) (b : List UInt8) : List UInt8 := packL [k, Lib.itoa g, Lib.itoa v, Lib.itoa n, b]
def inS (g v n : Int) : Bool := inR g 0 4 && (inR v 0 1099511627776 && inR n 1 1099511627776)
def saidE (k : List UInt8) (g v n : Int) (b : List UInt8) : Int := if inS g v n = false then 1 else if 30000 < (saidT k g v n b).length then 2 else 0
def saidV (k : List UInt8) (g v n : Int) (b : List UInt8) : List UInt8 := if saidE k g v n b = 0 then saidT k g v n b else []
theorem itoa_len20 (n : Int) (h0 : 0 ≤ n) (h1 : n ≤ 1099511627776) : (Lib.itoa n).length ≤ 20 := by
  obtain ⟨k, rfl⟩ : ∃ k : Nat, n = k := ⟨n.toNat, by omega⟩
  exact itoa_len k (by omega)
theorem said_tot {k : List UInt8} {g v n : Int} {b : List UInt8} (h : inS g v n = true) : tot [k, Lib.itoa g, Lib.itoa v, Lib.itoa n, b] ≤ k.length + b.length + 43 := by
  simp only [inS, Bool.and_eq_true] at h
  obtain ⟨h1, h2, h3⟩ := h
  have h1 := inR_t h1
  have h2 := inR_t h2
  have h3 := inR_t h3
  have := itoa_len2 g (by omega) (by omega)
  have := itoa_len20 v (by omega) (by omega)
  have := itoa_len20 n (by omega) (by omega)
  simp [tot]
  omega
theorem saidE_1 {g v n : Int} (k b : List UInt8) (h : inS g v n = false) : saidE k g v n b = 1 ∧ saidV k g v n b = [] := by
  have : saidE k g v n b = 1 := if_pos h
  exact ⟨this, by rw [saidV, this]; rfl⟩
theorem saidE_2 {k : List UInt8} {g v n : Int} {b : List UInt8} (h : inS g v n = true) (hl : 30000 < (saidT k g v n b).length) : saidE k g v n b = 2 ∧ saidV k g v n b = [] := by
  have : saidE k g v n b = 2 := by rw [saidE, if_neg (by simp [h]), if_pos hl]
  exact ⟨this, by rw [saidV, this]; rfl⟩
theorem saidE_0 {k : List UInt8} {g v n : Int} {b : List UInt8} (h : inS g v n = true) (hl : (saidT k g v n b).length ≤ 30000) : saidE k g v n b = 0 ∧ saidV k g v n b = saidT k g v n b := by
  have : saidE k g v n b = 0 := by rw [saidE, if_neg (by simp [h]), if_neg (by omega)]
  exact ⟨this, by rw [saidV, this]; rfl⟩
theorem saidE_zero {k : List UInt8} {g v n : Int} {b : List UInt8} (h : saidE k g v n b = 0) : inS g v n = true ∧ (saidT k g v n b).length ≤ 30000 ∧ saidV k g v n b = saidT k g v n b := by
  have h' := h
  unfold saidE at h
  split at h
  · cases h
  · split at h
    · cases h
    · rename_i h1 h2
      exact ⟨by simpa using h1, by omega, by rw [saidV, if_pos h']⟩
theorem Sl_five (w : World) (a b c d e : List UInt8) : Sl (w.alloc (.cells #[.string (bs a), .string (bs b), .string (bs c), .string (bs d), .string (bs e)] 9)) (.slice (some ⟨w.heap.size, 0, none⟩) 5 5) [a, b, c, d, e] :=
  Sl.of_owns (l := [a, b, c, d, e]) (owns_new w #[.string (bs a), .string (bs b), .string (bs c), .string (bs d), .string (bs e)] 9 1 5 rfl (by decide))

set_option maxRecDepth 20000 in
set_option maxHeartbeats 4000000 in
theorem textOf_any (k : List UInt8) (g v n : Int) (b : List UInt8) (w : World) (hk : k.length ≤ 1000) (hs : b.length ≤ 140737488351232) (he : EnvP w) :
    Calls Tryd.prog 44 #[.agg #[.string (bs k), .int .i64 g, .int .i64 v, .int .i64 n, .string (bs b)]] w fun e W' => e = .returned (.tuple #[.string (bs (saidV k g v n b)), .int .i64 (saidE k g v n b)]) ∧ Below w.heap.size w W' := by
  have hba := (Below.refl w.heap.size w).alloc (Nat.le_refl _) (.cells #[.string (bs k), .int .i64 g, .int .i64 v, .int .i64 n, .string (bs b)] 86)
  have rQ := heap_alloc_new w (.cells #[.string (bs k), .int .i64 g, .int .i64 v, .int .i64 n, .string (bs b)] 86)
  cases hin : inS g v n
  · obtain ⟨e1, e2⟩ := saidE_1 (g := g) (v := v) (n := n) k b hin
    rw [e1, e2]
    have HB : Hid (_) := hba
    have hc : inR g 0 4 = false ∨ (inR g 0 4 = true ∧ (inR v 0 1099511627776 = false ∨ (inR v 0 1099511627776 = true ∧ inR n 1 1099511627776 = false))) := by
      unfold inS at hin
      cases h1 : inR g 0 4 <;> cases h2 : inR v 0 1099511627776 <;> cases h3 : inR n 1 1099511627776 <;> simp_all
    clear e1 e2 hin hba rQ
    rcases hc with h1 | ⟨h1, h2 | ⟨h2, h3⟩⟩
    all_goals
      go_enter Tryd.func44, Tryd.ntmps44
      go_wp2_with (first | (go_at_call 53; refine (within_any _ _ _ _).mono ?_; rintro e w1 ⟨rfl, h9⟩; replace h9 := h9.symm; subst h9))
      exact bodyPost_ret (v := .tuple #[.string (bs []), .int .i64 1]) (by simp [results, Tryd.f44, go_sem, bs]) rfl ⟨rfl, HB.out⟩
  · have h12 := hin
    simp only [inS, Bool.and_eq_true] at h12
    obtain ⟨h1, h2, h3⟩ := h12
    obtain ⟨g0, g4⟩ := inR_t h1
    obtain ⟨v0, v4⟩ := inR_t h2
    obtain ⟨n0, n4⟩ := inR_t h3
    have ht := said_tot (k := k) (g := g) (v := v) (n := n) (b := b) hin
    obtain ⟨W0, hW0⟩ : ∃ W, w.alloc (.cells #[.string (bs k), .int .i64 g, .int .i64 v, .int .i64 n, .string (bs b)] 86) = W := ⟨_, rfl⟩
    have HW : Hid (w.alloc (.cells #[.string (bs k), .int .i64 g, .int .i64 v, .int .i64 n, .string (bs b)] 86) = W0) := hW0
    rw [hW0] at hba rQ
    have hlQ := (Array.getElem?_eq_some_iff.1 rQ).1
    have HK : Hid (∀ W, Below W0.heap.size W0 W → (W.cell? ⟨w.heap.size, 0, none⟩ = some (.string (bs k)) ∧ W.cell? ⟨w.heap.size, 1, none⟩ = some (.int .i64 g) ∧ W.cell? ⟨w.heap.size, 2, none⟩ = some (.int .i64 v) ∧ W.cell? ⟨w.heap.size, 3, none⟩ = some (.int .i64 n) ∧ W.cell? ⟨w.heap.size, 4, none⟩ = some (.string (bs b)))) := fun W hb => by
      have r := (hb.block _ hlQ).trans rQ
      exact ⟨cellB r 0 _ rfl, cellB r 1 _ rfl, cellB r 2 _ rfl, cellB r 3 _ rfl, cellB r 4 _ rfl⟩
    have HN : Hid (∀ W, Below W0.heap.size W0 W → ∀ m : Int, 0 ≤ m → m ≤ 1099511627776 → Calls Tryd.prog 15 #[.int .i64 m] W fun e w' => e = .returned (.string (bs (Lib.itoa m))) ∧ Below W0.heap.size W0 w') := fun W hb m h0 h1 => by
      have hB := hba.trans (hb.mono hba.size)
      refine (Num_any m W (by omega) (by omega) (he.next hB)).mono ?_
      rintro e W' ⟨rfl, h⟩
      exact ⟨rfl, hb.trans (h.mono hb.size)⟩
    have HP : Hid (∀ w2, Below W0.heap.size W0 w2 → Calls Tryd.prog 14 #[.slice (some ⟨w2.heap.size, 0, none⟩) 5 5] (w2.alloc (.cells #[.string (bs k), .string (bs (Lib.itoa g)), .string (bs (Lib.itoa v)), .string (bs (Lib.itoa n)), .string (bs b)] 9)) fun e W' => e = .returned (.string (bs (saidT k g v n b))) ∧ Below W0.heap.size W0 W') := by
      intro w2 hb
      have hb2 := hba.trans (hb.mono hba.size)
      have hb3 : Below w2.heap.size w2 (w2.alloc (.cells #[.string (bs k), .string (bs (Lib.itoa g)), .string (bs (Lib.itoa v)), .string (bs (Lib.itoa n)), .string (bs b)] 9)) := (Below.refl _ _).alloc (Nat.le_refl _) _
      have hB3 := hb2.trans (hb3.mono hb2.size)
      refine (Pack_wide [k, Lib.itoa g, Lib.itoa v, Lib.itoa n, b] _ _ (by simp only [List.length_cons, List.length_nil]; omega) (he.next hB3) (Sl_five w2 _ _ _ _ _)).mono ?_
      rintro e W' ⟨rfl, hb4⟩
      have hb5 := hb3.trans (hb4.mono hb3.size)
      exact ⟨rfl, hb.trans (hb5.mono hb.size)⟩
    have HBa : Hid (_) := hba
    have hsz : (bs (saidT k g v n b)).size = (saidT k g v n b).length := bs_size _
    obtain ⟨G, hG⟩ : ∃ G, bs (Lib.itoa g) = G := ⟨_, rfl⟩
    obtain ⟨Vv, hV⟩ : ∃ M, bs (Lib.itoa v) = M := ⟨_, rfl⟩
    obtain ⟨M, hM⟩ : ∃ M, bs (Lib.itoa n) = M := ⟨_, rfl⟩
    have HN1 : Hid (∀ W, Below W0.heap.size W0 W → Calls Tryd.prog 15 #[.int .i64 g] W fun e w' => e = .returned (.string G) ∧ Below W0.heap.size W0 w') := fun W hb => by rw [← hG]; exact HN.out W hb g (by omega) (by omega)
    have HN2 : Hid (∀ W, Below W0.heap.size W0 W → Calls Tryd.prog 15 #[.int .i64 v] W fun e w' => e = .returned (.string Vv) ∧ Below W0.heap.size W0 w') := fun W hb => by rw [← hV]; exact HN.out W hb v (by omega) (by omega)
    have HN3 : Hid (∀ W, Below W0.heap.size W0 W → Calls Tryd.prog 15 #[.int .i64 n] W fun e w' => e = .returned (.string M) ∧ Below W0.heap.size W0 w') := fun W hb => by rw [← hM]; exact HN.out W hb n (by omega) (by omega)
    rw [hG, hV, hM] at HP
    have HD : Hid (_ ∧ _) := ⟨saidE_2 (k := k) (g := g) (v := v) (n := n) (b := b) hin, saidE_0 (k := k) (g := g) (v := v) (n := n) (b := b) hin⟩
    obtain ⟨E, hE⟩ : ∃ E, saidE k g v n b = E := ⟨_, rfl⟩
    obtain ⟨X, hX⟩ : ∃ X, saidV k g v n b = X := ⟨_, rfl⟩
    obtain ⟨T, hT⟩ : ∃ T, saidT k g v n b = T := ⟨_, rfl⟩
    rw [hE, hX, hT] at HD
    rw [hT] at HP hsz
    rw [hE, hX]
    have hN1 := HN1.out W0.drew (below_drew (Below.refl _ _))
    obtain ⟨q0, q1, q2, q3, q4⟩ := HK.out W0 (Below.refl _ _)
    clear hE hX hT hin hG hV hM ht he hs HN hba rQ hW0 hlQ
    go_enter Tryd.func44, Tryd.ntmps44
    go_upto_region 1 with fail
    rw [HW.out]
    clear HW
    go_upto_region 3 with (first | (go_at_call 53; refine (within_any _ _ _ _).mono ?_; rintro e w1 ⟨rfl, h9⟩; replace h9 := h9.symm; subst h9))
    obtain ⟨Q, hQ⟩ : ∃ Q, w.heap.size = Q := ⟨_, rfl⟩
    have HP2 : Hid (∀ w2, Below W0.heap.size W0 w2 → Calls Tryd.prog 14 #[.slice (some ⟨w2.heap.size, 0, none⟩) 5 5] (w2.alloc (.cells #[.string (bs k), .string G, .string Vv, .string M, .string (bs b)] 9)) fun e W' => e = .returned (.string (bs T)) ∧ Below W0.heap.size W0 W') := HP.out
    have HK2 := HK.out
    rw [hQ] at HK2 q0 q1 q2 q3 q4 ⊢
    have HK3 : Hid (_) := HK2
    clear HK HK2 HP hQ
    go_region_held3 (fun w' => w'.cell? ⟨Q, 0, none⟩ = some (.string (bs k)) ∧ w'.cell? ⟨Q, 1, none⟩ = some (.int .i64 g) ∧ w'.cell? ⟨Q, 2, none⟩ = some (.int .i64 v) ∧ w'.cell? ⟨Q, 3, none⟩ = some (.int .i64 n) ∧ w'.cell? ⟨Q, 4, none⟩ = some (.string (bs b))) (go_keep)
      (first
        | (go_at_call 14; have hgd := hb3; refine (HP2.out _ hb3).mono ?_; rintro e w4 ⟨rfl, hb4⟩; obtain ⟨k0, k1, k2, k3, k4⟩ := HK3.out _ hb4)
        | (go_at_call 15; have hgd := hb2; refine (HN3.out _ hb2).mono ?_; rintro e w3 ⟨rfl, hb3⟩; obtain ⟨k0, k1, k2, k3, k4⟩ := HK3.out _ hb3)
        | (go_at_call 15; have hgd := hb1; refine (HN2.out _ hb1).mono ?_; rintro e w2 ⟨rfl, hb2⟩; obtain ⟨k0, k1, k2, k3, k4⟩ := HK3.out _ hb2)
        | (go_at_call 15; refine hN1.mono ?_; rintro e w1 ⟨rfl, hb1⟩; obtain ⟨k0, k1, k2, k3, k4⟩ := HK3.out _ hb1))
    all_goals
      clear k0 k1 k2 k3 k4 q0 q1 q2 q3 q4 HK3 HP2 HN1 HN2 HN3 hN1
      by_cases hl : 30000 < T.length
      · obtain ⟨rfl, rfl⟩ := HD.out.1 hl
        have hl2 : (30000 : Int) < (T.length : Int) := by omega
        go_wp2
        exact bodyPost_ret (v := .tuple #[.string (bs []), .int .i64 2]) (by simp [results, Tryd.f44, go_sem, bs]) rfl ⟨rfl, HBa.out.trans (hb4.mono HBa.out.size)⟩
      · obtain ⟨rfl, rfl⟩ := HD.out.2 (by omega)
        have hl2 : (X.length : Int) ≤ 30000 := by omega
        go_wp2
        exact bodyPost_ret (v := .tuple #[.string (bs X), .int .i64 0]) (by simp [results, Tryd.f44, go_sem]) rfl ⟨rfl, HBa.out.trans (hb4.mono HBa.out.size)⟩
end Go.Proofs.YtielknegifbmpaaDoor
