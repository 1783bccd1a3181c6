/- An order's, or a settlement's text: the plain text, and the program's, walked. -/
import Derived.Test.YtmkjcfakopbdhaaGreatDoorMeE
import Derived.Deep.AppendLies
import Derived.Deep.RegionLaw
import Derived.Deep.LoopGhost
import Derived.Deep.CutBlock
import Derived.Deep.RegionHeld3
namespace Go.Proofs.YtmkjcfakopbdhaaGreatDoor
section
open Go.RowKit
attribute [local go_sem ↓] Go.wp_at_zero Go.wp_at_succ

theorem set_far {w : World} {B k : Nat} (h : k ≠ B) (j : Nat) (u : Value) : (w.setCell ⟨B, j, none⟩ u).heap[k]? = w.heap[k]? := Below.heap_setCell _ _ _ _ h
theorem owns_new (w : World) (cs : Array Value) (e : TypeId) (size n : Nat) (h : cs.size = n * size) (hn : n ≤ maxLen) : (w.alloc (.cells cs e)).ownsRow w.heap.size e size (.slice (some ⟨w.heap.size, 0, none⟩) n n) n cs.toList :=
  ⟨by simpa using h, .inr ⟨w.heap.size, n, cs, rfl, Nat.le_refl _, heap_alloc_new w _, Nat.le_refl _, hn, h, by rw [← h, ← Array.length_toList, List.take_length]⟩⟩
theorem str_same (a : List UInt8) : ((bs a).toList == (bs a).toList) = true := by simp
theorem str_other {a b : List UInt8} (h : a ≠ b) : ((bs a).toList == (bs b).toList) = false := str_ne (fun e => h (bs_inj e))

/-- From least to most? -/
def inR (n a b : Int) : Bool := decide (a ≤ n) && decide (n ≤ b)
theorem inR_t {n a b : Int} (h : inR n a b = true) : a ≤ n ∧ n ≤ b := by simpa [inR] using h
theorem inR_f {n a b : Int} (h : inR n a b = false) : n < a ∨ (a ≤ n ∧ b < n) := by simp [inR] at h; omega
theorem within_any (n a b : Int) (w : World) : Calls Tryz.prog 61 #[.int .i64 n, .int .i64 a, .int .i64 b] w fun e W' => e = .returned (.bool (inR n a b)) ∧ W' = w := by
  by_cases h1 : a ≤ n
  · by_cases h2 : n ≤ b
    · rw [show inR n a b = true by simp [inR, h1, h2]]
      go_enter Tryz.func61, Tryz.ntmps61
      go_wp2
      go_ret
      exact ⟨rfl, rfl⟩
    · rw [show inR n a b = false by simp [inR, h2]]
      have h3 : b < n := by omega
      go_enter Tryz.func61, Tryz.ntmps61
      go_wp2
      go_ret
      exact ⟨rfl, rfl⟩
  · rw [show inR n a b = false by simp [inR, h1]]
    go_enter Tryz.func61, Tryz.ntmps61
    go_wp2
    go_ret
    exact ⟨rfl, rfl⟩

/-- The text that says so much. -/
def saidT (k : List UInt8) (g v n : Int) (b : List UInt8) : List UInt8 := packL [k, Lib.itoa g, Lib.itoa v, Lib.itoa n, b]
def inS (g v n : Int) : Bool := inR g 0 4 && (inR v 0 1099511627776 && inR n 1 1099511627776)
def saidE (k : List UInt8) (g v n : Int) (b : List UInt8) : Int := if inS g v n = false then 1 else if 30000 < (saidT k g v n b).length then 2 else 0
def saidV (k : List UInt8) (g v n : Int) (b : List UInt8) : List UInt8 := if saidE k g v n b = 0 then saidT k g v n b else []
theorem itoa_len20 (n : Int) (h0 : 0 ≤ n) (h1 : n ≤ 1099511627776) : (Lib.itoa n).length ≤ 20 := by
  obtain ⟨k, rfl⟩ : ∃ k : Nat, n = k := ⟨n.toNat, by omega⟩
  exact itoa_len k (by omega)
theorem said_tot {k : List UInt8} {g v n : Int} {b : List UInt8} (h : inS g v n = true) : tot [k, Lib.itoa g, Lib.itoa v, Lib.itoa n, b] ≤ k.length + b.length + 43 := by
  simp only [inS, Bool.and_eq_true] at h
  obtain ⟨h1, h2, h3⟩ := h
  have h1 := inR_t h1
  have h2 := inR_t h2
  have h3 := inR_t h3
  have := itoa_len2 g (by omega) (by omega)
  have := itoa_len20 v (by omega) (by omega)
  have := itoa_len20 n (by omega) (by omega)
  simp [tot]
  omega
theorem saidE_1 {g v n : Int} (k b : List UInt8) (h : inS g v n = false) : saidE k g v n b = 1 ∧ saidV k g v n b = [] := by
  have : saidE k g v n b = 1 := if_pos h
  exact ⟨this, by rw [saidV, this]; rfl⟩
theorem saidE_2 {k : List UInt8} {g v n : Int} {b : List UInt8} (h : inS g v n = true) (hl : 30000 < (saidT k g v n b).length) : saidE k g v n b = 2 ∧ saidV k g v n b = [] := by
  have : saidE k g v n b = 2 := by rw [saidE, if_neg (by simp [h]), if_pos hl]
  exact ⟨this, by rw [saidV, this]; rfl⟩
theorem saidE_0 {k : List UInt8} {g v n : Int} {b : List UInt8} (h : inS g v n = true) (hl : (saidT k g v n b).length ≤ 30000) : saidE k g v n b = 0 ∧ saidV k g v n b = saidT k g v n b := by
  have : saidE k g v n b = 0 := by rw [saidE, if_neg (by simp [h]), if_neg (by omega)]
  exact ⟨this, by rw [saidV, this]; rfl⟩
theorem saidE_zero {k : List UInt8} {g v n : Int} {b : List UInt8} (h : saidE k g v n b = 0) : inS g v n = true ∧ (saidT k g v n b).length ≤ 30000 ∧ saidV k g v n b = saidT k g v n b := by
  have h' := h
  unfold saidE at h
  split at h
  · cases h
  · split at h
    · cases h
    · rename_i h1 h2
      exact ⟨by simpa using h1, by omega, by rw [saidV, if_pos h']⟩
theorem Sl_five (w : World) (a b c d e : List UInt8) : Sl (w.alloc (.cells #[.string (bs a), .string (bs b), .string (bs c), .string (bs d), .string (bs e)] 9)) (.slice (some ⟨w.heap.size, 0, none⟩) 5 5) [a, b, c, d, e] :=
  Sl.of_owns (l := [a, b, c, d, e]) (owns_new w #[.string (bs a), .string (bs b), .string (bs c), .string (bs d), .string (bs e)] 9 1 5 rfl (by decide))

set_option maxRecDepth 20000 in
set_option maxHeartbeats 4000000 in
theorem textOf_any (k : List UInt8) (g v n : Int) (b : List UInt8) (w : World) (hk : k.length ≤ 1000) (hs : b.length ≤ 140737488351232) (he : EnvP w) :
    Calls Tryz.prog 48 #[.agg #[.string (bs k), .int .i64 g, .int .i64 v, .int .i64 n, .string (bs b)]] w fun e W' => e = .returned (.tuple #[.string (bs (saidV k g v n b)), .int .i64 (saidE k g v n b)]) ∧ Below w.heap.size w W' := by
  have hba := (Below.refl w.heap.size w).alloc (Nat.le_refl _) (.cells #[.string (bs k), .int .i64 g, .int .i64 v, .int .i64 n, .string (bs b)] 97)
  have rQ := heap_alloc_new w (.cells #[.string (bs k), .int .i64 g, .int .i64 v, .int .i64 n, .string (bs b)] 97)
  cases hin : inS g v n
  · obtain ⟨e1, e2⟩ := saidE_1 (g := g) (v := v) (n := n) k b hin
    rw [e1, e2]
    have HB : Hid (_) := hba
    have hc : inR g 0 4 = false ∨ (inR g 0 4 = true ∧ (inR v 0 1099511627776 = false ∨ (inR v 0 1099511627776 = true ∧ inR n 1 1099511627776 = false))) := by
      unfold inS at hin
      cases h1 : inR g 0 4 <;> cases h2 : inR v 0 1099511627776 <;> cases h3 : inR n 1 1099511627776 <;> simp_all
    clear e1 e2 hin hba rQ
    rcases hc with h1 | ⟨h1, h2 | ⟨h2, h3⟩⟩
    all_goals
      go_enter Tryz.func48, Tryz.ntmps48
      go_wp2_with (first | (go_at_call 61; refine (within_any _ _ _ _).mono ?_; rintro e w1 ⟨rfl, h9⟩; replace h9 := h9.symm; subst h9))
      exact bodyPost_ret (v := .tuple #[.string (bs []), .int .i64 1]) (by simp [results, Tryz.f48, go_sem, bs]) rfl ⟨rfl, HB.out⟩
  · have h12 := hin
    simp only [inS, Bool.and_eq_true] at h12
    obtain ⟨h1, h2, h3⟩ := h12
    obtain ⟨g0, g4⟩ := inR_t h1
    obtain ⟨v0, v4⟩ := inR_t h2
    obtain ⟨n0, n4⟩ := inR_t h3
    have ht := said_tot (k := k) (g := g) (v := v) (n := n) (b := b) hin
    obtain ⟨W0, hW0⟩ : ∃ W, w.alloc (.cells #[.string (bs k), .int .i64 g, .int .i64 v, .int .i64 n, .string (bs b)] 97) = W := ⟨_, rfl⟩
    have HW : Hid (w.alloc (.cells #[.string (bs k), .int .i64 g, .int .i64 v, .int .i64 n, .string (bs b)] 97) = W0) := hW0
    rw [hW0] at hba rQ
    have hlQ := (Array.getElem?_eq_some_iff.1 rQ).1
    have HK : Hid (∀ W, Below W0.heap.size W0 W → (W.cell? ⟨w.heap.size, 0, none⟩ = some (.string (bs k)) ∧ W.cell? ⟨w.heap.size, 1, none⟩ = some (.int .i64 g) ∧ W.cell? ⟨w.heap.size, 2, none⟩ = some (.int .i64 v) ∧ W.cell? ⟨w.heap.size, 3, none⟩ = some (.int .i64 n) ∧ W.cell? ⟨w.heap.size, 4, none⟩ = some (.string (bs b)))) := fun W hb => by
      have r := (hb.block _ hlQ).trans rQ
      exact ⟨cellB r 0 _ rfl, cellB r 1 _ rfl, cellB r 2 _ rfl, cellB r 3 _ rfl, cellB r 4 _ rfl⟩
    have HN : Hid (∀ W, Below W0.heap.size W0 W → ∀ m : Int, 0 ≤ m → m ≤ 1099511627776 → Calls Tryz.prog 18 #[.int .i64 m] W fun e w' => e = .returned (.string (bs (Lib.itoa m))) ∧ Below W0.heap.size W0 w') := fun W hb m h0 h1 => by
      have hB := hba.trans (hb.mono hba.size)
      refine (Num_any m W (by omega) (by omega) (he.next hB)).mono ?_
      rintro e W' ⟨rfl, h⟩
      exact ⟨rfl, hb.trans (h.mono hb.size)⟩
    have HP : Hid (∀ w2, Below W0.heap.size W0 w2 → Calls Tryz.prog 17 #[.slice (some ⟨w2.heap.size, 0, none⟩) 5 5] (w2.alloc (.cells #[.string (bs k), .string (bs (Lib.itoa g)), .string (bs (Lib.itoa v)), .string (bs (Lib.itoa n)), .string (bs b)] 9)) fun e W' => e = .returned (.string (bs (saidT k g v n b))) ∧ Below W0.heap.size W0 W') := by
      intro w2 hb
      have hb2 := hba.trans (hb.mono hba.size)
      have hb3 : Below w2.heap.size w2 (w2.alloc (.cells #[.string (bs k), .string (bs (Lib.itoa g)), .string (bs (Lib.itoa v)), .string (bs (Lib.itoa n)), .string (bs b)] 9)) := (Below.refl _ _).alloc (Nat.le_refl _) _
      have hB3 := hb2.trans (hb3.mono hb2.size)
      refine (Pack_wide [k, Lib.itoa g, Lib.itoa v, Lib.itoa n, b] _ _ (by simp only [List.length_cons, List.length_nil]; omega) (he.next hB3) (Sl_five w2 _ _ _ _ _)).mono ?_
      rintro e W' ⟨rfl, hb4⟩
      have hb5 := hb3.trans (hb4.mono hb3.size)
      exact ⟨rfl, hb.trans (hb5.mono hb.size)⟩
    have HBa : Hid (_) := hba
    have hsz : (bs (saidT k g v n b)).size = (saidT k g v n b).length := bs_size _
    obtain ⟨G, hG⟩ : ∃ G, bs (Lib.itoa g) = G := ⟨_, rfl⟩
    obtain ⟨Vv, hV⟩ : ∃ M, bs (Lib.itoa v) = M := ⟨_, rfl⟩
    obtain ⟨M, hM⟩ : ∃ M, bs (Lib.itoa n) = M := ⟨_, rfl⟩
    have HN1 : Hid (∀ W, Below W0.heap.size W0 W → Calls Tryz.prog 18 #[.int .i64 g] W fun e w' => e = .returned (.string G) ∧ Below W0.heap.size W0 w') := fun W hb => by rw [← hG]; exact HN.out W hb g (by omega) (by omega)
    have HN2 : Hid (∀ W, Below W0.heap.size W0 W → Calls Tryz.prog 18 #[.int .i64 v] W fun e w' => e = .returned (.string Vv) ∧ Below W0.heap.size W0 w') := fun W hb => by rw [← hV]; exact HN.out W hb v (by omega) (by omega)
    have HN3 : Hid (∀ W, Below W0.heap.size W0 W → Calls Tryz.prog 18 #[.int .i64 n] W fun e w' => e = .returned (.string M) ∧ Below W0.heap.size W0 w') := fun W hb => by rw [← hM]; exact HN.out W hb n (by omega) (by omega)
    rw [hG, hV, hM] at HP
    have HD : Hid (_ ∧ _) := ⟨saidE_2 (k := k) (g := g) (v := v) (n := n) (b := b) hin, saidE_0 (k := k) (g := g) (v := v) (n := n) (b := b) hin⟩
    obtain ⟨E, hE⟩ : ∃ E, saidE k g v n b = E := ⟨_, rfl⟩
    obtain ⟨X, hX⟩ : ∃ X, saidV k g v n b = X := ⟨_, rfl⟩
    obtain ⟨T, hT⟩ : ∃ T, saidT k g v n b = T := ⟨_, rfl⟩
    rw [hE, hX, hT] at HD
    rw [hT] at HP hsz
    rw [hE, hX]
    have hN1 := HN1.out W0.drew (below_drew (Below.refl _ _))
    obtain ⟨q0, q1, q2, q3, q4⟩ := HK.out W0 (Below.refl _ _)
    clear hE hX hT hin hG hV hM ht he hs HN hba rQ hW0 hlQ
    go_enter Tryz.func48, Tryz.ntmps48
    go_upto_region 1 with fail
    rw [HW.out]
    clear HW
    go_upto_region 3 with (first | (go_at_call 61; refine (within_any _ _ _ _).mono ?_; rintro e w1 ⟨rfl, h9⟩; replace h9 := h9.symm; subst h9))
    obtain ⟨Q, hQ⟩ : ∃ Q, w.heap.size = Q := ⟨_, rfl⟩
    have HP2 : Hid (∀ w2, Below W0.heap.size W0 w2 → Calls Tryz.prog 17 #[.slice (some ⟨w2.heap.size, 0, none⟩) 5 5] (w2.alloc (.cells #[.string (bs k), .string G, .string Vv, .string M, .string (bs b)] 9)) fun e W' => e = .returned (.string (bs T)) ∧ Below W0.heap.size W0 W') := HP.out
    have HK2 := HK.out
    rw [hQ] at HK2 q0 q1 q2 q3 q4 ⊢
    have HK3 : Hid (_) := HK2
    clear HK HK2 HP hQ
    go_region_held3 (fun w' => w'.cell? ⟨Q, 0, none⟩ = some (.string (bs k)) ∧ w'.cell? ⟨Q, 1, none⟩ = some (.int .i64 g) ∧ w'.cell? ⟨Q, 2, none⟩ = some (.int .i64 v) ∧ w'.cell? ⟨Q, 3, none⟩ = some (.int .i64 n) ∧ w'.cell? ⟨Q, 4, none⟩ = some (.string (bs b))) (go_keep)
      (first
        | (go_at_call 17; have hgd := hb3; refine (HP2.out _ hb3).mono ?_; rintro e w4 ⟨rfl, hb4⟩; obtain ⟨k0, k1, k2, k3, k4⟩ := HK3.out _ hb4)
        | (go_at_call 18; have hgd := hb2; refine (HN3.out _ hb2).mono ?_; rintro e w3 ⟨rfl, hb3⟩; obtain ⟨k0, k1, k2, k3, k4⟩ := HK3.out _ hb3)
        | (go_at_call 18; have hgd := hb1; refine (HN2.out _ hb1).mono ?_; rintro e w2 ⟨rfl, hb2⟩; obtain ⟨k0, k1, k2, k3, k4⟩ := HK3.out _ hb2)
        | (go_at_call 18; refine hN1.mono ?_; rintro e w1 ⟨rfl, hb1⟩; obtain ⟨k0, k1, k2, k3, k4⟩ := HK3.out _ hb1))
    all_goals
      clear k0 k1 k2 k3 k4 q0 q1 q2 q3 q4 HK3 HP2 HN1 HN2 HN3 hN1
      by_cases hl : 30000 < T.length
      · obtain ⟨rfl, rfl⟩ := HD.out.1 hl
        have hl2 : (30000 : Int) < (T.length : Int) := by omega
        go_wp2
        exact bodyPost_ret (v := .tuple #[.string (bs []), .int .i64 2]) (by simp [results, Tryz.f48, go_sem, bs]) rfl ⟨rfl, HBa.out.trans (hb4.mono HBa.out.size)⟩
      · obtain ⟨rfl, rfl⟩ := HD.out.2 (by omega)
        have hl2 : (X.length : Int) ≤ 30000 := by omega
        go_wp2
        exact bodyPost_ret (v := .tuple #[.string (bs X), .int .i64 0]) (by simp [results, Tryz.f48, go_sem]) rfl ⟨rfl, HBa.out.trans (hb4.mono HBa.out.size)⟩
end
section
open Go.RowKit
attribute [local go_sem ↓] Go.wp_at_zero Go.wp_at_succ

theorem mwithin_any (n a b : Int) (w : World) : Calls Tryz.prog 49 #[.int .i64 n, .int .i64 a, .int .i64 b] w fun e W' => e = .returned (.bool (inR n a b)) ∧ W' = w := by
  by_cases h1 : a ≤ n
  · by_cases h2 : n ≤ b
    · rw [show inR n a b = true by simp [inR, h1, h2]]
      go_enter Tryz.func49, Tryz.ntmps49
      go_wp2
      go_ret
      exact ⟨rfl, rfl⟩
    · rw [show inR n a b = false by simp [inR, h2]]
      have h3 : b < n := by omega
      go_enter Tryz.func49, Tryz.ntmps49
      go_wp2
      go_ret
      exact ⟨rfl, rfl⟩
  · rw [show inR n a b = false by simp [inR, h1]]
    go_enter Tryz.func49, Tryz.ntmps49
    go_wp2
    go_ret
    exact ⟨rfl, rfl⟩

def markT (g n : Int) (st : List UInt8) : List UInt8 := packL [[109, 97, 114, 107], Lib.itoa g, Lib.itoa n, st]
def inT (g n : Int) : Bool := inR g 0 4 && inR n 1 1099511627776
def textE (g n : Int) (st : List UInt8) : Int := if inT g n = false then 1 else if 30000 < (markT g n st).length then 2 else 0
def textV (g n : Int) (st : List UInt8) : List UInt8 := if textE g n st = 0 then markT g n st else []
theorem mark_tot {g n : Int} {st : List UInt8} (h : inT g n = true) : tot [[109, 97, 114, 107], Lib.itoa g, Lib.itoa n, st] ≤ st.length + 27 := by
  simp only [inT, Bool.and_eq_true] at h
  obtain ⟨h1, h2⟩ := h
  have h1 := inR_t h1
  have h2 := inR_t h2
  have := itoa_len2 g (by omega) (by omega)
  have := itoa_len20 n (by omega) (by omega)
  simp [tot]
  omega
theorem textE_1 {g n : Int} (st : List UInt8) (h : inT g n = false) : textE g n st = 1 ∧ textV g n st = [] := by
  have : textE g n st = 1 := if_pos h
  exact ⟨this, by rw [textV, this]; rfl⟩
theorem textE_2 {g n : Int} {st : List UInt8} (h : inT g n = true) (hl : 30000 < (markT g n st).length) : textE g n st = 2 ∧ textV g n st = [] := by
  have : textE g n st = 2 := by rw [textE, if_neg (by simp [h]), if_pos hl]
  exact ⟨this, by rw [textV, this]; rfl⟩
theorem textE_0 {g n : Int} {st : List UInt8} (h : inT g n = true) (hl : (markT g n st).length ≤ 30000) : textE g n st = 0 ∧ textV g n st = markT g n st := by
  have : textE g n st = 0 := by rw [textE, if_neg (by simp [h]), if_neg (by omega)]
  exact ⟨this, by rw [textV, this]; rfl⟩
theorem textE_zero {g n : Int} {st : List UInt8} (h : textE g n st = 0) : inT g n = true ∧ (markT g n st).length ≤ 30000 ∧ textV g n st = markT g n st := by
  have h' := h
  unfold textE at h
  split at h
  · cases h
  · split at h
    · cases h
    · rename_i h1 h2
      exact ⟨by simpa using h1, by omega, by rw [textV, if_pos h']⟩
theorem Sl_four (w : World) (a b c d : List UInt8) : Sl (w.alloc (.cells #[.string (bs a), .string (bs b), .string (bs c), .string (bs d)] 9)) (.slice (some ⟨w.heap.size, 0, none⟩) 4 4) [a, b, c, d] :=
  Sl.of_owns (l := [a, b, c, d]) (owns_new w #[.string (bs a), .string (bs b), .string (bs c), .string (bs d)] 9 1 4 rfl (by decide))

set_option maxRecDepth 20000 in
set_option maxHeartbeats 2000000 in
theorem Text_any (g n : Int) (st : List UInt8) (w : World) (hs : st.length ≤ 140737488351232) (he : EnvP w) :
    Calls Tryz.prog 30 #[.int .i64 g, .int .i64 n, .string (bs st)] w fun e W' => e = .returned (.tuple #[.string (bs (textV g n st)), .int .i64 (textE g n st)]) ∧ Below w.heap.size w W' := by
  cases h1 : inR g 0 4
  · obtain ⟨e1, e2⟩ := textE_1 (g := g) (n := n) st (by simp [inT, h1])
    rw [e1, e2]
    clear e1 e2
    go_enter Tryz.func30, Tryz.ntmps30
    go_wp2_with (first | (go_at_call 49; refine (mwithin_any _ _ _ _).mono ?_; rintro e w1 ⟨rfl, h9⟩; subst h9))
    exact bodyPost_ret (v := .tuple #[.string (bs []), .int .i64 1]) (by simp [results, Tryz.f30, go_sem, bs]) rfl ⟨rfl, Below.refl _ _⟩
  · cases h2 : inR n 1 1099511627776
    · obtain ⟨e1, e2⟩ := textE_1 (g := g) (n := n) st (by simp [inT, h2])
      rw [e1, e2]
      clear e1 e2
      go_enter Tryz.func30, Tryz.ntmps30
      go_wp2_with (first | (go_at_call 49; refine (mwithin_any _ _ _ _).mono ?_; rintro e w1 ⟨rfl, h9⟩; subst h9))
      exact bodyPost_ret (v := .tuple #[.string (bs []), .int .i64 1]) (by simp [results, Tryz.f30, go_sem, bs]) rfl ⟨rfl, Below.refl _ _⟩
    · have ht := mark_tot (g := g) (n := n) (st := st) (by simp [inT, h1, h2])
      obtain ⟨g0, g4⟩ := inR_t h1
      obtain ⟨n1, n2⟩ := inR_t h2
      have hN1 := Num_any g w (by omega) (by omega) he
      have HN2 : Hid (∀ w1, Below w.heap.size w w1 → Calls Tryz.prog 18 #[.int .i64 n] w1 fun e w' => e = .returned (.string (bs (Lib.itoa n))) ∧ Below w1.heap.size w1 w') := fun w1 hb => Num_any n w1 (by omega) (by omega) (he.next hb)
      have HP : Hid (∀ w2, Below w.heap.size w w2 → Calls Tryz.prog 17 #[.slice (some ⟨w2.heap.size, 0, none⟩) 4 4] (w2.alloc (.cells #[.string (bs [109, 97, 114, 107]), .string (bs (Lib.itoa g)), .string (bs (Lib.itoa n)), .string (bs st)] 9)) fun e W' => e = .returned (.string (bs (markT g n st))) ∧ Below w.heap.size w W') := by
        intro w2 hb
        have hb3 : Below w2.heap.size w2 (w2.alloc (.cells #[.string (bs [109, 97, 114, 107]), .string (bs (Lib.itoa g)), .string (bs (Lib.itoa n)), .string (bs st)] 9)) := (Below.refl _ _).alloc (Nat.le_refl _) _
        have hB3 := hb.trans (hb3.mono hb.size)
        refine (Pack_wide [[109, 97, 114, 107], Lib.itoa g, Lib.itoa n, st] _ _ (by simp only [List.length_cons, List.length_nil]; omega) (he.next hB3) (Sl_four w2 _ _ _ _)).mono ?_
        rintro e W' ⟨rfl, hb4⟩
        exact ⟨rfl, hB3.trans (hb4.mono hB3.size)⟩
      have hsz : (bs (markT g n st)).size = (markT g n st).length := bs_size _
      have hin : inT g n = true := by simp [inT, h1, h2]
      obtain ⟨G, hG⟩ : ∃ G, bs (Lib.itoa g) = G := ⟨_, rfl⟩
      obtain ⟨M, hM⟩ : ∃ M, bs (Lib.itoa n) = M := ⟨_, rfl⟩
      rw [hG] at hN1 HP
      rw [hM] at HN2 HP
      have HD : Hid (_ ∧ _) := ⟨textE_2 (g := g) (n := n) (st := st) hin, textE_0 (g := g) (n := n) (st := st) hin⟩
      obtain ⟨E, hE⟩ : ∃ E, textE g n st = E := ⟨_, rfl⟩
      obtain ⟨X, hX⟩ : ∃ X, textV g n st = X := ⟨_, rfl⟩
      obtain ⟨T, hT⟩ : ∃ T, markT g n st = T := ⟨_, rfl⟩
      rw [hE, hX, hT] at HD
      rw [hT] at HP hsz
      rw [hE, hX]
      clear hE hX hT hin hG hM ht he hs
      go_enter Tryz.func30, Tryz.ntmps30
      by_cases hl : 30000 < T.length
      · obtain ⟨rfl, rfl⟩ := HD.out.1 hl
        have hl2 : (30000 : Int) < (T.length : Int) := by omega
        go_wp2_with (first
          | (go_at_call 49; refine (mwithin_any _ _ _ _).mono ?_; rintro e w1 ⟨rfl, h9⟩; subst h9)
          | (go_at_call 18; refine hN1.mono ?_; clear hN1; rintro e w1 ⟨rfl, hb1⟩; have hN2 := HN2.out _ hb1)
          | (go_at_call 18; refine hN2.mono ?_; clear hN2; rintro e w2 ⟨rfl, hb2⟩; have hP := HP.out _ (hb1.trans (hb2.mono hb1.size)))
          | (go_at_call 17; refine hP.mono ?_; rintro e w4 ⟨rfl, hb4⟩))
        exact bodyPost_ret (v := .tuple #[.string (bs []), .int .i64 2]) (by simp [results, Tryz.f30, go_sem, bs]) rfl ⟨rfl, hb4⟩
      · obtain ⟨rfl, rfl⟩ := HD.out.2 (by omega)
        have hl2 : (X.length : Int) ≤ 30000 := by omega
        go_wp2_with (first
          | (go_at_call 49; refine (mwithin_any _ _ _ _).mono ?_; rintro e w1 ⟨rfl, h9⟩; subst h9)
          | (go_at_call 18; refine hN1.mono ?_; clear hN1; rintro e w1 ⟨rfl, hb1⟩; have hN2 := HN2.out _ hb1)
          | (go_at_call 18; refine hN2.mono ?_; clear hN2; rintro e w2 ⟨rfl, hb2⟩; have hP := HP.out _ (hb1.trans (hb2.mono hb1.size)))
          | (go_at_call 17; refine hP.mono ?_; rintro e w4 ⟨rfl, hb4⟩))
        exact bodyPost_ret (v := .tuple #[.string (bs X), .int .i64 0]) (by simp [results, Tryz.f30, go_sem]) rfl ⟨rfl, hb4⟩
end
section
open Go.RowKit
attribute [local go_sem ↓] Go.wp_at_zero Go.wp_at_succ

def memoW : List UInt8 := [109, 101, 109, 111]
def orderW : List UInt8 := [111, 114, 100, 101, 114]
def settleW : List UInt8 := [115, 101, 116, 116, 108, 101]
def ownT (k g v m : Int) (t : List UInt8) : List UInt8 := packL [memoW, Lib.itoa k, Lib.itoa g, Lib.itoa v, Lib.itoa m, t]
def utB (k : Int) : Bool := decide (isK k) && (tgK k.toNat == 0)
theorem bs_toListC (l : List UInt8) : (bs l).toList = l := by rw [ByteArray.toList_eq]; rfl

set_option maxRecDepth 20000 in
set_option maxHeartbeats 2000000 in
theorem isUntagged_any (k : Int) (w : World) (he : EnvM w) : Calls Tryz.prog 12 #[.int .i64 k] w fun e W' => e = .returned (.bool (utB k)) ∧ W' = w := by
  by_cases hk : isK k
  · have hk0 := hk.1
    have hk1 := hk.2
    have hK := isKind_any k
    rw [decide_eq_true hk] at hK
    rw [utB, decide_eq_true hk, Bool.true_and]
    obtain ⟨j, rfl⟩ : ∃ j : Nat, k = (j : Int) := ⟨k.toNat, by omega⟩
    have s6 := (he.shapes.row j (by omega)).c6
    rw [Int.toNat_natCast]
    obtain ⟨T, hT⟩ : ∃ T, tgK j = T := ⟨_, rfl⟩
    rw [hT] at s6 ⊢
    have k1 : (j : Int) < 13 := by omega
    have k0 : (0 : Int) ≤ (j : Int) := by omega
    clear hT hk0 hk1 hk
    go_enter Tryz.func12, Tryz.ntmps12
    go_wp2_with (first | (go_at_call 26; refine (hK _).mono ?_; rintro e w1 ⟨rfl, rfl⟩))
    go_ret
    exact ⟨rfl, rfl⟩
  · have hK := isKind_any k
    rw [decide_eq_false hk] at hK
    rw [utB, decide_eq_false hk, Bool.false_and]
    clear hk
    go_enter Tryz.func12, Tryz.ntmps12
    go_wp2_with (first | (go_at_call 26; refine (hK _).mono ?_; rintro e w1 ⟨rfl, rfl⟩))
    go_ret
    exact ⟨rfl, rfl⟩

set_option maxRecDepth 20000 in
set_option maxHeartbeats 2000000 in
theorem Order_any (g v n : Int) (b : List UInt8) (w : World) (hs : b.length ≤ 1000000) (he : EnvP w) : Calls Tryz.prog 28 #[.int .i64 g, .int .i64 v, .int .i64 n, .string (bs b)] w fun e W' => e = .returned (.tuple #[.string (bs (saidV orderW g v n b)), .int .i64 (saidE orderW g v n b)]) ∧ Below w.heap.size w W' := by
  have hT := textOf_any orderW g v n b w (by decide) (by omega) he
  obtain ⟨L, hL⟩ : ∃ L, orderW = L := ⟨_, rfl⟩
  have hlit : Value.string { data := #[111, 114, 100, 101, 114] } = .string (bs L) := by rw [← hL]; rfl
  rw [hL] at hT ⊢
  clear hL
  go_enter Tryz.func28, Tryz.ntmps28
  rw [hlit]
  clear hlit
  go_wp2_with fail
  refine hT.mono ?_
  rintro e w1 ⟨rfl, hb1⟩
  go_wp2
  go_ret2
  exact ⟨rfl, hb1⟩

set_option maxRecDepth 20000 in
set_option maxHeartbeats 2000000 in
theorem Settle_any (g v n : Int) (b : List UInt8) (w : World) (hs : b.length ≤ 1000000) (he : EnvP w) : Calls Tryz.prog 29 #[.int .i64 g, .int .i64 v, .int .i64 n, .string (bs b)] w fun e W' => e = .returned (.tuple #[.string (bs (saidV settleW g v n b)), .int .i64 (saidE settleW g v n b)]) ∧ Below w.heap.size w W' := by
  have hT := textOf_any settleW g v n b w (by decide) (by omega) he
  obtain ⟨L, hL⟩ : ∃ L, settleW = L := ⟨_, rfl⟩
  have hlit : Value.string { data := #[115, 101, 116, 116, 108, 101] } = .string (bs L) := by rw [← hL]; rfl
  rw [hL] at hT ⊢
  clear hL
  go_enter Tryz.func29, Tryz.ntmps29
  rw [hlit]
  clear hlit
  go_wp2_with fail
  refine hT.mono ?_
  rintro e w1 ⟨rfl, hb1⟩
  go_wp2
  go_ret2
  exact ⟨rfl, hb1⟩

theorem Sl_builtO (w : World) (a b c d e f : List UInt8) : Sl (w.alloc (.cells #[.string (bs a), .string (bs b), .string (bs c), .string (bs d), .string (bs e), .string (bs f)] 9)) (.slice (some ⟨w.heap.size, 0, none⟩) 6 6) [a, b, c, d, e, f] := Sl_built6 w a b c d e f

set_option maxRecDepth 20000 in
set_option maxHeartbeats 2000000 in
theorem own_any (k g n v m : Int) (t tg : List UInt8) (w : World) (he : EnvP w) (hk : isK k) (hp : isP g n) (hv0 : 0 ≤ v) (hv1 : v ≤ 1099511627776) (hm0 : 0 ≤ m) (hm1 : m ≤ 1099511627776) (ht : t.length ≤ 524288) :
    Calls Tryz.prog 31 #[.agg #[.int .i64 k, .int .i64 g, .int .i64 n, .int .i64 v, .int .i64 m, .string (bs t), .string (bs tg)]] w fun e W' => e = .returned (.string (bs (ownT k g v m t))) ∧ Below w.heap.size w W' := by
  have hba : Below w.heap.size w (w.alloc (.cells #[.int .i64 k, .int .i64 g, .int .i64 n, .int .i64 v, .int .i64 m, .string (bs t), .string (bs tg)] 25)) := (Below.refl _ w).alloc (Nat.le_refl _) _
  have rQ : (w.alloc (.cells #[.int .i64 k, .int .i64 g, .int .i64 n, .int .i64 v, .int .i64 m, .string (bs t), .string (bs tg)] 25)).heap[w.heap.size]? = some (.cells #[.int .i64 k, .int .i64 g, .int .i64 n, .int .i64 v, .int .i64 m, .string (bs t), .string (bs tg)] 25) := heap_alloc_new _ _
  obtain ⟨W0, hW0⟩ : ∃ W, w.alloc (.cells #[.int .i64 k, .int .i64 g, .int .i64 n, .int .i64 v, .int .i64 m, .string (bs t), .string (bs tg)] 25) = W := ⟨_, rfl⟩
  have HW : Hid (w.alloc (.cells #[.int .i64 k, .int .i64 g, .int .i64 n, .int .i64 v, .int .i64 m, .string (bs t), .string (bs tg)] 25) = W0) := hW0
  rw [hW0] at hba rQ
  have hlQ := (Array.getElem?_eq_some_iff.1 rQ).1
  have HK : Hid (∀ W, Below W0.heap.size W0 W → (W.cell? ⟨w.heap.size, 0, none⟩ = some (.int .i64 k) ∧ W.cell? ⟨w.heap.size, 1, none⟩ = some (.int .i64 g) ∧ W.cell? ⟨w.heap.size, 3, none⟩ = some (.int .i64 v) ∧ W.cell? ⟨w.heap.size, 4, none⟩ = some (.int .i64 m) ∧ W.cell? ⟨w.heap.size, 5, none⟩ = some (.string (bs t)))) := fun W hb => by
    have r := (hb.block _ hlQ).trans rQ
    exact ⟨cellB r 0 _ rfl, cellB r 1 _ rfl, cellB r 3 _ rfl, cellB r 4 _ rfl, cellB r 5 _ rfl⟩
  have hk0 := hk.1
  have hk1 := hk.2
  have hg0 := hp.1
  have hg1 := hp.2.1
  have a1 := itoa_le (z := k) (by omega) (by omega)
  have a2 := itoa_le (z := g) (by omega) (by omega)
  have a3 := itoa_le (z := v) (by omega) (by omega)
  have a4 := itoa_le (z := m) (by omega) (by omega)
  have HN : Hid (∀ W, Below W0.heap.size W0 W → ∀ z : Int, -9223372036854775808 ≤ z → z ≤ 9223372036854775807 → Calls Tryz.prog 18 #[.int .i64 z] W fun e w' => e = .returned (.string (bs (Lib.itoa z))) ∧ Below W0.heap.size W0 w') := fun W hb z h0 h1 => by
    have hB := hba.trans (hb.mono hba.size)
    refine (Num_any z W h0 h1 (he.next hB)).mono ?_
    rintro e W' ⟨rfl, h⟩
    exact ⟨rfl, hb.trans (h.mono hb.size)⟩
  have HP : Hid (∀ w2, Below W0.heap.size W0 w2 → Calls Tryz.prog 17 #[.slice (some ⟨w2.heap.size, 0, none⟩) 6 6] (w2.alloc (.cells #[.string (bs memoW), .string (bs (Lib.itoa k)), .string (bs (Lib.itoa g)), .string (bs (Lib.itoa v)), .string (bs (Lib.itoa m)), .string (bs t)] 9)) fun e W' => e = .returned (.string (bs (ownT k g v m t))) ∧ Below W0.heap.size W0 W') := by
    intro w2 hb
    have hb2 := hba.trans (hb.mono hba.size)
    have hb3 : Below w2.heap.size w2 (w2.alloc (.cells #[.string (bs memoW), .string (bs (Lib.itoa k)), .string (bs (Lib.itoa g)), .string (bs (Lib.itoa v)), .string (bs (Lib.itoa m)), .string (bs t)] 9)) := (Below.refl _ _).alloc (Nat.le_refl _) _
    have hB3 := hb2.trans (hb3.mono hb2.size)
    have htot : tot [memoW, Lib.itoa k, Lib.itoa g, Lib.itoa v, Lib.itoa m, t] ≤ 1000000 := by rw [tot6]; have : memoW.length = 4 := rfl; omega
    refine (Pack_any [memoW, Lib.itoa k, Lib.itoa g, Lib.itoa v, Lib.itoa m, t] _ _ htot (by simp) (he.next hB3) (Sl_builtO w2 _ _ _ _ _ _)).mono ?_
    rintro e W' ⟨rfl, hb4⟩
    have hb5 := hb3.trans (hb4.mono hb3.size)
    exact ⟨rfl, hb.trans (hb5.mono hb.size)⟩
  have HBa : Hid (_) := hba
  obtain ⟨X, hX⟩ : ∃ X, bs (Lib.itoa k) = X := ⟨_, rfl⟩
  obtain ⟨G, hG⟩ : ∃ G, bs (Lib.itoa g) = G := ⟨_, rfl⟩
  obtain ⟨Vv, hV⟩ : ∃ M, bs (Lib.itoa v) = M := ⟨_, rfl⟩
  obtain ⟨M, hM⟩ : ∃ M, bs (Lib.itoa m) = M := ⟨_, rfl⟩
  have HN0 : Hid (∀ W, Below W0.heap.size W0 W → Calls Tryz.prog 18 #[.int .i64 k] W fun e w' => e = .returned (.string X) ∧ Below W0.heap.size W0 w') := fun W hb => by rw [← hX]; exact HN.out W hb k (by omega) (by omega)
  have HN1 : Hid (∀ W, Below W0.heap.size W0 W → Calls Tryz.prog 18 #[.int .i64 g] W fun e w' => e = .returned (.string G) ∧ Below W0.heap.size W0 w') := fun W hb => by rw [← hG]; exact HN.out W hb g (by omega) (by omega)
  have HN2 : Hid (∀ W, Below W0.heap.size W0 W → Calls Tryz.prog 18 #[.int .i64 v] W fun e w' => e = .returned (.string Vv) ∧ Below W0.heap.size W0 w') := fun W hb => by rw [← hV]; exact HN.out W hb v (by omega) (by omega)
  have HN3 : Hid (∀ W, Below W0.heap.size W0 W → Calls Tryz.prog 18 #[.int .i64 m] W fun e w' => e = .returned (.string M) ∧ Below W0.heap.size W0 w') := fun W hb => by rw [← hM]; exact HN.out W hb m (by omega) (by omega)
  rw [hX, hG, hV, hM] at HP
  obtain ⟨T, hT⟩ : ∃ T, ownT k g v m t = T := ⟨_, rfl⟩
  rw [hT] at HP ⊢
  obtain ⟨L, hL⟩ : ∃ L, memoW = L := ⟨_, rfl⟩
  have hlit : Value.string { data := #[109, 101, 109, 111] } = .string (bs L) := by rw [← hL]; rfl
  rw [hL] at HP
  have hN1 := HN0.out W0.drew (below_drew (Below.refl _ _))
  obtain ⟨q0, q1, q2, q3, q4⟩ := HK.out W0 (Below.refl _ _)
  clear hT hG hV hM hX hL ht he HN hba rQ hW0 hlQ hk hp hv0 hv1 hm0 hm1 hk0 hk1 hg0 hg1 a1 a2 a3 a4
  go_enter Tryz.func31, Tryz.ntmps31
  rw [hlit]
  clear hlit
  go_upto_region 1 with fail
  rw [HW.out]
  clear HW
  obtain ⟨Q, hQ⟩ : ∃ Q, w.heap.size = Q := ⟨_, rfl⟩
  have HP2 : Hid (∀ w2, Below W0.heap.size W0 w2 → Calls Tryz.prog 17 #[.slice (some ⟨w2.heap.size, 0, none⟩) 6 6] (w2.alloc (.cells #[.string (bs L), .string X, .string G, .string Vv, .string M, .string (bs t)] 9)) fun e W' => e = .returned (.string (bs T)) ∧ Below W0.heap.size W0 W') := HP.out
  have HK2 := HK.out
  rw [hQ] at HK2 q0 q1 q2 q3 q4 ⊢
  have HK3 : Hid (_) := HK2
  clear HK HK2 HP hQ
  go_region_held3 (fun w' => w'.cell? ⟨Q, 0, none⟩ = some (.int .i64 k) ∧ w'.cell? ⟨Q, 1, none⟩ = some (.int .i64 g) ∧ w'.cell? ⟨Q, 3, none⟩ = some (.int .i64 v) ∧ w'.cell? ⟨Q, 4, none⟩ = some (.int .i64 m) ∧ w'.cell? ⟨Q, 5, none⟩ = some (.string (bs t))) (go_keep)
    (first
      | (go_at_call 17; have hgd := hb4; refine (HP2.out _ hb4).mono ?_; rintro e w5 ⟨rfl, hb5⟩; obtain ⟨k0, k1, k2, k3, k4⟩ := HK3.out _ hb5)
      | (go_at_call 18; have hgd := hb3; refine (HN3.out _ hb3).mono ?_; rintro e w4 ⟨rfl, hb4⟩; obtain ⟨k0, k1, k2, k3, k4⟩ := HK3.out _ hb4)
      | (go_at_call 18; have hgd := hb2; refine (HN2.out _ hb2).mono ?_; rintro e w3 ⟨rfl, hb3⟩; obtain ⟨k0, k1, k2, k3, k4⟩ := HK3.out _ hb3)
      | (go_at_call 18; have hgd := hb1; refine (HN1.out _ hb1).mono ?_; rintro e w2 ⟨rfl, hb2⟩; obtain ⟨k0, k1, k2, k3, k4⟩ := HK3.out _ hb2)
      | (go_at_call 18; refine hN1.mono ?_; rintro e w1 ⟨rfl, hb1⟩; obtain ⟨k0, k1, k2, k3, k4⟩ := HK3.out _ hb1))
  all_goals
    go_wp2
    exact bodyPost_ret (v := .string (bs T)) (by simp [results, Tryz.f31, go_sem]) rfl ⟨rfl, HBa.out.trans (hb5.mono HBa.out.size)⟩
end
end Go.Proofs.YtmkjcfakopbdhaaGreatDoor
