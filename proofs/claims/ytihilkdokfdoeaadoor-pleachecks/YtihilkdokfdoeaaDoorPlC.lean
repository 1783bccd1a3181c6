/- Is a history large: the law's own look, walked. -/
import Derived.Test.YtihilkdokfdoeaaDoorPlA
namespace Go.Proofs.YtihilkdokfdoeaaDoor
open Go.RowKit Go.Maps
attribute [local go_sem ↓] Go.wp_at_zero Go.wp_at_succ

def sumK (l : List Cl) : Nat := (l.map fun c => c.op.k.length).sum
theorem sumK_snoc (l : List Cl) (c : Cl) : sumK (l ++ [c]) = sumK l + c.op.k.length := by simp [sumK]
theorem sumK_app (a b : List Cl) : sumK (a ++ b) = sumK a + sumK b := by simp [sumK]
theorem sumK_take (l : List Cl) (n : Nat) : sumK (l.take n) ≤ sumK l := by
  have := sumK_app (l.take n) (l.drop n)
  rw [List.take_append_drop] at this
  omega
theorem sumK_mem {l : List Cl} {c : Cl} (h : c ∈ l) : c.op.k.length ≤ sumK l := by
  induction l with
  | nil => cases h
  | cons a l ih =>
    rcases List.mem_cons.1 h with rfl | h
    · simp [sumK]
    · have := ih h
      simp [sumK] at this ⊢
      omega
/-- Is it large? -/
def lgB (calls : List Cl) (pl : Nat) : Bool := decide (5000 < sumK calls) || (decide (80 < calls.length) || decide (80 < pl))
theorem lgB_no {calls : List Cl} {pl : Nat} (h : lgB calls pl = false) : calls.length ≤ 80 ∧ pl ≤ 80 ∧ ∀ c ∈ calls, c.op.k.length ≤ 5000 := by
  simp only [lgB, Bool.or_eq_false_iff, decide_eq_false_iff_not] at h
  refine ⟨by omega, by omega, fun c hc => ?_⟩
  have := sumK_mem hc
  omega
set_option maxRecDepth 20000 in
set_option maxHeartbeats 1500000 in
theorem large_any (calls : List Cl) (vc : Value) (pa : Option Addr) (pl pcap : Nat) (w : World) (hc : SlF ccs 10 w vc calls) (hk : ∀ c ∈ calls, c.op.k.length ≤ 140737488351232) (hl : calls.length ≤ 3000000000000) : Calls Tryd.prog 7 #[vc, .slice pa pl pcap] w fun e W' => e = .returned (.bool (lgB calls pl)) ∧ Below w.heap.size w W' := by
  obtain ⟨va, vcap, rfl⟩ := hc.slice
  obtain ⟨R, hR⟩ : ∃ R, lgB calls pl = R := ⟨_, rfl⟩
  rw [hR]
  obtain ⟨N, hN⟩ : ∃ N, w.heap.size = N := ⟨_, rfl⟩
  have HN : Hid (w.heap.size = N) := hN
  have HR : Hid (lgB calls pl = R) := hR
  have HV : Hid (∀ W, Below N w W → SlF ccs 10 W (.slice va calls.length vcap) calls) := fun W hW => hc.on hW (by omega)
  have HK : Hid (∀ c ∈ calls, c.op.k.length ≤ 140737488351232) := hk
  clear hc hN hR hk
  go_enter Tryd.func7, Tryd.ntmps7
  go_wp2_with fail
  go_loopg [5, 10] calls.length (fun gk s j wr => ∃ n m : Nat, n + gk = calls.length ∧ j = .int .i64 n ∧ s = .int .i64 m ∧ m = sumK (calls.take n) ∧ m ≤ 5000 ∧ Below N w wr)
  case atStart => exact ⟨0, 0, by omega, rfl, rfl, rfl, by omega, by rw [← HN.out]; exact Below.refl _ _⟩
  case round =>
    obtain ⟨n, m, hnn, rfl, rfl, hm, hm5, hB⟩ := hrel
    by_cases hn1 : n = calls.length
    · subst hn1
      rw [List.take_length] at hm
      have HB : Hid (Below N w wr) := hB
      have HM : Hid (m = sumK calls ∧ m ≤ 5000) := ⟨hm, hm5⟩
      clear hB HV HK hm hm5
      by_cases c1 : 80 < calls.length
      · have d1 : (80 : Int) < (calls.length : Int) := by omega
        have e : R = true := by rw [← HR.out]; simp [lgB, c1]
        subst e
        clear c1 HR HM
        go_wp2
        go_ret
        exact ⟨rfl, by rw [HN.out]; exact HB.out⟩
      have d1 : ¬ (80 : Int) < (calls.length : Int) := by omega
      by_cases c2 : 80 < pl
      · have d2 : (80 : Int) < (pl : Int) := by omega
        have e : R = true := by rw [← HR.out]; simp [lgB, c2]
        subst e
        clear c1 c2 HR HM
        go_wp2
        go_ret
        exact ⟨rfl, by rw [HN.out]; exact HB.out⟩
      · have d2 : ¬ (80 : Int) < (pl : Int) := by omega
        have e : R = false := by rw [← HR.out, lgB, ← HM.out.1, decide_eq_false (by have := HM.out.2; omega), decide_eq_false c1, decide_eq_false c2]; rfl
        subst e
        clear c1 c2 HR HM
        go_wp2
        go_ret
        exact ⟨rfl, by rw [HN.out]; exact HB.out⟩
    · have hn2 : n < calls.length := by omega
      obtain ⟨c, ho⟩ : ∃ c, calls[n]? = some c := ⟨_, List.getElem?_eq_getElem hn2⟩
      have hkc := HK.out c (List.mem_of_getElem? ho)
      have hsn : sumK (calls.take (n + 1)) = m + c.op.k.length := by rw [take_snoc ho, sumK_snoc, hm]
      obtain ⟨g, e', hg', -, y⟩ := (HV.out _ hB).at ho
      subst hg'
      obtain ⟨cl, no, ⟨kind, k, v, od⟩, fr, tt, T, E⟩ := c
      have y0 : wr.cell? ⟨g, e' + n * 10, none⟩ = some (.int .i64 cl) := y 0 _ rfl
      have y1 : wr.cell? ⟨g, e' + n * 10 + 1, none⟩ = some (.int .i64 no) := y 1 _ rfl
      have y2 : wr.cell? ⟨g, e' + n * 10 + 2, none⟩ = some (.int .i64 kind) := y 2 _ rfl
      have y3 : wr.cell? ⟨g, e' + n * 10 + 3, none⟩ = some (.string (bs k)) := y 3 _ rfl
      have y4 : wr.cell? ⟨g, e' + n * 10 + 4, none⟩ = some (.string (bs v)) := y 4 _ rfl
      have y5 : wr.cell? ⟨g, e' + n * 10 + 5, none⟩ = some (.string (bs od)) := y 5 _ rfl
      have y6 : wr.cell? ⟨g, e' + n * 10 + 6, none⟩ = some (.int .i64 fr) := y 6 _ rfl
      have y7 : wr.cell? ⟨g, e' + n * 10 + 7, none⟩ = some (.int .i64 tt) := y 7 _ rfl
      have y8 : wr.cell? ⟨g, e' + n * 10 + 8, none⟩ = some (.int .i64 E) := y 8 _ rfl
      have y9 : wr.cell? ⟨g, e' + n * 10 + 9, none⟩ = some (.string (bs T)) := y 9 _ rfl
      have hnb : n ≤ 3000000000000 := by omega
      have d0 : (0 : Int) ≤ (n : Int) := by omega
      have d1 : (n : Int) < (calls.length : Int) := by omega
      obtain ⟨D, hD⟩ : ∃ D, wr.heap.size = D := ⟨_, rfl⟩
      have hDN : N ≤ D := by have := hB.size; have := HN.out; omega
      have rD := heap_alloc_new wr (.cells #[.int .i64 cl, .int .i64 no, .int .i64 kind, .string (bs k), .string (bs v), .string (bs od), .int .i64 fr, .int .i64 tt, .int .i64 E, .string (bs T)] 51)
      have hbA := (Below.refl wr.heap.size wr).alloc (Nat.le_refl _) (.cells #[.int .i64 cl, .int .i64 no, .int .i64 kind, .string (bs k), .string (bs v), .string (bs od), .int .i64 fr, .int .i64 tt, .int .i64 E, .string (bs T)] 51)
      obtain ⟨WA, hWA⟩ : ∃ W, wr.alloc (.cells #[.int .i64 cl, .int .i64 no, .int .i64 kind, .string (bs k), .string (bs v), .string (bs od), .int .i64 fr, .int .i64 tt, .int .i64 E, .string (bs T)] 51) = W := ⟨_, rfl⟩
      rw [hWA] at rD hbA
      rw [hD] at rD hbA
      have x0 := cellB rD 0 _ rfl
      have x3 := cellB rD 3 _ rfl
      have HB : Hid (Below N w WA) := hB.trans (hbA.mono hDN)
      have HWA : Hid (wr.alloc (.cells #[.int .i64 cl, .int .i64 no, .int .i64 kind, .string (bs k), .string (bs v), .string (bs od), .int .i64 fr, .int .i64 tt, .int .i64 E, .string (bs T)] 51) = WA) := hWA
      have HD : Hid (wr.heap.size = D) := hD
      have hkl : k.length ≤ 140737488351232 := hkc
      have HS : Hid (sumK (calls.take (n + 1)) = m + k.length) := hsn
      obtain ⟨K, hK⟩ : ∃ K, k.length = K := ⟨_, rfl⟩
      have hz : (bs k).size = K := by rw [bs_size, hK]
      rw [hK] at hkl HS
      have HZ : Hid (m = sumK (calls.take n)) := hm
      clear hB y hD hDN rD hbA hWA hm hkc hsn ho hK
      go_upto_region 5 with fail
      rw [HWA.out]
      try rw [HD.out]
      clear y0 y1 y2 y3 y4 y5 y6 y7 y8 y9 HWA HD
      by_cases hb : 5000 < m + K
      · have d2 : (5000 : Int) < (m : Int) + (K : Int) := by omega
        have e : R = true := by rw [← HR.out]; have := sumK_take calls (n + 1); have := HS.out; simp [lgB]; left; omega
        subst e
        clear HR HZ HS HV HK
        go_wp2
        go_ret
        exact ⟨rfl, by rw [HN.out]; exact HB.out⟩
      · have d2 : ¬ (5000 : Int) < (m : Int) + (K : Int) := by omega
        have d3 : m + K ≤ 5000 := by omega
        have HS2 : Hid (m + K = sumK (calls.take (n + 1)) ∧ m + K ≤ 5000) := ⟨HS.out.symm, by omega⟩
        clear HS HZ hb
        go_wp2
        go_roundg (calls.length - (n + 1))
        case measure => omega
        case rel => exact ⟨n + 1, m + K, by omega, by go_num, by go_num, HS2.out.1, HS2.out.2, HB.out⟩
end Go.Proofs.YtihilkdokfdoeaaDoor
