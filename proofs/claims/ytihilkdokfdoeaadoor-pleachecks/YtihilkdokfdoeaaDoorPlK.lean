/- The document's place of a point, walked. -/
import Derived.Test.YtihilkdokfdoeaaDoorPlH
namespace Go.Proofs.YtihilkdokfdoeaaDoor
open Go.RowKit Go.Maps
attribute [local go_sem ↓] Go.wp_at_zero Go.wp_at_succ

/-- The first n calls have none of a number. -/
theorem shF_none {calls : List Cl} {c m : Int} {n : Nat} (h : ∀ i x, i < n → calls[i]? = some x → ¬ ck x = (c, m)) : shF calls c m n = none := by
  induction n with
  | zero => rfl
  | succ n ih =>
    rw [shF, ih fun i x hi hx => h i x (by omega) hx]
    cases e : calls[n]? with
    | none => rfl
    | some x => simp [h n x (by omega) e]
theorem shF_first {calls : List Cl} {c m : Int} {n k : Nat} {x : Cl} (h : ∀ i x, i < n → calls[i]? = some x → ¬ ck x = (c, m)) (hx : calls[n]? = some x) (hk : ck x = (c, m)) (hn : n < k) : shF calls c m k = some (plcK x.op.k) := by
  induction k with
  | zero => omega
  | succ k ih =>
    by_cases e : n = k
    · subst e; exact shF_hit (shF_none h) hx hk
    · exact shF_some (ih (by omega))
set_option maxRecDepth 20000 in
set_option maxHeartbeats 1500000 in
theorem rplace_any (calls : List Cl) (p : Pt) (vc : Value) (w : World) (hc : SlF ccs 10 w vc calls) (hk : ∀ c ∈ calls, c.op.k.length ≤ 140737488351232) (hl : calls.length ≤ 100000) : Calls Tryd.prog 27 #[vc, ptV p] w fun e W' => e = .returned (.int .i64 (shP calls p : Nat)) ∧ Below w.heap.size w W' := by
  obtain ⟨va, vcap, rfl⟩ := hc.slice
  obtain ⟨R, hR⟩ : ∃ R, shP calls p = R := ⟨_, rfl⟩
  have hno : (∀ i x, i < calls.length → calls[i]? = some x → ¬ ck x = (p.cl, p.no)) → R = 0 := fun h => by rw [← hR, shP, shF_none h]; rfl
  have hyes : ∀ n x, (∀ i x, i < n → calls[i]? = some x → ¬ ck x = (p.cl, p.no)) → calls[n]? = some x → ck x = (p.cl, p.no) → plcK x.op.k = R := fun n x h hx hk => by rw [← hR, shP, shF_first h hx hk (List.getElem?_eq_some_iff.1 hx).1]; rfl
  rw [hR]
  obtain ⟨tm, pcl, pno, pT, pE⟩ := p
  have hno' : (∀ i x, i < calls.length → calls[i]? = some x → ¬ ck x = (pcl, pno)) → R = 0 := hno
  have hyes' : ∀ n x, (∀ i x, i < n → calls[i]? = some x → ¬ ck x = (pcl, pno)) → calls[n]? = some x → ck x = (pcl, pno) → plcK x.op.k = R := hyes
  show Calls Tryd.prog 27 #[.slice va calls.length vcap, .agg #[.int .i64 tm, .int .i64 pcl, .int .i64 pno, .int .i64 pE, .string (bs pT)]] w _
  obtain ⟨N, hN⟩ : ∃ N, w.heap.size = N := ⟨_, rfl⟩
  obtain ⟨W2, hW2⟩ : ∃ W, w.alloc (.cells #[.int .i64 tm, .int .i64 pcl, .int .i64 pno, .int .i64 pE, .string (bs pT)] 53) = W := ⟨_, rfl⟩
  have hb1 : Below N w W2 := by rw [← hW2, ← hN]; exact (Below.refl _ w).alloc (Nat.le_refl _) _
  have z0 := heap_alloc_new w (.cells #[.int .i64 tm, .int .i64 pcl, .int .i64 pno, .int .i64 pE, .string (bs pT)] 53)
  rw [hW2, hN] at z0
  have HV : Hid (∀ W, Below N w W → SlF ccs 10 W (.slice va calls.length vcap) calls) := fun W hW => hc.on hW (by omega)
  have HW : Hid (w.alloc (.cells #[.int .i64 tm, .int .i64 pcl, .int .i64 pno, .int .i64 pE, .string (bs pT)] 53) = W2) := hW2
  have HN : Hid (w.heap.size = N) := hN
  have HZ : Hid (W2.heap[N]? = some (.cells #[.int .i64 tm, .int .i64 pcl, .int .i64 pno, .int .i64 pE, .string (bs pT)] 53) ∧ Below N w W2 ∧ N < W2.heap.size) := ⟨z0, hb1, by rw [← hW2, ← hN, World.size_alloc]; omega⟩
  have HO : Hid (_ ∧ _) := ⟨hno', hyes'⟩
  have HK : Hid (∀ c ∈ calls, c.op.k.length ≤ 140737488351232) := hk
  clear hc hR hno hyes hno' hyes' hb1 z0 hW2 hN hk
  go_enter Tryd.func27, Tryd.ntmps27
  go_upto_region 1 with fail
  rw [HW.out]
  try rw [HN.out]
  go_wp2_with fail
  go_loopg [9] calls.length (fun gk i wr => ∃ n : Nat, n + gk = calls.length ∧ i = .int .i64 n ∧ (∀ i x, i < n → calls[i]? = some x → ¬ ck x = (pcl, pno)) ∧ Below (N + 1) W2 wr)
  case atStart => exact ⟨0, by omega, rfl, fun i x hi => by omega, Below.refl _ _⟩
  case round =>
    obtain ⟨n, hnn, rfl, hP, hB⟩ := hrel
    have hBN := HZ.out.2.1.trans (hB.mono (by omega))
    by_cases hn1 : n = calls.length
    · subst hn1
      have HF : Hid (R = 0 ∧ Below N w wr) := ⟨HO.out.1 hP, hBN⟩
      clear hP hB hBN HV HZ HO HK
      go_wp2
      go_ret
      rw [HF.out.1]
      exact ⟨rfl, by rw [HN.out]; exact HF.out.2⟩
    have hn2 : n < calls.length := by omega
    obtain ⟨c, ho⟩ : ∃ c, calls[n]? = some c := ⟨_, List.getElem?_eq_getElem hn2⟩
    have hkc := HK.out c (List.mem_of_getElem? ho)
    have hye := HO.out.2 n c hP ho
    have hP2 : ¬ ck c = (pcl, pno) → ∀ i x, i < n + 1 → calls[i]? = some x → ¬ ck x = (pcl, pno) := fun h i x hi hx => by
      by_cases e : i = n
      · subst e; rw [ho] at hx; injection hx with hx; subst hx; exact h
      · exact hP i x (by omega) hx
    obtain ⟨g, e', hg', -, y⟩ := (HV.out _ hBN).at ho
    subst hg'
    obtain ⟨cl, no, ⟨kind, k, v, od⟩, fr, tt, T, E⟩ := c
    have y0 : wr.cell? ⟨g, e' + n * 10, none⟩ = some (.int .i64 cl) := y 0 _ rfl
    have y1 : wr.cell? ⟨g, e' + n * 10 + 1, none⟩ = some (.int .i64 no) := y 1 _ rfl
    have y2 : wr.cell? ⟨g, e' + n * 10 + 2, none⟩ = some (.int .i64 kind) := y 2 _ rfl
    have y3 : wr.cell? ⟨g, e' + n * 10 + 3, none⟩ = some (.string (bs k)) := y 3 _ rfl
    have y4 : wr.cell? ⟨g, e' + n * 10 + 4, none⟩ = some (.string (bs v)) := y 4 _ rfl
    have y5 : wr.cell? ⟨g, e' + n * 10 + 5, none⟩ = some (.string (bs od)) := y 5 _ rfl
    have y6 : wr.cell? ⟨g, e' + n * 10 + 6, none⟩ = some (.int .i64 fr) := y 6 _ rfl
    have y7 : wr.cell? ⟨g, e' + n * 10 + 7, none⟩ = some (.int .i64 tt) := y 7 _ rfl
    have y8 : wr.cell? ⟨g, e' + n * 10 + 8, none⟩ = some (.int .i64 E) := y 8 _ rfl
    have y9 : wr.cell? ⟨g, e' + n * 10 + 9, none⟩ = some (.string (bs T)) := y 9 _ rfl
    have hnb : n ≤ 100000 := by omega
    have d0 : (0 : Int) ≤ (n : Int) := by omega
    have d1 : (n : Int) < (calls.length : Int) := by omega
    obtain ⟨D, hD⟩ : ∃ D, wr.heap.size = D := ⟨_, rfl⟩
    have hDN : N + 1 ≤ D := by have := hB.size; have := HZ.out.2.2; omega
    have rD := heap_alloc_new wr (.cells #[.int .i64 cl, .int .i64 no, .int .i64 kind, .string (bs k), .string (bs v), .string (bs od), .int .i64 fr, .int .i64 tt, .int .i64 E, .string (bs T)] 45)
    have hbA := (Below.refl wr.heap.size wr).alloc (Nat.le_refl _) (.cells #[.int .i64 cl, .int .i64 no, .int .i64 kind, .string (bs k), .string (bs v), .string (bs od), .int .i64 fr, .int .i64 tt, .int .i64 E, .string (bs T)] 45)
    obtain ⟨WA, hWA⟩ : ∃ W, wr.alloc (.cells #[.int .i64 cl, .int .i64 no, .int .i64 kind, .string (bs k), .string (bs v), .string (bs od), .int .i64 fr, .int .i64 tt, .int .i64 E, .string (bs T)] 45) = W := ⟨_, rfl⟩
    rw [hWA] at rD hbA
    rw [hD] at rD hbA
    have x0 := cellB rD 0 _ rfl
    have x1 := cellB rD 1 _ rfl
    have x3 := cellB rD 3 _ rfl
    have zA := (((hB.trans (hbA.mono hDN)).block N (by omega))).trans HZ.out.1
    have c1 := cellB zA 1 _ rfl
    have c2 := cellB zA 2 _ rfl
    have HA : Hid (Below (N + 1) W2 WA) := hB.trans (hbA.mono hDN)
    have hPl : Calls Tryd.prog 21 #[.string (bs k)] WA fun e W' => e = .returned (.int .i64 (plcK k)) ∧ Below (N + 1) W2 W' := (rPlace_any k WA hkc).mono fun e W' hh => ⟨hh.1, HA.out.trans (hh.2.mono (by have := HA.out.size; have := HZ.out.2.2; omega))⟩
    have HWA : Hid (wr.alloc (.cells #[.int .i64 cl, .int .i64 no, .int .i64 kind, .string (bs k), .string (bs v), .string (bs od), .int .i64 fr, .int .i64 tt, .int .i64 E, .string (bs T)] 45) = WA) := hWA
    have HD : Hid (wr.heap.size = D) := hD
    have HY : Hid ((ck ⟨cl, no, ⟨kind, k, v, od⟩, fr, tt, (T, E)⟩ = (pcl, pno) → plcK k = R) ∧ (¬ ck ⟨cl, no, ⟨kind, k, v, od⟩, fr, tt, (T, E)⟩ = (pcl, pno) → ∀ i x, i < n + 1 → calls[i]? = some x → ¬ ck x = (pcl, pno))) := ⟨hye, hP2⟩
    clear hP hB hBN y hD hDN rD hbA hWA zA ho hkc hye hP2
    go_upto_region 4 with fail
    rw [HWA.out]
    try rw [HD.out]
    clear y0 y1 y2 y3 y4 y5 y6 y7 y8 y9 HWA HD
    by_cases e : cl = pcl ∧ no = pno
    · have e1 : (cl == pcl) = true := by simpa using e.1
      have e2 : (no == pno) = true := by simpa using e.2
      have hR := HY.out.1 (by rw [← e.1, ← e.2]; rfl)
      rw [hR] at hPl
      clear e HY HV HK HO hR
      go_wp2_with (go_at_call 21; refine hPl.mono ?_; clear hPl; rintro e w1 ⟨rfl, hb1⟩)
      go_ret
      exact ⟨rfl, by rw [HN.out]; exact HZ.out.2.1.trans (hb1.mono (by omega))⟩
    · have HPN := HY.out.2 (fun h => e ⟨congrArg Prod.fst h, congrArg Prod.snd h⟩)
      have HPN : Hid (_) := HPN
      by_cases e1 : cl = pcl
      · have e3 : (cl == pcl) = true := by simpa using e1
        have e2 : (no == pno) = false := by simpa using fun h => e ⟨e1, h⟩
        clear e e1 HY hPl HO HK HV HZ
        go_wp2
        go_roundg (calls.length - (n + 1))
        case measure => omega
        case rel => exact ⟨n + 1, by omega, by go_num, HPN.out, HA.out⟩
      · have e3 : (cl == pcl) = false := by simpa using e1
        clear e e1 HY hPl HO HK HV HZ
        go_wp2
        go_roundg (calls.length - (n + 1))
        case measure => omega
        case rel => exact ⟨n + 1, by omega, by go_num, HPN.out, HA.out⟩
end Go.Proofs.YtihilkdokfdoeaaDoor
