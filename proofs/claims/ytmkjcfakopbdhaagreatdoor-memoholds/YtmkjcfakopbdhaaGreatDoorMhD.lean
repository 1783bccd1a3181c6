/- What a memo's tag is of: the program's Said, walked. -/
import Derived.Test.YtmkjcfakopbdhaaGreatDoorMs1
namespace Go.Proofs.YtmkjcfakopbdhaaGreatDoor
open Go.RowKit
attribute [local go_sem ↓] Go.wp_at_zero Go.wp_at_succ

/-- What a memo's tag is of, and why it has none. -/
def sdX (k g v m : Int) (t : List UInt8) : List UInt8 := if k = 2 then saidV orderW g v m t else if k = 3 then saidV settleW g v m t else if k = 4 then textV g m t else if k = 10 ∨ k = 11 then t else ownT k g v m t
def sdE (k g v m : Int) (t : List UInt8) : Int := if k = 2 then saidE orderW g v m t else if k = 3 then saidE settleW g v m t else if k = 4 then textE g m t else 0
def saE (k g n v m : Int) (t tg : List UInt8) : Int := if utB k = true then 6 else if fE k g n v m t.length = 0 then (if tg ≠ [] ∧ tg.length ≠ 16 then 4 else sdE k g v m t) else fE k g n v m t.length
def saX (k g n v m : Int) (t tg : List UInt8) : List UInt8 := if utB k = true then [] else if fE k g n v m t.length = 0 then (if tg ≠ [] ∧ tg.length ≠ 16 then [] else sdX k g v m t) else []

theorem sa_of {k g n v m : Int} {t tg : List UInt8} (hu : utB k = false) (hf : fE k g n v m t.length = 0) (hb : ¬ (tg ≠ [] ∧ tg.length ≠ 16)) : saX k g n v m t tg = sdX k g v m t ∧ saE k g n v m t tg = sdE k g v m t := by
  constructor
  · rw [saX, if_neg (by rw [hu]; decide), if_pos hf, if_neg hb]
  · rw [saE, if_neg (by rw [hu]; decide), if_pos hf, if_neg hb]
theorem said_said {W g v m t} (h : saidE W g v m t = 0) : saidV W g v m t = saidT W g v m t := if_pos h
theorem mark_said {g m t} (h : textE g m t = 0) : textV g m t = markT g m t := if_pos h

set_option maxRecDepth 20000 in
set_option maxHeartbeats 4000000 in
theorem Said_any (k g n v m : Int) (t tg : List UInt8) (w : World) (ht : t.length ≤ 40000) (he : EnvM w) :
    Calls Tryz.prog 14 #[.agg #[.int .i64 k, .int .i64 g, .int .i64 n, .int .i64 v, .int .i64 m, .string (bs t), .string (bs tg)]] w fun e W' => e = .returned (.tuple #[.string (bs (saX k g n v m t tg)), .int .i64 (saE k g n v m t tg)]) ∧ Below w.heap.size w W' := by
  have hb0 : Below w.heap.size w (w.alloc (.cells #[.int .i64 k, .int .i64 g, .int .i64 n, .int .i64 v, .int .i64 m, .string (bs t), .string (bs tg)] 25)) := (Below.refl _ w).alloc (Nat.le_refl _) _
  have p0 : (w.alloc (.cells #[.int .i64 k, .int .i64 g, .int .i64 n, .int .i64 v, .int .i64 m, .string (bs t), .string (bs tg)] 25)).heap[w.heap.size]? = some (.cells #[.int .i64 k, .int .i64 g, .int .i64 n, .int .i64 v, .int .i64 m, .string (bs t), .string (bs tg)] 25) := heap_alloc_new _ _
  have hlp : w.heap.size < (w.alloc (.cells #[.int .i64 k, .int .i64 g, .int .i64 n, .int .i64 v, .int .i64 m, .string (bs t), .string (bs tg)] 25)).heap.size := by simp
  have hU := isUntagged_any k _ (he.next hb0)
  have hF := fault_any k g n v m t tg _ (he.next hb0)
  cases hu : utB k
  case true =>
    rw [hu] at hU
    rw [saX, saE, if_pos hu, if_pos hu]
    clear hF p0 hlp hu
    go_enter Tryz.func14, Tryz.ntmps14
    go_wp2_with (first | (go_at_call 12; refine hU.mono ?_; rintro e w1 ⟨rfl, rfl⟩))
    go_ret2
    exact ⟨rfl, hb0⟩
  rw [hu] at hU
  by_cases hf : fE k g n v m t.length = 0
  case neg =>
    rw [show saX k g n v m t tg = [] by rw [saX, if_neg (by rw [hu]; decide), if_neg hf], show saE k g n v m t tg = fE k g n v m t.length by rw [saE, if_neg (by rw [hu]; decide), if_neg hf]]
    obtain ⟨F, hF2⟩ : ∃ F, fE k g n v m t.length = F := ⟨_, rfl⟩
    rw [hF2] at hF hf ⊢
    have hq : (F != 0) = true := by simpa using hf
    clear hf hF2 p0 hlp
    go_enter Tryz.func14, Tryz.ntmps14
    go_wp2_with (first | (go_at_call 12; refine hU.mono ?_; rintro e w1 ⟨rfl, rfl⟩) | (go_at_call 27; refine hF.mono ?_; rintro e w2 ⟨rfl, hb2⟩))
    go_ret2
    exact ⟨rfl, hb0.trans (hb2.mono hb0.size)⟩
  obtain ⟨hk, hp, hgk, hok⟩ := fE_ok hf
  have hkn := kinds k.toNat (by have := hk.1; have := hk.2; omega)
  have hv0 : 0 ≤ v := by have := hok.1; omega
  have hv1 : v ≤ 1099511627776 := by have := hok.2.1; omega
  have hm0 : 0 ≤ m := by have := hok.2.2.1; omega
  have hm1 : m ≤ 1099511627776 := by have := hok.2.2.2.1; omega
  have hsa := fun h => sa_of (k := k) (g := g) (n := n) (v := v) (m := m) (t := t) (tg := tg) hu hf h
  have hsb : (tg ≠ [] ∧ tg.length ≠ 16) → saX k g n v m t tg = [] ∧ saE k g n v m t tg = 4 := fun h => ⟨by rw [saX, if_neg (by rw [hu]; decide), if_pos hf, if_pos h], by rw [saE, if_neg (by rw [hu]; decide), if_pos hf, if_pos h]⟩
  rw [hf] at hF
  have hlen : (bs tg).size = tg.length := bs_size tg
  have hOwn := fun W (h : EnvP W) => own_any k g n v m t tg W h hk hp hv0 hv1 hm0 hm1 (by omega)
  have hOr := fun W (h : EnvP W) => Order_any g v m t W (by omega) h
  have hSe := fun W (h : EnvP W) => Settle_any g v m t W (by omega) h
  have hMa := fun W (h : EnvP W) => Text_any g m t W (by omega) h
  clear hu hf hk hp hgk hok hkn hv0 hv1 hm0 hm1
  by_cases hbad : tg ≠ [] ∧ tg.length ≠ 16
  · rw [(hsb hbad).1, (hsb hbad).2]
    clear hsa hsb
    have ht1 : (bs tg).toList.isEmpty = false := by rw [bs_toListC]; simpa using hbad.1
    have ht2 : (((bs tg).size : Int) != 16) = true := by rw [hlen]; have := hbad.2; simp; omega
    clear hbad hlen hOwn hOr hSe hMa
    go_enter Tryz.func14, Tryz.ntmps14
    go_wp2_with (first | (go_at_call 12; refine hU.mono ?_; rintro e w1 ⟨rfl, rfl⟩) | (go_at_call 27; refine hF.mono ?_; rintro e w2 ⟨rfl, hb2⟩; have p2 := (hb2.block w.heap.size hlp).trans p0; have x0 := cellB p2 0 (.int .i64 k) rfl; have x6 := cellB p2 6 (.string (bs tg)) rfl; clear p0 hlp p2))
    go_ret2
    exact ⟨rfl, hb0.trans (hb2.mono hb0.size)⟩
  rw [(hsa hbad).1, (hsa hbad).2]
  clear hsa hsb
  have htag : (bs tg).toList.isEmpty = true ∨ ((bs tg).toList.isEmpty = false ∧ (((bs tg).size : Int) != 16) = false) := by
    by_cases h0 : tg = []
    · exact .inl (by rw [bs_toListC, h0]; rfl)
    · have h16 : tg.length = 16 := Classical.byContradiction fun c => hbad ⟨h0, c⟩
      exact .inr ⟨by rw [bs_toListC]; simpa using h0, by rw [hlen, h16]; rfl⟩
  clear hbad hlen
  by_cases h2 : k = 2
  case pos =>
    subst h2
    rw [show sdX 2 g v m t = saidV orderW g v m t from rfl, show sdE 2 g v m t = saidE orderW g v m t from rfl]
    obtain ⟨SX, hSX⟩ : ∃ X, saidV orderW g v m t = X := ⟨_, rfl⟩
    obtain ⟨SE, hSE⟩ : ∃ E, saidE orderW g v m t = E := ⟨_, rfl⟩
    rw [hSX, hSE] at hOr ⊢
    clear hSX hSE
    clear hOwn hSe hMa ht
    rcases htag with ht1 | ⟨ht1, ht2⟩
    · go_enter Tryz.func14, Tryz.ntmps14
      go_wp2_with (first | (go_at_call 12; refine hU.mono ?_; rintro e w1 ⟨rfl, rfl⟩) | (go_at_call 27; refine hF.mono ?_; rintro e w2 ⟨rfl, hb2⟩; have p2 := (hb2.block w.heap.size hlp).trans p0; have x0 := cellB p2 0 (.int .i64 2) rfl; have x1 := cellB p2 1 (.int .i64 g) rfl; have x2 := cellB p2 2 (.int .i64 n) rfl; have x3 := cellB p2 3 (.int .i64 v) rfl; have x4 := cellB p2 4 (.int .i64 m) rfl; have x5 := cellB p2 5 (.string (bs t)) rfl; have x6 := cellB p2 6 (.string (bs tg)) rfl; have hB2 := hb0.trans (hb2.mono hb0.size); have hP2 := (he.next hB2).env.p; clear p0 hlp p2 hb2) | (go_at_call 28; refine (hOr _ hP2).mono ?_; rintro e w3 ⟨rfl, hb3⟩))
      go_ret2
      exact ⟨rfl, hB2.trans (hb3.mono hB2.size)⟩
    · go_enter Tryz.func14, Tryz.ntmps14
      go_wp2_with (first | (go_at_call 12; refine hU.mono ?_; rintro e w1 ⟨rfl, rfl⟩) | (go_at_call 27; refine hF.mono ?_; rintro e w2 ⟨rfl, hb2⟩; have p2 := (hb2.block w.heap.size hlp).trans p0; have x0 := cellB p2 0 (.int .i64 2) rfl; have x1 := cellB p2 1 (.int .i64 g) rfl; have x2 := cellB p2 2 (.int .i64 n) rfl; have x3 := cellB p2 3 (.int .i64 v) rfl; have x4 := cellB p2 4 (.int .i64 m) rfl; have x5 := cellB p2 5 (.string (bs t)) rfl; have x6 := cellB p2 6 (.string (bs tg)) rfl; have hB2 := hb0.trans (hb2.mono hb0.size); have hP2 := (he.next hB2).env.p; clear p0 hlp p2 hb2) | (go_at_call 28; refine (hOr _ hP2).mono ?_; rintro e w3 ⟨rfl, hb3⟩))
      go_ret2
      exact ⟨rfl, hB2.trans (hb3.mono hB2.size)⟩
  by_cases h3 : k = 3
  case pos =>
    subst h3
    rw [show sdX 3 g v m t = saidV settleW g v m t from rfl, show sdE 3 g v m t = saidE settleW g v m t from rfl]
    obtain ⟨SX, hSX⟩ : ∃ X, saidV settleW g v m t = X := ⟨_, rfl⟩
    obtain ⟨SE, hSE⟩ : ∃ E, saidE settleW g v m t = E := ⟨_, rfl⟩
    rw [hSX, hSE] at hSe ⊢
    clear hSX hSE
    clear hOwn hOr hMa ht
    rcases htag with ht1 | ⟨ht1, ht2⟩
    · go_enter Tryz.func14, Tryz.ntmps14
      go_wp2_with (first | (go_at_call 12; refine hU.mono ?_; rintro e w1 ⟨rfl, rfl⟩) | (go_at_call 27; refine hF.mono ?_; rintro e w2 ⟨rfl, hb2⟩; have p2 := (hb2.block w.heap.size hlp).trans p0; have x0 := cellB p2 0 (.int .i64 3) rfl; have x1 := cellB p2 1 (.int .i64 g) rfl; have x2 := cellB p2 2 (.int .i64 n) rfl; have x3 := cellB p2 3 (.int .i64 v) rfl; have x4 := cellB p2 4 (.int .i64 m) rfl; have x5 := cellB p2 5 (.string (bs t)) rfl; have x6 := cellB p2 6 (.string (bs tg)) rfl; have hB2 := hb0.trans (hb2.mono hb0.size); have hP2 := (he.next hB2).env.p; clear p0 hlp p2 hb2) | (go_at_call 29; refine (hSe _ hP2).mono ?_; rintro e w3 ⟨rfl, hb3⟩))
      go_ret2
      exact ⟨rfl, hB2.trans (hb3.mono hB2.size)⟩
    · go_enter Tryz.func14, Tryz.ntmps14
      go_wp2_with (first | (go_at_call 12; refine hU.mono ?_; rintro e w1 ⟨rfl, rfl⟩) | (go_at_call 27; refine hF.mono ?_; rintro e w2 ⟨rfl, hb2⟩; have p2 := (hb2.block w.heap.size hlp).trans p0; have x0 := cellB p2 0 (.int .i64 3) rfl; have x1 := cellB p2 1 (.int .i64 g) rfl; have x2 := cellB p2 2 (.int .i64 n) rfl; have x3 := cellB p2 3 (.int .i64 v) rfl; have x4 := cellB p2 4 (.int .i64 m) rfl; have x5 := cellB p2 5 (.string (bs t)) rfl; have x6 := cellB p2 6 (.string (bs tg)) rfl; have hB2 := hb0.trans (hb2.mono hb0.size); have hP2 := (he.next hB2).env.p; clear p0 hlp p2 hb2) | (go_at_call 29; refine (hSe _ hP2).mono ?_; rintro e w3 ⟨rfl, hb3⟩))
      go_ret2
      exact ⟨rfl, hB2.trans (hb3.mono hB2.size)⟩
  by_cases h4 : k = 4
  case pos =>
    subst h4
    rw [show sdX 4 g v m t = textV g m t from rfl, show sdE 4 g v m t = textE g m t from rfl]
    obtain ⟨SX, hSX⟩ : ∃ X, textV g m t = X := ⟨_, rfl⟩
    obtain ⟨SE, hSE⟩ : ∃ E, textE g m t = E := ⟨_, rfl⟩
    rw [hSX, hSE] at hMa ⊢
    clear hSX hSE
    clear hOwn hOr hSe ht
    rcases htag with ht1 | ⟨ht1, ht2⟩
    · go_enter Tryz.func14, Tryz.ntmps14
      go_wp2_with (first | (go_at_call 12; refine hU.mono ?_; rintro e w1 ⟨rfl, rfl⟩) | (go_at_call 27; refine hF.mono ?_; rintro e w2 ⟨rfl, hb2⟩; have p2 := (hb2.block w.heap.size hlp).trans p0; have x0 := cellB p2 0 (.int .i64 4) rfl; have x1 := cellB p2 1 (.int .i64 g) rfl; have x2 := cellB p2 2 (.int .i64 n) rfl; have x3 := cellB p2 3 (.int .i64 v) rfl; have x4 := cellB p2 4 (.int .i64 m) rfl; have x5 := cellB p2 5 (.string (bs t)) rfl; have x6 := cellB p2 6 (.string (bs tg)) rfl; have hB2 := hb0.trans (hb2.mono hb0.size); have hP2 := (he.next hB2).env.p; clear p0 hlp p2 hb2) | (go_at_call 30; refine (hMa _ hP2).mono ?_; rintro e w3 ⟨rfl, hb3⟩))
      go_ret2
      exact ⟨rfl, hB2.trans (hb3.mono hB2.size)⟩
    · go_enter Tryz.func14, Tryz.ntmps14
      go_wp2_with (first | (go_at_call 12; refine hU.mono ?_; rintro e w1 ⟨rfl, rfl⟩) | (go_at_call 27; refine hF.mono ?_; rintro e w2 ⟨rfl, hb2⟩; have p2 := (hb2.block w.heap.size hlp).trans p0; have x0 := cellB p2 0 (.int .i64 4) rfl; have x1 := cellB p2 1 (.int .i64 g) rfl; have x2 := cellB p2 2 (.int .i64 n) rfl; have x3 := cellB p2 3 (.int .i64 v) rfl; have x4 := cellB p2 4 (.int .i64 m) rfl; have x5 := cellB p2 5 (.string (bs t)) rfl; have x6 := cellB p2 6 (.string (bs tg)) rfl; have hB2 := hb0.trans (hb2.mono hb0.size); have hP2 := (he.next hB2).env.p; clear p0 hlp p2 hb2) | (go_at_call 30; refine (hMa _ hP2).mono ?_; rintro e w3 ⟨rfl, hb3⟩))
      go_ret2
      exact ⟨rfl, hB2.trans (hb3.mono hB2.size)⟩
  by_cases h10 : k = 10
  case pos =>
    subst h10
    rw [show sdX 10 g v m t = t from rfl, show sdE 10 g v m t = 0 from rfl]
    clear h2 h3 h4
    clear hOwn hOr hSe hMa ht
    rcases htag with ht1 | ⟨ht1, ht2⟩
    · go_enter Tryz.func14, Tryz.ntmps14
      go_wp2_with (first | (go_at_call 12; refine hU.mono ?_; rintro e w1 ⟨rfl, rfl⟩) | (go_at_call 27; refine hF.mono ?_; rintro e w2 ⟨rfl, hb2⟩; have p2 := (hb2.block w.heap.size hlp).trans p0; have x0 := cellB p2 0 (.int .i64 10) rfl; have x1 := cellB p2 1 (.int .i64 g) rfl; have x2 := cellB p2 2 (.int .i64 n) rfl; have x3 := cellB p2 3 (.int .i64 v) rfl; have x4 := cellB p2 4 (.int .i64 m) rfl; have x5 := cellB p2 5 (.string (bs t)) rfl; have x6 := cellB p2 6 (.string (bs tg)) rfl; have hB2 := hb0.trans (hb2.mono hb0.size); have hP2 := (he.next hB2).env.p; clear p0 hlp p2 hb2))
      go_ret2
      exact ⟨rfl, hB2⟩
    · go_enter Tryz.func14, Tryz.ntmps14
      go_wp2_with (first | (go_at_call 12; refine hU.mono ?_; rintro e w1 ⟨rfl, rfl⟩) | (go_at_call 27; refine hF.mono ?_; rintro e w2 ⟨rfl, hb2⟩; have p2 := (hb2.block w.heap.size hlp).trans p0; have x0 := cellB p2 0 (.int .i64 10) rfl; have x1 := cellB p2 1 (.int .i64 g) rfl; have x2 := cellB p2 2 (.int .i64 n) rfl; have x3 := cellB p2 3 (.int .i64 v) rfl; have x4 := cellB p2 4 (.int .i64 m) rfl; have x5 := cellB p2 5 (.string (bs t)) rfl; have x6 := cellB p2 6 (.string (bs tg)) rfl; have hB2 := hb0.trans (hb2.mono hb0.size); have hP2 := (he.next hB2).env.p; clear p0 hlp p2 hb2))
      go_ret2
      exact ⟨rfl, hB2⟩
  by_cases h11 : k = 11
  case pos =>
    subst h11
    rw [show sdX 11 g v m t = t from rfl, show sdE 11 g v m t = 0 from rfl]
    clear h2 h3 h4 h10
    clear hOwn hOr hSe hMa ht
    rcases htag with ht1 | ⟨ht1, ht2⟩
    · go_enter Tryz.func14, Tryz.ntmps14
      go_wp2_with (first | (go_at_call 12; refine hU.mono ?_; rintro e w1 ⟨rfl, rfl⟩) | (go_at_call 27; refine hF.mono ?_; rintro e w2 ⟨rfl, hb2⟩; have p2 := (hb2.block w.heap.size hlp).trans p0; have x0 := cellB p2 0 (.int .i64 11) rfl; have x1 := cellB p2 1 (.int .i64 g) rfl; have x2 := cellB p2 2 (.int .i64 n) rfl; have x3 := cellB p2 3 (.int .i64 v) rfl; have x4 := cellB p2 4 (.int .i64 m) rfl; have x5 := cellB p2 5 (.string (bs t)) rfl; have x6 := cellB p2 6 (.string (bs tg)) rfl; have hB2 := hb0.trans (hb2.mono hb0.size); have hP2 := (he.next hB2).env.p; clear p0 hlp p2 hb2))
      go_ret2
      exact ⟨rfl, hB2⟩
    · go_enter Tryz.func14, Tryz.ntmps14
      go_wp2_with (first | (go_at_call 12; refine hU.mono ?_; rintro e w1 ⟨rfl, rfl⟩) | (go_at_call 27; refine hF.mono ?_; rintro e w2 ⟨rfl, hb2⟩; have p2 := (hb2.block w.heap.size hlp).trans p0; have x0 := cellB p2 0 (.int .i64 11) rfl; have x1 := cellB p2 1 (.int .i64 g) rfl; have x2 := cellB p2 2 (.int .i64 n) rfl; have x3 := cellB p2 3 (.int .i64 v) rfl; have x4 := cellB p2 4 (.int .i64 m) rfl; have x5 := cellB p2 5 (.string (bs t)) rfl; have x6 := cellB p2 6 (.string (bs tg)) rfl; have hB2 := hb0.trans (hb2.mono hb0.size); have hP2 := (he.next hB2).env.p; clear p0 hlp p2 hb2))
      go_ret2
      exact ⟨rfl, hB2⟩
  rw [show sdX k g v m t = ownT k g v m t by rw [sdX, if_neg h2, if_neg h3, if_neg h4, if_neg (by omega)], show sdE k g v m t = 0 by rw [sdE, if_neg h2, if_neg h3, if_neg h4]]
  have n2 : (k == 2) = false := by simpa using h2
  have n3 : (k == 3) = false := by simpa using h3
  have n4 : (k == 4) = false := by simpa using h4
  have n10 : (k == 10) = false := by simpa using h10
  have n11 : (k == 11) = false := by simpa using h11
  obtain ⟨OT, hOT⟩ : ∃ X, ownT k g v m t = X := ⟨_, rfl⟩
  rw [hOT] at hOwn ⊢
  clear hOT h2 h3 h4 h10 h11
  clear hOr hSe hMa ht
  rcases htag with ht1 | ⟨ht1, ht2⟩
  · go_enter Tryz.func14, Tryz.ntmps14
    go_wp2_with (first | (go_at_call 12; refine hU.mono ?_; rintro e w1 ⟨rfl, rfl⟩) | (go_at_call 27; refine hF.mono ?_; rintro e w2 ⟨rfl, hb2⟩; have p2 := (hb2.block w.heap.size hlp).trans p0; have x0 := cellB p2 0 (.int .i64 k) rfl; have x1 := cellB p2 1 (.int .i64 g) rfl; have x2 := cellB p2 2 (.int .i64 n) rfl; have x3 := cellB p2 3 (.int .i64 v) rfl; have x4 := cellB p2 4 (.int .i64 m) rfl; have x5 := cellB p2 5 (.string (bs t)) rfl; have x6 := cellB p2 6 (.string (bs tg)) rfl; have hB2 := hb0.trans (hb2.mono hb0.size); have hP2 := (he.next hB2).env.p; clear p0 hlp p2 hb2) | (go_at_call 31; refine (hOwn _ hP2).mono ?_; rintro e w3 ⟨rfl, hb3⟩))
    go_ret2
    exact ⟨rfl, hB2.trans (hb3.mono hB2.size)⟩
  · go_enter Tryz.func14, Tryz.ntmps14
    go_wp2_with (first | (go_at_call 12; refine hU.mono ?_; rintro e w1 ⟨rfl, rfl⟩) | (go_at_call 27; refine hF.mono ?_; rintro e w2 ⟨rfl, hb2⟩; have p2 := (hb2.block w.heap.size hlp).trans p0; have x0 := cellB p2 0 (.int .i64 k) rfl; have x1 := cellB p2 1 (.int .i64 g) rfl; have x2 := cellB p2 2 (.int .i64 n) rfl; have x3 := cellB p2 3 (.int .i64 v) rfl; have x4 := cellB p2 4 (.int .i64 m) rfl; have x5 := cellB p2 5 (.string (bs t)) rfl; have x6 := cellB p2 6 (.string (bs tg)) rfl; have hB2 := hb0.trans (hb2.mono hb0.size); have hP2 := (he.next hB2).env.p; clear p0 hlp p2 hb2) | (go_at_call 31; refine (hOwn _ hP2).mono ?_; rintro e w3 ⟨rfl, hb3⟩))
    go_ret2
    exact ⟨rfl, hB2.trans (hb3.mono hB2.size)⟩
end Go.Proofs.YtmkjcfakopbdhaaGreatDoor
