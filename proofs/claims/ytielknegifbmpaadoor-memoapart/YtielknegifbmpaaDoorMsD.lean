/- What a memo's tag is of: the program's Said, walked. -/
import Derived.Test.YtielknegifbmpaaDoorMsC
namespace Go.Proofs.YtielknegifbmpaaDoor
open Go.RowKit
attribute [local go_sem ↓] Go.wp_at_zero Go.wp_at_succ

structure SaidOk (k g v m : Int) (t X : List UInt8) : Prop where
  v0 : 0 ≤ v
  v1 : v ≤ 1099511627776
  m0 : 0 ≤ m
  m1 : m ≤ 1099511627776
  tl : t.length ≤ 524288
  g0 : -1 ≤ g
  g1 : g ≤ 4
  is : (k = 2 ∧ X = saidT orderW g v m t) ∨ (k = 3 ∧ X = saidT settleW g v m t) ∨ (k = 4 ∧ v = 0 ∧ X = markT g m t) ∨ ((k = 5 ∨ k = 8 ∨ k = 9) ∧ X = ownT k g v m t)
def SaidP (k g v m : Int) (t : List UInt8) (e : Ending) : Prop := ∃ X E, e = .returned (.tuple #[.string (bs X), .int .i64 E]) ∧ (E = 0 → k ≤ 9 → SaidOk k g v m t X)

theorem said_said {W g v m t} (h : saidE W g v m t = 0) : saidV W g v m t = saidT W g v m t := if_pos h
theorem mark_said {g m t} (h : textE g m t = 0) : textV g m t = markT g m t := if_pos h

set_option maxRecDepth 20000 in
set_option maxHeartbeats 4000000 in
theorem Said_any (k g n v m : Int) (t tg : List UInt8) (w : World) (ht : t.length ≤ 20000) (he : EnvM w) :
    Calls Tryd.prog 11 #[.agg #[.int .i64 k, .int .i64 g, .int .i64 n, .int .i64 v, .int .i64 m, .string (bs t), .string (bs tg)]] w fun e W' => SaidP k g v m t e ∧ Below w.heap.size w W' := by
  have hb0 : Below w.heap.size w (w.alloc (.cells #[.int .i64 k, .int .i64 g, .int .i64 n, .int .i64 v, .int .i64 m, .string (bs t), .string (bs tg)] 25)) := (Below.refl _ w).alloc (Nat.le_refl _) _
  have p0 : (w.alloc (.cells #[.int .i64 k, .int .i64 g, .int .i64 n, .int .i64 v, .int .i64 m, .string (bs t), .string (bs tg)] 25)).heap[w.heap.size]? = some (.cells #[.int .i64 k, .int .i64 g, .int .i64 n, .int .i64 v, .int .i64 m, .string (bs t), .string (bs tg)] 25) := heap_alloc_new _ _
  have hlp : w.heap.size < (w.alloc (.cells #[.int .i64 k, .int .i64 g, .int .i64 n, .int .i64 v, .int .i64 m, .string (bs t), .string (bs tg)] 25)).heap.size := by simp
  have hU := isUntagged_any k _ (he.next hb0)
  have hF := fault_any k g n v m t tg _ (he.next hb0)
  cases hu : utB k
  case true =>
    rw [hu] at hU
    clear hF p0 hlp
    go_enter Tryd.func11, Tryd.ntmps11
    go_wp2_with (first | (go_at_call 26; refine hU.mono ?_; rintro e w1 ⟨rfl, rfl⟩))
    go_ret2
    exact ⟨⟨[], 6, rfl, fun h => by cases h⟩, hb0⟩
  rw [hu] at hU
  by_cases hf : fE k g n v m t.length = 0
  case neg =>
    obtain ⟨F, hF2⟩ : ∃ F, fE k g n v m t.length = F := ⟨_, rfl⟩
    rw [hF2] at hF hf
    have hq : (F != 0) = true := by simpa using hf
    have HF : Hid (F ≠ 0) := hf
    clear hf hF2 p0 hlp
    go_enter Tryd.func11, Tryd.ntmps11
    go_wp2_with (first | (go_at_call 26; refine hU.mono ?_; rintro e w1 ⟨rfl, rfl⟩) | (go_at_call 27; refine hF.mono ?_; rintro e w2 ⟨rfl, hb2⟩))
    go_ret2
    exact ⟨⟨[], F, rfl, fun h => absurd h HF.out⟩, hb0.trans (hb2.mono hb0.size)⟩
  obtain ⟨hk, hp, hgk, hok⟩ := fE_ok hf
  have hkn := kinds k.toNat (by have := hk.1; have := hk.2; omega)
  have hv0 : 0 ≤ v := by have := hok.1; omega
  have hv1 : v ≤ 1099511627776 := by have := hok.2.1; omega
  have hm0 : 0 ≤ m := by have := hok.2.2.1; omega
  have hm1 : m ≤ 1099511627776 := by have := hok.2.2.2.1; omega
  have HO : Hid (∀ X, ((k = 2 ∧ X = saidT orderW g v m t) ∨ (k = 3 ∧ X = saidT settleW g v m t) ∨ (k = 4 ∧ v = 0 ∧ X = markT g m t) ∨ ((k = 5 ∨ k = 8 ∨ k = 9) ∧ X = ownT k g v m t)) → SaidOk k g v m t X) := fun X h => ⟨hv0, hv1, hm0, hm1, by omega, hp.1, hp.2.1, h⟩
  have HKn : Hid (isK k ∧ tgK k.toNat ≠ 0) := by
    refine ⟨hk, fun c => ?_⟩
    rw [utB, decide_eq_true hk, c] at hu
    cases hu
  have HV4 : Hid (k = 4 → v = 0) := fun h => by subst h; have h1 := hok.1; have h2 := hok.2.1; exact Int.le_antisymm h2 h1
  rw [hf] at hF
  have hlen : (bs tg).size = tg.length := bs_size tg
  have hOwn := fun W (h : EnvP W) => own_any k g n v m t tg W h hk hp hv0 hv1 hm0 hm1 (by omega)
  have hOr := fun W (h : EnvP W) => Order_any g v m t W ht h
  have hSe := fun W (h : EnvP W) => Settle_any g v m t W ht h
  have hMa := fun W (h : EnvP W) => Text_any g m t W (by omega) h
  clear hu hf hk hp hgk hok hkn hv0 hv1 hm0 hm1
  by_cases hbad : tg ≠ [] ∧ tg.length ≠ 16
  · have ht1 : (bs tg).toList.isEmpty = false := by rw [bs_toListC]; simpa using hbad.1
    have ht2 : (((bs tg).size : Int) != 16) = true := by rw [hlen]; have := hbad.2; simp; omega
    clear hbad hlen hOwn hOr hSe hMa HO HKn HV4
    go_enter Tryd.func11, Tryd.ntmps11
    go_wp2_with (first | (go_at_call 26; refine hU.mono ?_; rintro e w1 ⟨rfl, rfl⟩) | (go_at_call 27; refine hF.mono ?_; rintro e w2 ⟨rfl, hb2⟩; have p2 := (hb2.block w.heap.size hlp).trans p0; have x0 := cellB p2 0 (.int .i64 k) rfl; have x6 := cellB p2 6 (.string (bs tg)) rfl; clear p0 hlp p2))
    go_ret2
    exact ⟨⟨[], 4, rfl, fun h => by cases h⟩, hb0.trans (hb2.mono hb0.size)⟩
  have htag : (bs tg).toList.isEmpty = true ∨ ((bs tg).toList.isEmpty = false ∧ (((bs tg).size : Int) != 16) = false) := by
    by_cases h0 : tg = []
    · exact .inl (by rw [bs_toListC, h0]; rfl)
    · have h16 : tg.length = 16 := Classical.byContradiction fun c => hbad ⟨h0, c⟩
      exact .inr ⟨by rw [bs_toListC]; simpa using h0, by rw [hlen, h16]; rfl⟩
  clear hbad hlen
  by_cases h2 : k = 2
  case pos =>
    subst h2
    have HZ : Hid (saidE orderW g v m t = 0 → SaidOk 2 g v m t (saidV orderW g v m t)) := fun hz => HO.out _ (.inl ⟨rfl, by rw [said_said hz]⟩)
    obtain ⟨SX, hSX⟩ : ∃ X, saidV orderW g v m t = X := ⟨_, rfl⟩
    obtain ⟨SE, hSE⟩ : ∃ E, saidE orderW g v m t = E := ⟨_, rfl⟩
    rw [hSX, hSE] at hOr HZ
    clear hSX hSE HO
    clear hOwn hSe hMa HKn HV4 ht
    rcases htag with ht1 | ⟨ht1, ht2⟩
    · go_enter Tryd.func11, Tryd.ntmps11
      go_wp2_with (first | (go_at_call 26; refine hU.mono ?_; rintro e w1 ⟨rfl, rfl⟩) | (go_at_call 27; refine hF.mono ?_; rintro e w2 ⟨rfl, hb2⟩; have p2 := (hb2.block w.heap.size hlp).trans p0; have x0 := cellB p2 0 (.int .i64 2) rfl; have x1 := cellB p2 1 (.int .i64 g) rfl; have x2 := cellB p2 2 (.int .i64 n) rfl; have x3 := cellB p2 3 (.int .i64 v) rfl; have x4 := cellB p2 4 (.int .i64 m) rfl; have x5 := cellB p2 5 (.string (bs t)) rfl; have x6 := cellB p2 6 (.string (bs tg)) rfl; have hB2 := hb0.trans (hb2.mono hb0.size); have hP2 := (he.next hB2).env.p; clear p0 hlp p2 hb2) | (go_at_call 28; refine (hOr _ hP2).mono ?_; rintro e w3 ⟨rfl, hb3⟩))
      go_ret2
      exact ⟨⟨SX, SE, rfl, fun h _ => HZ.out h⟩, hB2.trans (hb3.mono hB2.size)⟩
    · go_enter Tryd.func11, Tryd.ntmps11
      go_wp2_with (first | (go_at_call 26; refine hU.mono ?_; rintro e w1 ⟨rfl, rfl⟩) | (go_at_call 27; refine hF.mono ?_; rintro e w2 ⟨rfl, hb2⟩; have p2 := (hb2.block w.heap.size hlp).trans p0; have x0 := cellB p2 0 (.int .i64 2) rfl; have x1 := cellB p2 1 (.int .i64 g) rfl; have x2 := cellB p2 2 (.int .i64 n) rfl; have x3 := cellB p2 3 (.int .i64 v) rfl; have x4 := cellB p2 4 (.int .i64 m) rfl; have x5 := cellB p2 5 (.string (bs t)) rfl; have x6 := cellB p2 6 (.string (bs tg)) rfl; have hB2 := hb0.trans (hb2.mono hb0.size); have hP2 := (he.next hB2).env.p; clear p0 hlp p2 hb2) | (go_at_call 28; refine (hOr _ hP2).mono ?_; rintro e w3 ⟨rfl, hb3⟩))
      go_ret2
      exact ⟨⟨SX, SE, rfl, fun h _ => HZ.out h⟩, hB2.trans (hb3.mono hB2.size)⟩
  by_cases h3 : k = 3
  case pos =>
    subst h3
    have HZ : Hid (saidE settleW g v m t = 0 → SaidOk 3 g v m t (saidV settleW g v m t)) := fun hz => HO.out _ (.inr (.inl ⟨rfl, by rw [said_said hz]⟩))
    obtain ⟨SX, hSX⟩ : ∃ X, saidV settleW g v m t = X := ⟨_, rfl⟩
    obtain ⟨SE, hSE⟩ : ∃ E, saidE settleW g v m t = E := ⟨_, rfl⟩
    rw [hSX, hSE] at hSe HZ
    clear hSX hSE HO
    clear hOwn hOr hMa HKn HV4 ht
    rcases htag with ht1 | ⟨ht1, ht2⟩
    · go_enter Tryd.func11, Tryd.ntmps11
      go_wp2_with (first | (go_at_call 26; refine hU.mono ?_; rintro e w1 ⟨rfl, rfl⟩) | (go_at_call 27; refine hF.mono ?_; rintro e w2 ⟨rfl, hb2⟩; have p2 := (hb2.block w.heap.size hlp).trans p0; have x0 := cellB p2 0 (.int .i64 3) rfl; have x1 := cellB p2 1 (.int .i64 g) rfl; have x2 := cellB p2 2 (.int .i64 n) rfl; have x3 := cellB p2 3 (.int .i64 v) rfl; have x4 := cellB p2 4 (.int .i64 m) rfl; have x5 := cellB p2 5 (.string (bs t)) rfl; have x6 := cellB p2 6 (.string (bs tg)) rfl; have hB2 := hb0.trans (hb2.mono hb0.size); have hP2 := (he.next hB2).env.p; clear p0 hlp p2 hb2) | (go_at_call 29; refine (hSe _ hP2).mono ?_; rintro e w3 ⟨rfl, hb3⟩))
      go_ret2
      exact ⟨⟨SX, SE, rfl, fun h _ => HZ.out h⟩, hB2.trans (hb3.mono hB2.size)⟩
    · go_enter Tryd.func11, Tryd.ntmps11
      go_wp2_with (first | (go_at_call 26; refine hU.mono ?_; rintro e w1 ⟨rfl, rfl⟩) | (go_at_call 27; refine hF.mono ?_; rintro e w2 ⟨rfl, hb2⟩; have p2 := (hb2.block w.heap.size hlp).trans p0; have x0 := cellB p2 0 (.int .i64 3) rfl; have x1 := cellB p2 1 (.int .i64 g) rfl; have x2 := cellB p2 2 (.int .i64 n) rfl; have x3 := cellB p2 3 (.int .i64 v) rfl; have x4 := cellB p2 4 (.int .i64 m) rfl; have x5 := cellB p2 5 (.string (bs t)) rfl; have x6 := cellB p2 6 (.string (bs tg)) rfl; have hB2 := hb0.trans (hb2.mono hb0.size); have hP2 := (he.next hB2).env.p; clear p0 hlp p2 hb2) | (go_at_call 29; refine (hSe _ hP2).mono ?_; rintro e w3 ⟨rfl, hb3⟩))
      go_ret2
      exact ⟨⟨SX, SE, rfl, fun h _ => HZ.out h⟩, hB2.trans (hb3.mono hB2.size)⟩
  by_cases h4 : k = 4
  case pos =>
    subst h4
    have HZ : Hid (textE g m t = 0 → SaidOk 4 g v m t (textV g m t)) := fun hz => HO.out _ (.inr (.inr (.inl ⟨rfl, HV4.out rfl, by rw [mark_said hz]⟩)))
    obtain ⟨SX, hSX⟩ : ∃ X, textV g m t = X := ⟨_, rfl⟩
    obtain ⟨SE, hSE⟩ : ∃ E, textE g m t = E := ⟨_, rfl⟩
    rw [hSX, hSE] at hMa HZ
    clear hSX hSE HO
    clear hOwn hOr hSe HKn HV4 ht
    rcases htag with ht1 | ⟨ht1, ht2⟩
    · go_enter Tryd.func11, Tryd.ntmps11
      go_wp2_with (first | (go_at_call 26; refine hU.mono ?_; rintro e w1 ⟨rfl, rfl⟩) | (go_at_call 27; refine hF.mono ?_; rintro e w2 ⟨rfl, hb2⟩; have p2 := (hb2.block w.heap.size hlp).trans p0; have x0 := cellB p2 0 (.int .i64 4) rfl; have x1 := cellB p2 1 (.int .i64 g) rfl; have x2 := cellB p2 2 (.int .i64 n) rfl; have x3 := cellB p2 3 (.int .i64 v) rfl; have x4 := cellB p2 4 (.int .i64 m) rfl; have x5 := cellB p2 5 (.string (bs t)) rfl; have x6 := cellB p2 6 (.string (bs tg)) rfl; have hB2 := hb0.trans (hb2.mono hb0.size); have hP2 := (he.next hB2).env.p; clear p0 hlp p2 hb2) | (go_at_call 30; refine (hMa _ hP2).mono ?_; rintro e w3 ⟨rfl, hb3⟩))
      go_ret2
      exact ⟨⟨SX, SE, rfl, fun h _ => HZ.out h⟩, hB2.trans (hb3.mono hB2.size)⟩
    · go_enter Tryd.func11, Tryd.ntmps11
      go_wp2_with (first | (go_at_call 26; refine hU.mono ?_; rintro e w1 ⟨rfl, rfl⟩) | (go_at_call 27; refine hF.mono ?_; rintro e w2 ⟨rfl, hb2⟩; have p2 := (hb2.block w.heap.size hlp).trans p0; have x0 := cellB p2 0 (.int .i64 4) rfl; have x1 := cellB p2 1 (.int .i64 g) rfl; have x2 := cellB p2 2 (.int .i64 n) rfl; have x3 := cellB p2 3 (.int .i64 v) rfl; have x4 := cellB p2 4 (.int .i64 m) rfl; have x5 := cellB p2 5 (.string (bs t)) rfl; have x6 := cellB p2 6 (.string (bs tg)) rfl; have hB2 := hb0.trans (hb2.mono hb0.size); have hP2 := (he.next hB2).env.p; clear p0 hlp p2 hb2) | (go_at_call 30; refine (hMa _ hP2).mono ?_; rintro e w3 ⟨rfl, hb3⟩))
      go_ret2
      exact ⟨⟨SX, SE, rfl, fun h _ => HZ.out h⟩, hB2.trans (hb3.mono hB2.size)⟩
  by_cases h10 : k = 10
  case pos =>
    subst h10
    clear HO h2 h3 h4
    clear hOwn hOr hSe hMa HKn HV4 ht
    rcases htag with ht1 | ⟨ht1, ht2⟩
    · go_enter Tryd.func11, Tryd.ntmps11
      go_wp2_with (first | (go_at_call 26; refine hU.mono ?_; rintro e w1 ⟨rfl, rfl⟩) | (go_at_call 27; refine hF.mono ?_; rintro e w2 ⟨rfl, hb2⟩; have p2 := (hb2.block w.heap.size hlp).trans p0; have x0 := cellB p2 0 (.int .i64 10) rfl; have x1 := cellB p2 1 (.int .i64 g) rfl; have x2 := cellB p2 2 (.int .i64 n) rfl; have x3 := cellB p2 3 (.int .i64 v) rfl; have x4 := cellB p2 4 (.int .i64 m) rfl; have x5 := cellB p2 5 (.string (bs t)) rfl; have x6 := cellB p2 6 (.string (bs tg)) rfl; have hB2 := hb0.trans (hb2.mono hb0.size); have hP2 := (he.next hB2).env.p; clear p0 hlp p2 hb2))
      go_ret2
      exact ⟨⟨t, 0, rfl, fun _ h => by omega⟩, hB2⟩
    · go_enter Tryd.func11, Tryd.ntmps11
      go_wp2_with (first | (go_at_call 26; refine hU.mono ?_; rintro e w1 ⟨rfl, rfl⟩) | (go_at_call 27; refine hF.mono ?_; rintro e w2 ⟨rfl, hb2⟩; have p2 := (hb2.block w.heap.size hlp).trans p0; have x0 := cellB p2 0 (.int .i64 10) rfl; have x1 := cellB p2 1 (.int .i64 g) rfl; have x2 := cellB p2 2 (.int .i64 n) rfl; have x3 := cellB p2 3 (.int .i64 v) rfl; have x4 := cellB p2 4 (.int .i64 m) rfl; have x5 := cellB p2 5 (.string (bs t)) rfl; have x6 := cellB p2 6 (.string (bs tg)) rfl; have hB2 := hb0.trans (hb2.mono hb0.size); have hP2 := (he.next hB2).env.p; clear p0 hlp p2 hb2))
      go_ret2
      exact ⟨⟨t, 0, rfl, fun _ h => by omega⟩, hB2⟩
  by_cases h11 : k = 11
  case pos =>
    subst h11
    clear HO h2 h3 h4 h10
    clear hOwn hOr hSe hMa HKn HV4 ht
    rcases htag with ht1 | ⟨ht1, ht2⟩
    · go_enter Tryd.func11, Tryd.ntmps11
      go_wp2_with (first | (go_at_call 26; refine hU.mono ?_; rintro e w1 ⟨rfl, rfl⟩) | (go_at_call 27; refine hF.mono ?_; rintro e w2 ⟨rfl, hb2⟩; have p2 := (hb2.block w.heap.size hlp).trans p0; have x0 := cellB p2 0 (.int .i64 11) rfl; have x1 := cellB p2 1 (.int .i64 g) rfl; have x2 := cellB p2 2 (.int .i64 n) rfl; have x3 := cellB p2 3 (.int .i64 v) rfl; have x4 := cellB p2 4 (.int .i64 m) rfl; have x5 := cellB p2 5 (.string (bs t)) rfl; have x6 := cellB p2 6 (.string (bs tg)) rfl; have hB2 := hb0.trans (hb2.mono hb0.size); have hP2 := (he.next hB2).env.p; clear p0 hlp p2 hb2))
      go_ret2
      exact ⟨⟨t, 0, rfl, fun _ h => by omega⟩, hB2⟩
    · go_enter Tryd.func11, Tryd.ntmps11
      go_wp2_with (first | (go_at_call 26; refine hU.mono ?_; rintro e w1 ⟨rfl, rfl⟩) | (go_at_call 27; refine hF.mono ?_; rintro e w2 ⟨rfl, hb2⟩; have p2 := (hb2.block w.heap.size hlp).trans p0; have x0 := cellB p2 0 (.int .i64 11) rfl; have x1 := cellB p2 1 (.int .i64 g) rfl; have x2 := cellB p2 2 (.int .i64 n) rfl; have x3 := cellB p2 3 (.int .i64 v) rfl; have x4 := cellB p2 4 (.int .i64 m) rfl; have x5 := cellB p2 5 (.string (bs t)) rfl; have x6 := cellB p2 6 (.string (bs tg)) rfl; have hB2 := hb0.trans (hb2.mono hb0.size); have hP2 := (he.next hB2).env.p; clear p0 hlp p2 hb2))
      go_ret2
      exact ⟨⟨t, 0, rfl, fun _ h => by omega⟩, hB2⟩
  have HZ : Hid (k ≤ 9 → SaidOk k g v m t (ownT k g v m t)) := fun h9 => HO.out _ (.inr (.inr (.inr ⟨by
    obtain ⟨⟨a1, a2⟩, a3⟩ := HKn.out
    have : k = 1 ∨ k = 5 ∨ k = 6 ∨ k = 7 ∨ k = 8 ∨ k = 9 := by omega
    rcases this with rfl | rfl | rfl | rfl | rfl | rfl
    · exact absurd rfl a3
    · exact .inl rfl
    · exact absurd rfl a3
    · exact absurd rfl a3
    · exact .inr (.inl rfl)
    · exact .inr (.inr rfl), rfl⟩)))
  have n2 : (k == 2) = false := by simpa using h2
  have n3 : (k == 3) = false := by simpa using h3
  have n4 : (k == 4) = false := by simpa using h4
  have n10 : (k == 10) = false := by simpa using h10
  have n11 : (k == 11) = false := by simpa using h11
  obtain ⟨OT, hOT⟩ : ∃ X, ownT k g v m t = X := ⟨_, rfl⟩
  rw [hOT] at hOwn HZ
  clear hOT HO h2 h3 h4 h10 h11
  clear hOr hSe hMa HKn HV4 ht
  rcases htag with ht1 | ⟨ht1, ht2⟩
  · go_enter Tryd.func11, Tryd.ntmps11
    go_wp2_with (first | (go_at_call 26; refine hU.mono ?_; rintro e w1 ⟨rfl, rfl⟩) | (go_at_call 27; refine hF.mono ?_; rintro e w2 ⟨rfl, hb2⟩; have p2 := (hb2.block w.heap.size hlp).trans p0; have x0 := cellB p2 0 (.int .i64 k) rfl; have x1 := cellB p2 1 (.int .i64 g) rfl; have x2 := cellB p2 2 (.int .i64 n) rfl; have x3 := cellB p2 3 (.int .i64 v) rfl; have x4 := cellB p2 4 (.int .i64 m) rfl; have x5 := cellB p2 5 (.string (bs t)) rfl; have x6 := cellB p2 6 (.string (bs tg)) rfl; have hB2 := hb0.trans (hb2.mono hb0.size); have hP2 := (he.next hB2).env.p; clear p0 hlp p2 hb2) | (go_at_call 31; refine (hOwn _ hP2).mono ?_; rintro e w3 ⟨rfl, hb3⟩))
    go_ret2
    exact ⟨⟨OT, 0, rfl, fun _ h => HZ.out h⟩, hB2.trans (hb3.mono hB2.size)⟩
  · go_enter Tryd.func11, Tryd.ntmps11
    go_wp2_with (first | (go_at_call 26; refine hU.mono ?_; rintro e w1 ⟨rfl, rfl⟩) | (go_at_call 27; refine hF.mono ?_; rintro e w2 ⟨rfl, hb2⟩; have p2 := (hb2.block w.heap.size hlp).trans p0; have x0 := cellB p2 0 (.int .i64 k) rfl; have x1 := cellB p2 1 (.int .i64 g) rfl; have x2 := cellB p2 2 (.int .i64 n) rfl; have x3 := cellB p2 3 (.int .i64 v) rfl; have x4 := cellB p2 4 (.int .i64 m) rfl; have x5 := cellB p2 5 (.string (bs t)) rfl; have x6 := cellB p2 6 (.string (bs tg)) rfl; have hB2 := hb0.trans (hb2.mono hb0.size); have hP2 := (he.next hB2).env.p; clear p0 hlp p2 hb2) | (go_at_call 31; refine (hOwn _ hP2).mono ?_; rintro e w3 ⟨rfl, hb3⟩))
    go_ret2
    exact ⟨⟨OT, 0, rfl, fun _ h => HZ.out h⟩, hB2.trans (hb3.mono hB2.size)⟩
end Go.Proofs.YtielknegifbmpaaDoor
