/- The law MemoHolds, walked. -/
import Derived.Test.YtmkjcfakopbdhaaGreatDoorMhG
import Derived.Test.YtmkjcfakopbdhaaGreatDoorMhW
import Derived.Test.YtmkjcfakopbdhaaGreatDoorMeH
namespace Go.Proofs.YtmkjcfakopbdhaaGreatDoor
open Go.RowKit
attribute [local go_sem ↓] Go.wp_at_zero Go.wp_at_succ

def sW : List UInt8 := [115]
/-- What is signed is right. -/
theorem signed_ok {s : List UInt8} {k g n v m : Int} {t tg : List UInt8} (h : sgE k g n v m t tg = 0) : cE k g n v m t.length (sgT s k g n v m t tg).length = 0 ∧ vfE s k g n v m t (sgT s k g n v m t tg) = 0 := by
  unfold sgE at h
  cases hu : utB k
  case true =>
    rw [if_pos hu] at h
    rw [sgT, if_pos hu]
    exact ⟨h, by rw [vfE, if_pos h, if_pos hu]⟩
  rw [if_neg (by rw [hu]; decide)] at h
  have hf : fE k g n v m t.length = 0 := by
    by_cases hf : fE k g n v m t.length = 0
    · exact hf
    · rw [saE, if_neg (by rw [hu]; decide), if_neg hf] at h; exact h
  have hb : ¬ (tg ≠ [] ∧ tg.length ≠ 16) := fun hb => by
    rw [saE, if_neg (by rw [hu]; decide), if_pos hf, if_pos hb] at h; cases h
  obtain ⟨hk, hp, -, -⟩ := fE_ok hf
  have hte : tagErr (some s) g n = 0 := by simp [tagErr, hp]
  obtain ⟨e1, e2⟩ := sa_of hu hf hb
  rw [e2] at h
  have hkn := (kinds k.toNat (by have := hk.1; have := hk.2; omega)).2.2.2.2.2.2.2.2
  have h16 : tgK k.toNat = 16 := by
    rcases hkn with h' | h'
    · rw [ut_iff hk, h'] at hu; cases hu
    · exact h'
  have hT : sgT s k g n v m t tg = sigV (some s) g n (sdX k g v m t) := by rw [sgT, if_neg (by rw [hu]; decide), e1]
  have hl : (sigV (some s) g n (sdX k g v m t)).length = 16 := by rw [sigV, if_pos hte]; exact tagS_len _ _ _ _
  rw [hT]
  have hb2 : ¬ (sigV (some s) g n (sdX k g v m t) ≠ [] ∧ (sigV (some s) g n (sdX k g v m t)).length ≠ 16) := fun c => c.2 hl
  obtain ⟨e3, e4⟩ := sa_of (tg := sigV (some s) g n (sdX k g v m t)) hu hf hb2
  have hc : cE k g n v m t.length (sigV (some s) g n (sdX k g v m t)).length = 0 := by rw [cE, if_pos hf, if_pos (by rw [hl, h16]; rfl)]
  refine ⟨hc, ?_⟩
  rw [vfE, if_pos hc, if_neg (by rw [hu]; decide), e4, if_pos h, e3, checkE, if_neg (by rw [hte]; decide), if_pos rfl]

set_option maxRecDepth 20000 in
set_option maxHeartbeats 1500000 in
theorem holds_any (k g n v m : Int) (t tg : List UInt8) (g2 n2 : Int) (w : World) (he : EnvH w) :
    Calls Tryz.prog 3 #[.agg #[.int .i64 k, .int .i64 g, .int .i64 n, .int .i64 v, .int .i64 m, .string (bs t), .string (bs tg)], .agg #[.int .i64 g2, .int .i64 n2]] w fun e W' => e = .returned (.bool true) ∧ Below w.heap.size w W' := by
  have hb1 : Below w.heap.size w ((w.alloc (.cells #[.int .i64 k, .int .i64 g, .int .i64 n, .int .i64 v, .int .i64 m, .string (bs t), .string (bs tg)] 25)).alloc (.cells #[.int .i64 g2, .int .i64 n2] 23)) := ((Below.refl _ w).alloc (Nat.le_refl _) _).alloc (by simp) _
  have hbb : Below (w.heap.size + 1) (w.alloc (.cells #[.int .i64 k, .int .i64 g, .int .i64 n, .int .i64 v, .int .i64 m, .string (bs t), .string (bs tg)] 25)) ((w.alloc (.cells #[.int .i64 k, .int .i64 g, .int .i64 n, .int .i64 v, .int .i64 m, .string (bs t), .string (bs tg)] 25)).alloc (.cells #[.int .i64 g2, .int .i64 n2] 23)) := (Below.refl _ _).alloc (by simp) _
  have p0 : ((w.alloc (.cells #[.int .i64 k, .int .i64 g, .int .i64 n, .int .i64 v, .int .i64 m, .string (bs t), .string (bs tg)] 25)).alloc (.cells #[.int .i64 g2, .int .i64 n2] 23)).heap[w.heap.size]? = some (.cells #[.int .i64 k, .int .i64 g, .int .i64 n, .int .i64 v, .int .i64 m, .string (bs t), .string (bs tg)] 25) := (hbb.block w.heap.size (by simp)).trans (heap_alloc_new _ _)
  have q0 : ((w.alloc (.cells #[.int .i64 k, .int .i64 g, .int .i64 n, .int .i64 v, .int .i64 m, .string (bs t), .string (bs tg)] 25)).alloc (.cells #[.int .i64 g2, .int .i64 n2] 23)).heap[w.heap.size + 1]? = some (.cells #[.int .i64 g2, .int .i64 n2] 23) := by
    have := heap_alloc_new (w.alloc (.cells #[.int .i64 k, .int .i64 g, .int .i64 n, .int .i64 v, .int .i64 m, .string (bs t), .string (bs tg)] 25)) (.cells #[.int .i64 g2, .int .i64 n2] 23)
    simpa using this
  have hOne : ∀ W, Below w.heap.size w W → Calls Tryz.prog 4 #[] W fun e W' => e = .returned (.bool true) ∧ Below W.heap.size W W' := fun W hW => wants_any W (he.next hW).m
  obtain ⟨S, hS⟩ : ∃ S, sW = S := ⟨_, rfl⟩
  have hlit : Value.string { data := #[115] } = .string (bs S) := by rw [← hS]; rfl
  have hS32 : S.length ≤ 32 := by rw [← hS]; decide
  clear hS
  have hl1 : (bs t).size = t.length := bs_size t
  by_cases hlen : 40000 < t.length
  · have d1 : decide ((40000 : Int) < ((bs t).size : Int)) = true := by rw [hl1]; exact decide_eq_true (by omega)
    have hLast := hOne _ hb1
    clear hlen hl1 hbb p0 q0 hOne hlit hS32
    go_enter Tryz.func3, Tryz.ntmps3
    go_wp2_with (first | (go_at_call 4; refine hLast.mono ?_; rintro e w9 ⟨rfl, hb9⟩))
    go_ret
    exact ⟨rfl, hb1.trans (hb9.mono hb1.size)⟩
  have d1 : decide ((40000 : Int) < ((bs t).size : Int)) = false := by rw [hl1]; exact decide_eq_false (by omega)
  have ht : t.length ≤ 40000 := by omega
  have hNew := New_ok S ((w.alloc (.cells #[.int .i64 k, .int .i64 g, .int .i64 n, .int .i64 v, .int .i64 m, .string (bs t), .string (bs tg)] 25)).alloc (.cells #[.int .i64 g2, .int .i64 n2] 23)) hS32
  have hbN : Below ((w.alloc (.cells #[.int .i64 k, .int .i64 g, .int .i64 n, .int .i64 v, .int .i64 m, .string (bs t), .string (bs tg)] 25)).alloc (.cells #[.int .i64 g2, .int .i64 n2] 23)).heap.size ((w.alloc (.cells #[.int .i64 k, .int .i64 g, .int .i64 n, .int .i64 v, .int .i64 m, .string (bs t), .string (bs tg)] 25)).alloc (.cells #[.int .i64 g2, .int .i64 n2] 23)) (((w.alloc (.cells #[.int .i64 k, .int .i64 g, .int .i64 n, .int .i64 v, .int .i64 m, .string (bs t), .string (bs tg)] 25)).alloc (.cells #[.int .i64 g2, .int .i64 n2] 23)).alloc (.cells #[.string (bs S)] 42)) := (Below.refl _ _).alloc (Nat.le_refl _) _
  have hRc : RingAt (((w.alloc (.cells #[.int .i64 k, .int .i64 g, .int .i64 n, .int .i64 v, .int .i64 m, .string (bs t), .string (bs tg)] 25)).alloc (.cells #[.int .i64 g2, .int .i64 n2] 23)).alloc (.cells #[.string (bs S)] 42)) (some ⟨((w.alloc (.cells #[.int .i64 k, .int .i64 g, .int .i64 n, .int .i64 v, .int .i64 m, .string (bs t), .string (bs tg)] 25)).alloc (.cells #[.int .i64 g2, .int .i64 n2] 23)).heap.size, 0, none⟩) (some S) := .inr ⟨_, S, rfl, rfl, hS32, cellB (heap_alloc_new _ _) 0 _ rfl⟩
  have HB1 : Hid (Below w.heap.size w (((w.alloc (.cells #[.int .i64 k, .int .i64 g, .int .i64 n, .int .i64 v, .int .i64 m, .string (bs t), .string (bs tg)] 25)).alloc (.cells #[.int .i64 g2, .int .i64 n2] 23)).alloc (.cells #[.string (bs S)] 42))) := hb1.trans (hbN.mono hb1.size)
  have p1 := (hbN.block _ (Array.getElem?_eq_some_iff.1 p0).1).trans p0
  have q1 := (hbN.block _ (Array.getElem?_eq_some_iff.1 q0).1).trans q0
  have hE1 := he.next HB1.out
  have a4 := cellB p0 5 (.string (bs t)) rfl
  clear hbN hbb hb1 hlen hl1
  obtain ⟨W1, hW1⟩ : ∃ W, ((w.alloc (.cells #[.int .i64 k, .int .i64 g, .int .i64 n, .int .i64 v, .int .i64 m, .string (bs t), .string (bs tg)] 25)).alloc (.cells #[.int .i64 g2, .int .i64 n2] 23)).alloc (.cells #[.string (bs S)] 42) = W := ⟨_, rfl⟩
  rw [hW1] at hRc HB1 p1 q1 hE1 hNew
  have hSg := Sign_any ((w.alloc (.cells #[.int .i64 k, .int .i64 g, .int .i64 n, .int .i64 v, .int .i64 m, .string (bs t), .string (bs tg)] 25)).alloc (.cells #[.int .i64 g2, .int .i64 n2] 23)).heap.size S k g n v m t tg W1 ht hE1 hRc
  have hsz : ((w.alloc (.cells #[.int .i64 k, .int .i64 g, .int .i64 n, .int .i64 v, .int .i64 m, .string (bs t), .string (bs tg)] 25)).alloc (.cells #[.int .i64 g2, .int .i64 n2] 23)).heap.size = w.heap.size + 2 := by simp
  have HK : Hid (∀ W, Below W1.heap.size W1 W → (W.heap[w.heap.size]? = some (.cells #[.int .i64 k, .int .i64 g, .int .i64 n, .int .i64 v, .int .i64 m, .string (bs t), .string (bs tg)] 25) ∧ W.heap[w.heap.size + 1]? = some (.cells #[.int .i64 g2, .int .i64 n2] 23))) := fun W hb => ⟨(hb.block _ (Array.getElem?_eq_some_iff.1 p1).1).trans p1, (hb.block _ (Array.getElem?_eq_some_iff.1 q1).1).trans q1⟩
  have HR : Hid (∀ W, Below W1.heap.size W1 W → RingAt W (some ⟨((w.alloc (.cells #[.int .i64 k, .int .i64 g, .int .i64 n, .int .i64 v, .int .i64 m, .string (bs t), .string (bs tg)] 25)).alloc (.cells #[.int .i64 g2, .int .i64 n2] 23)).heap.size, 0, none⟩) (some S)) := fun W hb => hRc.below hb (Nat.le_refl _)
  obtain ⟨R, hR⟩ : ∃ R, ((w.alloc (.cells #[.int .i64 k, .int .i64 g, .int .i64 n, .int .i64 v, .int .i64 m, .string (bs t), .string (bs tg)] 25)).alloc (.cells #[.int .i64 g2, .int .i64 n2] 23)).heap.size = R := ⟨_, rfl⟩
  rw [hR] at hSg HR hNew hsz
  have x0 := cellB p1 0 (.int .i64 k) rfl
  have x1 := cellB p1 1 (.int .i64 g) rfl
  have x2 := cellB p1 2 (.int .i64 n) rfl
  have x3 := cellB p1 3 (.int .i64 v) rfl
  have x4 := cellB p1 4 (.int .i64 m) rfl
  have x5 := cellB p1 5 (.string (bs t)) rfl
  have x6 := cellB p1 6 (.string (bs tg)) rfl
  have HW1 : Hid (_ = W1) := hW1
  clear hW1 p0 q0 hR hRc hsz HW1
  by_cases hs : sgE k g n v m t tg = 0
  case neg =>
    rw [sgV, if_neg hs] at hSg
    obtain ⟨F, hF2⟩ : ∃ F, sgE k g n v m t tg = F := ⟨_, rfl⟩
    rw [hF2] at hSg hs
    have hq : (F != 0) = true := by simpa using hs
    clear hs hF2
    go_enter Tryz.func3, Tryz.ntmps3
    rw [hlit]
    clear hlit
    go_wp2_with fail
    refine hNew.mono ?_
    clear hNew
    rintro e w1 ⟨rfl, h9⟩
    subst w1
    go_wp2_with fail
    refine hSg.mono ?_
    clear hSg
    rintro e w2 ⟨rfl, hb2⟩
    have hb3 : Below w2.heap.size w2 (w2.alloc (.cells #[.int .i64 0, .int .i64 0, .int .i64 0, .int .i64 0, .int .i64 0, .string ⟨#[]⟩, .string ⟨#[]⟩] 25)) := (Below.refl _ _).alloc (Nat.le_refl _) _
    have hBz := HB1.out.trans ((hb2.trans (hb3.mono hb2.size)).mono HB1.out.size)
    have hLast := hOne _ hBz
    go_wp2_with (first | (go_at_call 4; refine hLast.mono ?_; rintro e w9 ⟨rfl, hb9⟩))
    go_ret
    exact ⟨rfl, hBz.trans (hb9.mono hBz.size)⟩
  have hok := signed_ok (s := S) hs
  rw [sgV, if_pos hs, hs] at hSg
  clear hs
  obtain ⟨TG, hTG⟩ : ∃ x, sgT S k g n v m t tg = x := ⟨_, rfl⟩
  rw [hTG] at hSg hok
  clear hTG
  obtain ⟨hc, hv⟩ := hok
  have hEn : ∀ W, Below w.heap.size w W → Calls Tryz.prog 7 #[.agg #[.int .i64 k, .int .i64 g, .int .i64 n, .int .i64 v, .int .i64 m, .string (bs t), .string (bs TG)]] W fun e W' => e = .returned (.tuple #[.string (bs (meL k g n v m t TG)), .int .i64 0]) ∧ Below W.heap.size W W' := fun W hW => by
    have h := Encode_any k g n v m t TG W (he.next hW).m
    rw [meV, if_pos hc, hc] at h
    exact h
  have hDe : ∀ W, Below w.heap.size w W → Calls Tryz.prog 8 #[.string (bs (meL k g n v m t TG))] W fun e W' => e = .returned (.tuple #[.agg #[.int .i64 k, .int .i64 g, .int .i64 n, .int .i64 v, .int .i64 m, .string (bs t), .string (bs TG)], .int .i64 0]) ∧ Below W.heap.size W W' := fun W hW => by
    have hl := me_len (k := k) (g := g) (n := n) (v := v) (m := m) (t := t) (tg := TG)
    rw [meV, if_pos hc] at hl
    have h := Decode_any (meL k g n v m t TG) W (by omega) (he.next hW).m
    have hd := de_me hc
    rw [deV, deE, hd] at h
    exact h
  have hV1 : ∀ W, Below W1.heap.size W1 W → Calls Tryz.prog 9 #[.pointer (some ⟨R, 0, none⟩), .agg #[.int .i64 k, .int .i64 g, .int .i64 n, .int .i64 v, .int .i64 m, .string (bs t), .string (bs TG)]] W fun e W' => e = .returned (.int .i64 0) ∧ Below W.heap.size W W' := fun W hW => by
    have h := Verify_any R S k g n v m t TG W ht (he.next (HB1.out.trans (hW.mono HB1.out.size))) (HR.out W hW)
    rw [hv] at h
    exact h
  have hV2 : ∀ W, Below W1.heap.size W1 W → Calls Tryz.prog 9 #[.pointer (some ⟨R, 0, none⟩), .agg #[.int .i64 k, .int .i64 g2, .int .i64 n2, .int .i64 v, .int .i64 m, .string (bs t), .string (bs TG)]] W fun e W' => e = .returned (.int .i64 (vfE S k g2 n2 v m t TG)) ∧ Below W.heap.size W W' := fun W hW => Verify_any R S k g2 n2 v m t TG W ht (he.next (HB1.out.trans (hW.mono HB1.out.size))) (HR.out W hW)
  have hrV := fun W => rVerify_any S k g2 n2 v m t TG W hS32 ht
  have hCv := fun W => conv_any k g2 n2 v m t TG W
  obtain ⟨EB, hEB⟩ : ∃ x, meL k g n v m t TG = x := ⟨_, rfl⟩
  obtain ⟨K, hK⟩ : ∃ x, vfE S k g2 n2 v m t TG = x := ⟨_, rfl⟩
  rw [hEB] at hEn hDe
  rw [hK] at hV2 hrV
  clear hEB hK hc hv he HR ht
  have hst := strs_same t
  have hsg := strs_same TG
  have HX : Hid (∀ w3, Below W1.heap.size W1 w3 → (w3.alloc (.cells #[.int .i64 k, .int .i64 g, .int .i64 n, .int .i64 v, .int .i64 m, .string (bs t), .string (bs TG)] 25)).heap[w3.heap.size]? = some (.cells #[.int .i64 k, .int .i64 g, .int .i64 n, .int .i64 v, .int .i64 m, .string (bs t), .string (bs TG)] 25) ∧ Below W1.heap.size W1 (w3.alloc (.cells #[.int .i64 k, .int .i64 g, .int .i64 n, .int .i64 v, .int .i64 m, .string (bs t), .string (bs TG)] 25)) ∧ w3.heap.size < (w3.alloc (.cells #[.int .i64 k, .int .i64 g, .int .i64 n, .int .i64 v, .int .i64 m, .string (bs t), .string (bs TG)] 25)).heap.size) := fun w3 hb => ⟨heap_alloc_new _ _, hb.trans (((Below.refl _ _).alloc (Nat.le_refl _) _).mono hb.size), by simp⟩
  go_enter Tryz.func3, Tryz.ntmps3
  rw [hlit]
  go_wp2_with fail
  refine hNew.mono ?_
  clear hNew
  rintro e w1 ⟨rfl, h9⟩
  subst w1
  go_wp2_with fail
  refine hSg.mono ?_
  clear hSg x0 x1 x2 x3 x4 x5 x6 a4
  rintro e w2 ⟨rfl, hb2⟩
  obtain ⟨hx3, hB3, hl3⟩ := HX.out w2 hb2
  clear hb2
  go_upto_region 9 with fail
  obtain ⟨W3, hW3⟩ : ∃ W, w2.alloc (.cells #[.int .i64 k, .int .i64 g, .int .i64 n, .int .i64 v, .int .i64 m, .string (bs t), .string (bs TG)] 25) = W := ⟨_, rfl⟩
  rw [hW3] at hx3 hB3 hl3 ⊢
  clear hW3
  obtain ⟨X, hXs⟩ : ∃ X, w2.heap.size = X := ⟨_, rfl⟩
  rw [hXs] at hx3 hl3 ⊢
  clear hXs
  have x0 := cellB hx3 0 (.int .i64 k) rfl
  have x1 := cellB hx3 1 (.int .i64 g) rfl
  have x2 := cellB hx3 2 (.int .i64 n) rfl
  have x3 := cellB hx3 3 (.int .i64 v) rfl
  have x4 := cellB hx3 4 (.int .i64 m) rfl
  have x5 := cellB hx3 5 (.string (bs t)) rfl
  have x6 := cellB hx3 6 (.string (bs TG)) rfl
  have hE3 := hEn W3 (HB1.out.trans (hB3.mono HB1.out.size))
  clear hEn
  go_wp2_with fail
  refine hE3.mono ?_
  clear hE3 x0 x1 x2 x3 x4 x5 x6
  rintro e w4 ⟨rfl, hb4⟩
  have hB4 := hB3.trans (hb4.mono hB3.size)
  have hx4 := (hb4.block _ hl3).trans hx3
  have hl4 : X < w4.heap.size := (Array.getElem?_eq_some_iff.1 hx4).1
  have hD4 := hDe w4 (HB1.out.trans (hB4.mono HB1.out.size))
  clear hDe hb4 hx3 hl3 hB3
  go_wp2_with fail
  refine hD4.mono ?_
  clear hD4
  rintro e w5 ⟨rfl, hb5⟩
  have hB5 := hB4.trans (hb5.mono hB4.size)
  have hx5 := (hb5.block _ hl4).trans hx4
  have hl5 : X < w5.heap.size := (Array.getElem?_eq_some_iff.1 hx5).1
  obtain ⟨hy6, hB6, hl6⟩ := HX.out w5 hB5
  have hb6 : Below w5.heap.size w5 (w5.alloc (.cells #[.int .i64 k, .int .i64 g, .int .i64 n, .int .i64 v, .int .i64 m, .string (bs t), .string (bs TG)] 25)) := (Below.refl _ _).alloc (Nat.le_refl _) _
  have hx6 := (hb6.block _ hl5).trans hx5
  clear hb5 hx4 hl4 hB4 hB5 hx5 hl5 hb6
  go_upto_region 11 with fail
  obtain ⟨W6, hW6⟩ : ∃ W, w5.alloc (.cells #[.int .i64 k, .int .i64 g, .int .i64 n, .int .i64 v, .int .i64 m, .string (bs t), .string (bs TG)] 25) = W := ⟨_, rfl⟩
  rw [hW6] at hy6 hB6 hl6 hx6 ⊢
  clear hW6
  obtain ⟨Y, hYs⟩ : ∃ Y, w5.heap.size = Y := ⟨_, rfl⟩
  rw [hYs] at hy6 hl6 ⊢
  clear hYs
  have x0 := cellB hx6 0 (.int .i64 k) rfl
  have x1 := cellB hx6 1 (.int .i64 g) rfl
  have x2 := cellB hx6 2 (.int .i64 n) rfl
  have x3 := cellB hx6 3 (.int .i64 v) rfl
  have x4 := cellB hx6 4 (.int .i64 m) rfl
  have x5 := cellB hx6 5 (.string (bs t)) rfl
  have x6 := cellB hx6 6 (.string (bs TG)) rfl
  have y0 := cellB hy6 0 (.int .i64 k) rfl
  have y1 := cellB hy6 1 (.int .i64 g) rfl
  have y2 := cellB hy6 2 (.int .i64 n) rfl
  have y3 := cellB hy6 3 (.int .i64 v) rfl
  have y4 := cellB hy6 4 (.int .i64 m) rfl
  have y5 := cellB hy6 5 (.string (bs t)) rfl
  have y6 := cellB hy6 6 (.string (bs TG)) rfl
  have hV6 := hV1 W6 hB6
  clear hV1
  go_wp2_with fail
  refine hV6.mono ?_
  clear hV6 x0 x1 x2 x3 x4 x5 x6 y0 y1 y2 y3 y4 y5 y6
  rintro e w7 ⟨rfl, hb7⟩
  have hB7 := hB6.trans (hb7.mono hB6.size)
  have hlX6 : X < W6.heap.size := (Array.getElem?_eq_some_iff.1 hx6).1
  have hx7 := (hb7.block _ hlX6).trans hx6
  have hlX7 : X < w7.heap.size := (Array.getElem?_eq_some_iff.1 hx7).1
  obtain ⟨hz8, hB8, hl8⟩ := HX.out w7 hB7
  have hb8 : Below w7.heap.size w7 (w7.alloc (.cells #[.int .i64 k, .int .i64 g, .int .i64 n, .int .i64 v, .int .i64 m, .string (bs t), .string (bs TG)] 25)) := (Below.refl _ _).alloc (Nat.le_refl _) _
  have hx8 := (hb8.block _ hlX7).trans hx7
  have HZ : Hid (W1.heap.size ≤ w7.heap.size) := hB7.size
  have x0 := cellB hx7 0 (.int .i64 k) rfl
  have x1 := cellB hx7 1 (.int .i64 g) rfl
  have x2 := cellB hx7 2 (.int .i64 n) rfl
  have x3 := cellB hx7 3 (.int .i64 v) rfl
  have x4 := cellB hx7 4 (.int .i64 m) rfl
  have x5 := cellB hx7 5 (.string (bs t)) rfl
  have x6 := cellB hx7 6 (.string (bs TG)) rfl
  clear hb7 hB6 hx6 hy6 hl6 hlX6 hb8
  go_upto_region 14 with fail
  clear x0 x1 x2 x3 x4 x5 x6
  obtain ⟨W8, hW8⟩ : ∃ W, w7.alloc (.cells #[.int .i64 k, .int .i64 g, .int .i64 n, .int .i64 v, .int .i64 m, .string (bs t), .string (bs TG)] 25) = W := ⟨_, rfl⟩
  rw [hW8] at hz8 hB8 hl8 hx8 ⊢
  clear hW8
  obtain ⟨Zb, hZb⟩ : ∃ Z, w7.heap.size = Z := ⟨_, rfl⟩
  rw [hZb] at hz8 hl8 hlX7 HZ ⊢
  clear hZb hx7 hB7
  obtain ⟨-, q8⟩ := HK.out W8 hB8
  have hlq : w.heap.size + 1 < W1.heap.size := (Array.getElem?_eq_some_iff.1 (HK.out W1 (Below.refl _ _)).2).1
  have u0 := cellB q8 0 (.int .i64 g2) rfl
  have u1 := cellB q8 1 (.int .i64 n2) rfl
  have f1 := frozenB hz8 1
  have f2 := frozenB hz8 2
  have s1 := cellB hz8 1 (.int .i64 g) rfl
  have s2 := cellB hz8 2 (.int .i64 n) rfl
  have hz9 : ((W8.setCell ⟨Zb, 1, none⟩ (.int .i64 g2)).setCell ⟨Zb, 2, none⟩ (.int .i64 n2)).heap[Zb]? = some (.cells #[.int .i64 k, .int .i64 g2, .int .i64 n2, .int .i64 v, .int .i64 m, .string (bs t), .string (bs TG)] 25) := by
    have := setB (setB hz8 1 (.int .i64 g2)) 2 (.int .i64 n2)
    simpa using this
  have hx9 : ((W8.setCell ⟨Zb, 1, none⟩ (.int .i64 g2)).setCell ⟨Zb, 2, none⟩ (.int .i64 n2)).heap[X]? = some (.cells #[.int .i64 k, .int .i64 g, .int .i64 n, .int .i64 v, .int .i64 m, .string (bs t), .string (bs TG)] 25) := ((set_far (by omega) 2 _).trans (set_far (by omega) 1 _)).trans hx8
  have hz := HZ.out
  have hB9 : Below W1.heap.size W1 ((W8.setCell ⟨Zb, 1, none⟩ (.int .i64 g2)).setCell ⟨Zb, 2, none⟩ (.int .i64 n2)) := (hB8.setCell (p := ⟨Zb, 1, none⟩) hz _).setCell (p := ⟨Zb, 2, none⟩) hz _
  have HQ : Hid (w.heap.size + 1 < W1.heap.size) := hlq
  clear q8 hlX7 hl8 hx8 hlq hz HZ hz8 hB8
  go_upto_region 15 with fail
  clear u0 u1 f1 f2 s1 s2
  obtain ⟨W9, hW9⟩ : ∃ W, (W8.setCell ⟨Zb, 1, none⟩ (.int .i64 g2)).setCell ⟨Zb, 2, none⟩ (.int .i64 n2) = W := ⟨_, rfl⟩
  rw [hW9] at hz9 hx9 hB9 ⊢
  clear hW9
  have z0 := cellB hz9 0 (.int .i64 k) rfl
  have z1 := cellB hz9 1 (.int .i64 g2) rfl
  have z2 := cellB hz9 2 (.int .i64 n2) rfl
  have z3 := cellB hz9 3 (.int .i64 v) rfl
  have z4 := cellB hz9 4 (.int .i64 m) rfl
  have z5 := cellB hz9 5 (.string (bs t)) rfl
  have z6 := cellB hz9 6 (.string (bs TG)) rfl
  have hV9 := hV2 W9 hB9
  clear hV2
  go_upto_region 16 with (first | (go_at_call 9; refine hV9.mono ?_; clear hV9 z0 z1 z2 z3 z4 z5 z6; rintro e w10 ⟨rfl, hb10⟩))
  have hB10 := hB9.trans (hb10.mono hB9.size)
  have hx10 := (hb10.block _ (Array.getElem?_eq_some_iff.1 hx9).1).trans hx9
  have hz10 := (hb10.block _ (Array.getElem?_eq_some_iff.1 hz9).1).trans hz9
  have hlz : Zb < w10.heap.size := (Array.getElem?_eq_some_iff.1 hz10).1
  obtain ⟨-, q10⟩ := HK.out w10 hB10
  have u0 := cellB q10 0 (.int .i64 g2) rfl
  have u1 := cellB q10 1 (.int .i64 n2) rfl
  have x1 := cellB hx10 1 (.int .i64 g) rfl
  have x2 := cellB hx10 2 (.int .i64 n) rfl
  have x6 := cellB hx10 6 (.string (bs TG)) rfl
  have z0 := cellB hz10 0 (.int .i64 k) rfl
  have z1 := cellB hz10 1 (.int .i64 g2) rfl
  have z2 := cellB hz10 2 (.int .i64 n2) rfl
  have z3 := cellB hz10 3 (.int .i64 v) rfl
  have z4 := cellB hz10 4 (.int .i64 m) rfl
  have z5 := cellB hz10 5 (.string (bs t)) rfl
  have z6 := cellB hz10 6 (.string (bs TG)) rfl
  have hBz := HB1.out.trans (hB10.mono HB1.out.size)
  have HBz : Hid (Below w.heap.size w w10) := hBz
  have hLast := hOne w10 hBz
  have hC10 := hCv w10
  clear hCv q10 hx10 hz10 hb10 hB9 hx9 hz9 HK HX HQ hB10 hBz hlz
  have hte : (bs TG).toList.isEmpty = true ∨ (bs TG).toList.isEmpty = false := by cases (bs TG).toList.isEmpty <;> simp
  rcases hte with hte | hte
  · clear hC10 hrV hOne
    go_wp2_with (first | (go_at_call 4; refine hLast.mono ?_; rintro e w19 ⟨rfl, hb19⟩))
    go_ret
    exact ⟨rfl, HBz.out.trans (hb19.mono HBz.out.size)⟩
  by_cases hk0 : K = 0
  case neg =>
    have hq : (K != 0) = true := by simpa using hk0
    clear hk0 hC10 hrV hOne
    go_wp2_with (first | (go_at_call 4; refine hLast.mono ?_; rintro e w19 ⟨rfl, hb19⟩))
    go_ret
    exact ⟨rfl, HBz.out.trans (hb19.mono HBz.out.size)⟩
  subst hk0
  have LAST : ∀ w11, Below w10.heap.size w10 w11 → Hid (∀ w12, Below w11.heap.size w11 w12 → Calls Tryz.prog 4 #[] w12 fun e W' => e = .returned (.bool true) ∧ Below w12.heap.size w12 W') := fun w11 h1 w12 h2 => hOne w12 (HBz.out.trans ((h1.trans (h2.mono h1.size)).mono HBz.out.size))
  clear hOne
  by_cases hg : g2 = g
  · subst hg
    by_cases hn : n2 = n
    · subst hn
      clear hC10 hrV LAST
      go_wp2_with (first | (go_at_call 4; refine hLast.mono ?_; rintro e w19 ⟨rfl, hb19⟩))
      go_ret
      exact ⟨rfl, HBz.out.trans (hb19.mono HBz.out.size)⟩
    have hq : (n2 == n) = false := by simpa using hn
    clear hn
    clear hLast
    go_wp2_with (first | (go_at_call 11; refine hC10.mono ?_; clear hC10; rintro e w11 ⟨rfl, hb11⟩; have HL := LAST w11 hb11; have HB11 : Hid (Below w10.heap.size w10 w11) := hb11; clear hb11 LAST) | (go_at_call 10; refine (hrV w11).mono ?_; clear hrV; rintro e w12 ⟨rfl, hb12⟩; have hLa := HL.out w12 hb12; have HB12 : Hid (Below w11.heap.size w11 w12) := hb12; clear hb12 HL) | (go_at_call 4; refine hLa.mono ?_; rintro e w19 ⟨rfl, hb19⟩))
    go_ret
    exact ⟨rfl, HBz.out.trans ((HB11.out.trans ((HB12.out.trans (hb19.mono HB12.out.size)).mono HB11.out.size)).mono HBz.out.size)⟩
  have hq : (g2 == g) = false := by simpa using hg
  clear hg
  clear hLast
  go_wp2_with (first | (go_at_call 11; refine hC10.mono ?_; clear hC10; rintro e w11 ⟨rfl, hb11⟩; have HL := LAST w11 hb11; have HB11 : Hid (Below w10.heap.size w10 w11) := hb11; clear hb11 LAST) | (go_at_call 10; refine (hrV w11).mono ?_; clear hrV; rintro e w12 ⟨rfl, hb12⟩; have hLa := HL.out w12 hb12; have HB12 : Hid (Below w11.heap.size w11 w12) := hb12; clear hb12 HL) | (go_at_call 4; refine hLa.mono ?_; rintro e w19 ⟨rfl, hb19⟩))
  go_ret
  exact ⟨rfl, HBz.out.trans ((HB11.out.trans ((HB12.out.trans (hb19.mono HB12.out.size)).mono HB11.out.size)).mono HBz.out.size)⟩
end Go.Proofs.YtmkjcfakopbdhaaGreatDoor
