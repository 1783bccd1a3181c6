/- Unlike memos' texts are unlike: plain; the law MemoApart, walked. -/
import Derived.Test.YtielknegifbmpaaDoorMsD
import Derived.Test.YtielknegifbmpaaDoorMeH
namespace Go.Proofs.YtielknegifbmpaaDoor
open Go.RowKit
attribute [local go_sem ↓] Go.wp_at_zero Go.wp_at_succ

theorem pack_inj {l l' : List (List UInt8)} (h1 : ∀ x ∈ l, x.length ≤ 1000000000) (h2 : ∀ x ∈ l', x.length ≤ 1000000000) (h : packL l = packL l') : l = l' := by
  rw [← texts_pack l h1, ← texts_pack l' h2, h]
theorem itoa_inj {a b : Int} (a0 : -9223372036854775808 ≤ a) (a1 : a ≤ 9223372036854775807) (b0 : -9223372036854775808 ≤ b) (b1 : b ≤ 9223372036854775807) (h : Lib.itoa a = Lib.itoa b) : a = b := by
  have := congrArg toNumL h
  rw [toNum_itoa a a0 a1, toNum_itoa b b0 b1] at this
  exact Option.some.inj this
def sayL (k g v m : Int) (t : List UInt8) : List (List UInt8) :=
  if k = 2 then [orderW, Lib.itoa g, Lib.itoa v, Lib.itoa m, t] else if k = 3 then [settleW, Lib.itoa g, Lib.itoa v, Lib.itoa m, t] else if k = 4 then [[109, 97, 114, 107], Lib.itoa g, Lib.itoa m, t] else [memoW, Lib.itoa k, Lib.itoa g, Lib.itoa v, Lib.itoa m, t]
theorem SaidOk.kind {k g v m : Int} {t X : List UInt8} (h : SaidOk k g v m t X) : k = 2 ∨ k = 3 ∨ (k = 4 ∧ v = 0) ∨ k = 5 ∨ k = 8 ∨ k = 9 := by
  rcases h.is with ⟨h, _⟩ | ⟨h, _⟩ | ⟨h, h', _⟩ | ⟨h, _⟩ <;> omega
theorem SaidOk.say {k g v m : Int} {t X : List UInt8} (h : SaidOk k g v m t X) : X = packL (sayL k g v m t) := by
  rcases h.is with ⟨hk, hx⟩ | ⟨hk, hx⟩ | ⟨hk, _, hx⟩ | ⟨hk | hk | hk, hx⟩
  all_goals
    subst hk
    rw [hx]
    rfl
theorem SaidOk.small {k g v m : Int} {t X : List UInt8} (h : SaidOk k g v m t X) (hg0 : -1 ≤ g) (hg1 : g ≤ 4) : ∀ x ∈ sayL k g v m t, x.length ≤ 1000000000 := by
  have hk := h.kind
  have a0 := h.v0
  have a1 := h.v1
  have a2 := h.m0
  have a3 := h.m1
  have a4 := h.tl
  have b1 := itoa_le (z := k) (by omega) (by omega)
  have b2 := itoa_le (z := g) (by omega) (by omega)
  have b3 := itoa_le (z := v) (by omega) (by omega)
  have b4 := itoa_le (z := m) (by omega) (by omega)
  have w1 : orderW.length = 5 := rfl
  have w2 : settleW.length = 6 := rfl
  have w3 : memoW.length = 4 := rfl
  have w4 : ([109, 97, 114, 107] : List UInt8).length = 4 := rfl
  intro x hx
  unfold sayL at hx
  split at hx
  · simp only [List.mem_cons, List.not_mem_nil, or_false] at hx
    rcases hx with rfl | rfl | rfl | rfl | rfl <;> omega
  split at hx
  · simp only [List.mem_cons, List.not_mem_nil, or_false] at hx
    rcases hx with rfl | rfl | rfl | rfl | rfl <;> omega
  split at hx
  · simp only [List.mem_cons, List.not_mem_nil, or_false] at hx
    rcases hx with rfl | rfl | rfl | rfl <;> omega
  · simp only [List.mem_cons, List.not_mem_nil, or_false] at hx
    rcases hx with rfl | rfl | rfl | rfl | rfl | rfl <;> omega
/-- Unlike memos say unlike texts. -/
theorem said_apart {k k2 g v v2 m m2 : Int} {t t2 X : List UInt8} (h : SaidOk k g v m t X) (h2 : SaidOk k2 g v2 m2 t2 X) (hg0 : -1 ≤ g) (hg1 : g ≤ 4) : k = k2 ∧ v = v2 ∧ m = m2 ∧ t = t2 := by
  have hs : sayL k g v m t = sayL k2 g v2 m2 t2 := pack_inj (h.small hg0 hg1) (h2.small hg0 hg1) (h.say.symm.trans h2.say)
  have a0 := h.v0
  have a1 := h.v1
  have a2 := h.m0
  have a3 := h.m1
  have c0 := h2.v0
  have c1 := h2.v1
  have c2 := h2.m0
  have c3 := h2.m1
  have e3 : ([109, 97, 114, 107] : List UInt8) ≠ memoW := by decide
  rcases h.kind with rfl | rfl | ⟨rfl, rfl⟩ | rfl | rfl | rfl <;> rcases h2.kind with rfl | rfl | ⟨rfl, rfl⟩ | rfl | rfl | rfl <;> simp [sayL, orderW, settleW, memoW] at hs
  · exact ⟨rfl, itoa_inj (by omega) (by omega) (by omega) (by omega) hs.1, itoa_inj (by omega) (by omega) (by omega) (by omega) hs.2.1, hs.2.2⟩
  · exact ⟨rfl, itoa_inj (by omega) (by omega) (by omega) (by omega) hs.1, itoa_inj (by omega) (by omega) (by omega) (by omega) hs.2.1, hs.2.2⟩
  · exact ⟨rfl, rfl, itoa_inj (by omega) (by omega) (by omega) (by omega) hs.1, hs.2⟩
  · exact ⟨rfl, itoa_inj (by omega) (by omega) (by omega) (by omega) hs.1, itoa_inj (by omega) (by omega) (by omega) (by omega) hs.2.1, hs.2.2⟩
  · exact absurd (itoa_inj (by omega) (by omega) (by omega) (by omega) hs.1) (by decide)
  · exact absurd (itoa_inj (by omega) (by omega) (by omega) (by omega) hs.1) (by decide)
  · exact absurd (itoa_inj (by omega) (by omega) (by omega) (by omega) hs.1) (by decide)
  · exact ⟨rfl, itoa_inj (by omega) (by omega) (by omega) (by omega) hs.1, itoa_inj (by omega) (by omega) (by omega) (by omega) hs.2.1, hs.2.2⟩
  · exact absurd (itoa_inj (by omega) (by omega) (by omega) (by omega) hs.1) (by decide)
  · exact absurd (itoa_inj (by omega) (by omega) (by omega) (by omega) hs.1) (by decide)
  · exact absurd (itoa_inj (by omega) (by omega) (by omega) (by omega) hs.1) (by decide)
  · exact ⟨rfl, itoa_inj (by omega) (by omega) (by omega) (by omega) hs.1, itoa_inj (by omega) (by omega) (by omega) (by omega) hs.2.1, hs.2.2⟩
end Go.Proofs.YtielknegifbmpaaDoor
