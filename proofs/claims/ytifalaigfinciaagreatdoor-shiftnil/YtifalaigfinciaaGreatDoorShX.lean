/- A change's bytes: entries, one behind the other. -/
import Derived.Test.YtifalaigfinciaaGreatDoorShM
import Derived.Test.YtifalaigfinciaaGreatDoorCtE
namespace Go.Proofs.YtifalaigfinciaaGreatDoor
open Go.RowKit
attribute [local go_sem ↓] Go.wp_at_zero Go.wp_at_succ

def wf64 (n : Int) : Prop := -9223372036854775808 ≤ n ∧ n ≤ 9223372036854775807
/-- An entry: two numbers and a certificate. -/
structure Bq where
  n : Int
  v : Int
  x : List UInt8
  g : Int
  T : List Tg
def entT (b : Bq) : List (List UInt8) := [Lib.itoa b.n, Lib.itoa b.v, encV b.x b.g b.T]
theorem strs_append (a b : List (List UInt8)) : strs (a ++ b) = strs a ++ strs b := by simp [strs]

set_option maxRecDepth 20000 in
set_option maxHeartbeats 2000000 in
theorem entry_any (base : Nat) (va : Value) (xs : List (List UInt8)) (b : Bq) (u : Value) (w : World) (hx : b.x.length ≤ 500000) (hT : b.T.length ≤ 140737488355328) (hn : wf64 b.n) (hv : wf64 b.v) (hlx : xs.length ≤ 1000) (he : EnvP w) (hbase : base ≤ w.heap.size) (hown : w.ownsRow base 9 1 va xs.length (strs xs)) (hu : Tl w u b.T) :
    Calls Tryz.prog 17 #[va, .int .i64 b.n, .int .i64 b.v, .agg #[.string (bs b.x), .int .i64 b.g, u]] w fun e W' => (faultL b.g b.T ≠ 0 ∧ e = .returned (.tuple #[.slice none 0 0, .int .i64 (faultL b.g b.T)]) ∧ Below w.heap.size w W') ∨ (faultL b.g b.T = 0 ∧ ∃ v', e = .returned (.tuple #[v', .int .i64 0]) ∧ W'.ownsRow base 9 1 v' (xs.length + 3) (strs (xs ++ entT b)) ∧ Below base w W') := by
  obtain ⟨ua, uc, rfl⟩ := hu.slice
  obtain ⟨aa, ac, rfl⟩ := owns_slice hown
  have hba := (Below.refl w.heap.size w).alloc (Nat.le_refl _) (.cells #[.string (bs b.x), .int .i64 b.g, .slice ua b.T.length uc] 24)
  have hE := Encode_any b.x b.g b.T (.slice ua b.T.length uc) (w.alloc (.cells #[.string (bs b.x), .int .i64 b.g, .slice ua b.T.length uc] 24)) hx hT (he.next hba) (hu.below hba (Nat.le_refl _))
  obtain ⟨i0, hi, hz0, hz1, hz2⟩ := info_parts Tryz.info9
  by_cases hf : faultL b.g b.T = 0
  · have HN : Hid (∀ W, Below w.heap.size w W → ∀ m : Int, wf64 m → Calls Tryz.prog 22 #[.int .i64 m] W fun e w' => e = .returned (.string (bs (Lib.itoa m))) ∧ Below w.heap.size w w') := fun W hW m hm => by
      refine (Num_any m W hm.1 hm.2 (he.next hW)).mono ?_
      rintro e W' ⟨rfl, h⟩
      exact ⟨rfl, hW.trans (h.mono hW.size)⟩
    have HO : Hid (∀ w3, Below w.heap.size w w3 → w3.ownsRow base 9 1 (.slice aa xs.length ac) xs.length (strs xs)) := fun w3 h3 => own_kept hown h3
    have hent : strs (xs ++ entT b) = strs xs ++ [.string (bs (Lib.itoa b.n)), .string (bs (Lib.itoa b.v)), .string (bs (encV b.x b.g b.T))] := by rw [strs_append]; rfl
    rw [hf] at hE ⊢
    rw [hent]
    obtain ⟨EV, hEV⟩ : ∃ y, encV b.x b.g b.T = y := ⟨_, rfl⟩
    rw [hEV] at hE ⊢
    obtain ⟨bn, bv, bx, bg, bT⟩ := b
    simp only at hE hn hv hba ⊢
    have hcs : ∀ (w3 : World), Below w.heap.size w w3 → (∀ j y, [Value.string (bs (Lib.itoa bn)), .string (bs (Lib.itoa bv)), .string (bs EV)][j]? = some y → (w3.alloc (.cells #[.string (bs (Lib.itoa bn)), .string (bs (Lib.itoa bv)), .string (bs EV)] 9)).cell? ((⟨w3.heap.size, 0, none⟩ : Addr).add j) = some y) := fun w3 _ j y hy => World.news_of_block (heap_alloc_new w3 (.cells #[.string (bs (Lib.itoa bn)), .string (bs (Lib.itoa bv)), .string (bs EV)] 9)) j y hy
    have HCS : Hid (_) := hcs
    have HBa : Hid (_) := hba
    have HXS : Hid (base ≤ w.heap.size) := hbase
    obtain ⟨n3, hn3⟩ : ∃ n, xs.length = n := ⟨_, rfl⟩
    have hn3' : n3 ≤ 1000 := by omega
    obtain ⟨S, hS⟩ : ∃ S, strs xs = S := ⟨_, rfl⟩
    rw [hn3, hS] at HO ⊢
    have HNN : Hid (wf64 bn ∧ wf64 bv) := ⟨hn, hv⟩
    have hi2 := hi
    have HZ : Hid (Tryz.prog.info? 9 = some i0 ∧ i0.zero = some (.string ⟨#[]⟩) ∧ i0.size = 1 ∧ i0.bytes = 16) := ⟨hi, hz0, hz1, hz2⟩
    clear hEV hent hcs hba hown hu he hx hT hn hv hbase hf hlx hi hi2 hz0 hz1 hz2 hS
    rw [hn3] at *
    go_enter Tryz.func17, Tryz.ntmps17
    go_wp2_with (first
      | (go_at_call 25; refine hE.mono ?_; clear hE; rintro e w1 ⟨rfl, hb1⟩; have hB1 := HBa.out.trans (hb1.mono HBa.out.size); have hN1 := HN.out w1 hB1 bn HNN.out.1)
      | (go_at_call 22; refine hN1.mono ?_; clear hN1; rintro e w2 ⟨rfl, hb2⟩; have hN2 := HN.out w2 hb2 bv HNN.out.2)
      | (go_at_call 22; refine hN2.mono ?_; clear hN2; rintro e w3 ⟨rfl, hb3⟩; have ho3 := HO.out w3 hb3)
      | (at_builtin; refine wpList_append_own _ rfl _ _ 55 rfl base 9 i0 (.string ⟨#[]⟩) 1 16 Tryz.underlying55 HZ.out.1 HZ.out.2.1 HZ.out.2.2.1 HZ.out.2.2.2 rfl (by decide) _ n3 S rfl (ho3.alloc _) ⟨w3.heap.size, 0, none⟩ 3 3 [.string (bs (Lib.itoa bn)), .string (bs (Lib.itoa bv)), .string (bs EV)] rfl rfl (HCS.out w3 hb3) (by intro y hy; simp at hy; rcases hy with rfl | rfl | rfl <;> rfl) (by unfold maxLen; omega) (by omega) (Nat.le_trans HXS.out (Nat.le_trans hb3.size (by simp))) ?_; intro v4 w4 hown4 hg4 _; obtain ⟨a4, c4, rfl⟩ := owns_slice hown4))
    have hb4 : Below base w w4 := by
      have h1 : Below base w (w3.alloc (.cells #[.string (bs (Lib.itoa bn)), .string (bs (Lib.itoa bv)), .string (bs EV)] 9)) := (hb3.mono HXS.out).alloc (Nat.le_trans HXS.out hb3.size) _
      exact h1.grown hg4 (Nat.le_trans HXS.out (Nat.le_trans hb3.size (by simp))) (fun q hq => (ho3.lt q hq).1)
    exact bodyPost_ret (v := .tuple #[.slice a4 (n3 + 3) c4, .int .i64 0]) (by simp [results, Tryz.f17, go_sem]) rfl (.inr ⟨by first | trivial | rfl, _, rfl, hown4, hb4⟩)
  · have hf2 : (faultL b.g b.T != 0) = true := by simpa using hf
    have HF : Hid (faultL b.g b.T ≠ 0) := hf
    obtain ⟨FL, hFL⟩ : ∃ y, faultL b.g b.T = y := ⟨_, rfl⟩
    rw [hFL] at hE hf2 HF ⊢
    obtain ⟨bn, bv, bx, bg, bT⟩ := b
    simp only at hE hba ⊢
    have HBa : Hid (_) := hba
    clear hFL hba hown hu he hx hT hn hv hbase hf hlx hi hz0 hz1 hz2
    go_enter Tryz.func17, Tryz.ntmps17
    go_wp2_with (first | (go_at_call 25; refine hE.mono ?_; clear hE; rintro e w1 ⟨rfl, hb1⟩))
    exact bodyPost_ret (v := .tuple #[.slice none 0 0, .int .i64 FL]) (by simp [results, Tryz.f17, go_sem]) rfl (.inl ⟨HF.out, rfl, HBa.out.trans (hb1.mono HBa.out.size)⟩)
end Go.Proofs.YtifalaigfinciaaGreatDoor
