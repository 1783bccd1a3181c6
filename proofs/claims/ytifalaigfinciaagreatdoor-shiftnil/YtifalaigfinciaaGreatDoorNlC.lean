/- A nil ring checks no certificate. -/
import Derived.Test.YtifalaigfinciaaGreatDoorNlB
namespace Go.Proofs.YtifalaigfinciaaGreatDoor
open Go.RowKit
attribute [local go_sem ↓] Go.wp_at_zero Go.wp_at_succ

theorem tagsF_mem : ∀ {l : List Tg} {z : Int}, tagsF z l = 0 → ∀ t ∈ l, 0 ≤ t.1 ∧ t.1 ≤ 15
  | [], _, _ => by simp
  | (n, s) :: r, z, h => by
    rw [tagsF] at h
    split at h
    · cases h
    split at h
    · cases h
    split at h
    · cases h
    intro t ht
    rcases List.mem_cons.1 ht with rfl | ht
    · show 0 ≤ n ∧ n ≤ 15; omega
    · exact tagsF_mem h t ht
theorem fault_isP {g : Int} {l : List Tg} (h : faultL g l = 0) : ∀ t ∈ l, isP g t.1 := by
  unfold faultL at h
  split at h
  · cases h
  · intro t ht
    have := tagsF_mem h t ht
    exact ⟨by omega, by omega, this.1, this.2⟩
set_option maxRecDepth 20000 in
set_option maxHeartbeats 1000000 in
theorem checkTags_nil (x : List UInt8) (g : Int) (T : List Tg) (u : Value) (w : World) (he : EnvP w) (hll : T.length ≤ 140737488355328) (hT : Tl w u T) (hp : ∀ t ∈ T, isP g t.1) :
    Calls Tryz.prog 30 #[.pointer none, .agg #[.string (bs x), .int .i64 g, u], .func (.func 31) #[] #[]] w fun e W' => e = .returned (.int .i64 (if T = [] then 0 else 7)) ∧ Below w.heap.size w W' := by
  obtain ⟨ua, uc, rfl⟩ := hT.slice
  obtain ⟨RR, hRR⟩ : ∃ R : Int, (if T = [] then 0 else 7) = R := ⟨_, rfl⟩
  have HRR : Hid ((if T = [] then (0 : Int) else 7) = RR) := hRR
  rw [hRR]
  clear hRR
  have hb0 : Below w.heap.size w (w.alloc (.cells #[.string (bs x), .int .i64 g, .slice ua T.length uc] 24)) := (Below.refl _ w).alloc (Nat.le_refl _) _
  have rP := heap_alloc_new w (.cells #[.string (bs x), .int .i64 g, .slice ua T.length uc] 24)
  have hT0 := hT.below hb0 (Nat.le_refl _)
  obtain ⟨W0, hW0⟩ : ∃ W, w.alloc (.cells #[.string (bs x), .int .i64 g, .slice ua T.length uc] 24) = W := ⟨_, rfl⟩
  have HW : Hid (w.alloc (.cells #[.string (bs x), .int .i64 g, .slice ua T.length uc] 24) = W0) := hW0
  rw [hW0] at hb0 rP hT0
  obtain ⟨P, hP⟩ : ∃ P, w.heap.size = P := ⟨_, rfl⟩
  have HP : Hid (w.heap.size = P) := hP
  rw [hP] at rP
  have hlP := (Array.getElem?_eq_some_iff.1 rP).1
  have k0 := cellB rP 0 _ rfl
  have k1 := cellB rP 1 _ rfl
  have k2 := cellB rP 2 _ rfl
  have HB0 : Hid (Below w.heap.size w W0) := hb0
  have HEn : Hid (∀ W, Below W0.heap.size W0 W → EnvP W) := fun W h => he.next (hb0.trans (h.mono hb0.size))
  clear hW0 hP hb0 hT he
  go_enter Tryz.func30, Tryz.ntmps30
  go_upto_region 1 with fail
  rw [HW.out, HP.out]
  clear HW
  go_wp2
  go_loopw [14] (fun p wr => p = .int .i64 0 ∧ wr = W0) (fun _ _ => 0)
  case atStart => exact ⟨rfl, rfl⟩
  case round =>
    obtain ⟨rfl, hwr⟩ := hrel
    replace hwr := hwr.symm
    subst hwr
    cases T with
    | nil =>
      go_wp2
      exact bodyPost_ret (v := .int .i64 0) (by simp [results, Tryz.f30, go_sem]) rfl ⟨by rw [← HRR.out]; rfl, HB0.out⟩
    | cons t r =>
      have HR7 : Hid (RR = 7) := HRR.out.symm
      clear HRR
      obtain ⟨b, o, rfl, hlb⟩ := hT0.some (by simp)
      obtain ⟨c1, c2⟩ := hT0.cells (k := 0) (t := t) rfl
      rw [Nat.zero_mul, Nat.add_zero] at c1 c2
      have hpt := hp t (by simp)
      obtain ⟨n, tg⟩ := t
      simp only at c1 c2 hpt
      obtain ⟨m, hm⟩ : ∃ m, ((n, tg) :: r : List Tg).length = m := ⟨_, rfl⟩
      have hm1 : (0 : Int) < (m : Int) := by rw [← hm]; simp
      have hm2 : (m : Int) ≤ 140737488355328 := by omega
      have ha1 := (Below.refl W0.heap.size W0).alloc (Nat.le_refl _) (.cells #[.int .i64 n, .string (bs tg)] 82)
      have ha2 := ha1.alloc ha1.size (.cells #[.int .i64 g, .int .i64 n] 94)
      have hR := ringCheck_nil g n x tg _ (HEn.out _ ha2) hpt
      have HA2 : Hid (_) := ha2
      rw [hm] at *
      clear hT0 hp hpt ha1 ha2 hm hll
      go_wp2_with (first | (go_at_call 31; refine hR.mono ?_; clear hR; rintro e w1 ⟨rfl, hb1⟩))
      exact bodyPost_ret (v := .int .i64 7) (by simp [results, Tryz.f30, go_sem]) rfl ⟨by rw [HR7.out], HB0.out.trans ((HA2.out.trans (hb1.mono HA2.out.size)).mono HB0.out.size)⟩
end Go.Proofs.YtifalaigfinciaaGreatDoor
