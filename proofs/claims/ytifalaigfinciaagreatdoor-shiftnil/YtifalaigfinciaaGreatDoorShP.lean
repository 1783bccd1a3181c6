/- What a view begins with, plain. -/
import Derived.Test.YtifalaigfinciaaGreatDoorShB
namespace Go.Proofs.YtifalaigfinciaaGreatDoor
open Go.RowKit

/-- A best order: its number, view, text, group, and the tags as they lie. -/
structure Bv where
  n : Int
  v : Int
  t : List UInt8
  g : Int
  ta : Option Addr
  tn : Nat
  tc : Nat
/-- A change: its view, low, mark and bests, and these as they lie. -/
structure Cv where
  v : Int
  low : Int
  mt : List UInt8
  mg : Int
  ma : Option Addr
  mn : Nat
  mc : Nat
  bv : Value
  bl : List Bv
def allB (L : List Cv) : List Bv := L.flatMap (·.bl)
def maxL (a : Int) (L : List Cv) : Int := L.foldl (fun a c => max a c.low) a
def maxN (a : Int) (l : List Bv) : Int := l.foldl (fun a b => max a b.n) a
def pickI (n : Int) (o : Option Bv) (b : Bv) : Bool := decide (b.n = n) && (match o with | none => true | some x => decide (x.v < b.v))
def pick1 (n : Int) (o : Option Bv) (b : Bv) : Option Bv := if pickI n o b = true then some b else o
def pick (n : Int) (o : Option Bv) (l : List Bv) : Option Bv := l.foldl (pick1 n) o
def btxt : Option Bv → List UInt8
  | none => []
  | some b => b.t
def batchL (L : List Cv) (n : Int) : List UInt8 := (sreadV (btxt (pick n none (allB L)))).2.2.2.2
def lowL (L : List Cv) : Int := min (maxL 0 L) 1099511627776
def lastL (L : List Cv) : Int := min (maxN 0 (allB L)) (lowL L + 8)
def numsL (a b : Int) : List Int := (List.range (b - a).toNat).map fun (i : Nat) => a + 1 + (i : Int)
def fillsL (L : List Cv) : List (Int × List UInt8) := (numsL (lowL L) (lastL L)).map fun n => (n, batchL L n)

theorem maxL_ge (a : Int) (L : List Cv) : a ≤ maxL a L := by
  induction L generalizing a with
  | nil => exact Int.le_refl _
  | cons c L ih => exact Int.le_trans (by show a ≤ max a c.low; omega) (ih _)
theorem maxL_mem {L : List Cv} : ∀ (a : Int) (c : Cv), c ∈ L → c.low ≤ maxL a L := by
  induction L with
  | nil => intro a c h; cases h
  | cons d L ih =>
    intro a c h
    rcases List.mem_cons.1 h with rfl | h
    · exact Int.le_trans (by show c.low ≤ max a c.low; omega) (maxL_ge _ L)
    · exact ih _ c h
theorem maxL_le {L : List Cv} {m : Int} : ∀ a : Int, a ≤ m → (∀ c ∈ L, c.low ≤ m) → maxL a L ≤ m := by
  induction L with
  | nil => intro a h _; exact h
  | cons d L ih =>
    intro a h hm
    exact ih _ (by have := hm d (by simp); show max a d.low ≤ m; omega) (fun c hc => hm c (List.mem_cons_of_mem _ hc))
theorem maxN_ge (a : Int) (L : List Bv) : a ≤ maxN a L := by
  induction L generalizing a with
  | nil => exact Int.le_refl _
  | cons c L ih => exact Int.le_trans (by show a ≤ max a c.n; omega) (ih _)
theorem maxN_mem {L : List Bv} : ∀ (a : Int) (c : Bv), c ∈ L → c.n ≤ maxN a L := by
  induction L with
  | nil => intro a c h; cases h
  | cons d L ih =>
    intro a c h
    rcases List.mem_cons.1 h with rfl | h
    · exact Int.le_trans (by show c.n ≤ max a c.n; omega) (maxN_ge _ L)
    · exact ih _ c h
theorem maxN_le {L : List Bv} {m : Int} : ∀ a : Int, a ≤ m → (∀ c ∈ L, c.n ≤ m) → maxN a L ≤ m := by
  induction L with
  | nil => intro a h _; exact h
  | cons d L ih =>
    intro a h hm
    exact ih _ (by have := hm d (by simp); show max a d.n ≤ m; omega) (fun c hc => hm c (List.mem_cons_of_mem _ hc))
theorem pickI_t {n : Int} {o : Option Bv} {b : Bv} (h : pickI n o b = true) : b.n = n ∧ ∀ x, o = some x → x.v < b.v := by
  simp only [pickI, Bool.and_eq_true, decide_eq_true_eq] at h
  refine ⟨h.1, ?_⟩
  rintro x rfl
  simpa using h.2
theorem pickI_f {n : Int} {o : Option Bv} {b : Bv} (h : pickI n o b = false) : b.n ≠ n ∨ ∃ x, o = some x ∧ b.v ≤ x.v := by
  by_cases hn : b.n = n
  · right
    cases o with
    | none => simp [pickI, hn] at h
    | some x => simp [pickI, hn] at h; exact ⟨x, rfl, h⟩
  · exact .inl hn
/-- What is picked: the greatest view of the number. -/
theorem pick_spec (n : Int) : ∀ (l : List Bv) (o : Option Bv),
    (pick n o l = none → o = none ∧ ∀ d ∈ l, d.n ≠ n) ∧
    ∀ b, pick n o l = some b → (o = some b ∨ (b ∈ l ∧ b.n = n)) ∧ (∀ d ∈ l, d.n = n → d.v ≤ b.v) ∧ ∀ x, o = some x → x.v ≤ b.v := by
  intro l
  induction l with
  | nil =>
    intro o
    refine ⟨fun h => ⟨h, by simp⟩, fun b h => ?_⟩
    have h : o = some b := h
    subst h
    exact ⟨.inl rfl, by simp, fun x hx => by injection hx with hx; subst hx; exact Int.le_refl _⟩
  | cons a l ih =>
    intro o
    have e : pick n o (a :: l) = pick n (pick1 n o a) l := rfl
    rw [e]
    obtain ⟨i1, i2⟩ := ih (pick1 n o a)
    cases hp : pickI n o a
    · have hq : pick1 n o a = o := by rw [pick1, hp]; rfl
      rw [hq] at i1 i2 ⊢
      refine ⟨fun h => ?_, fun b h => ?_⟩
      · obtain ⟨ho, hd⟩ := i1 h
        refine ⟨ho, fun d hm => ?_⟩
        rcases List.mem_cons.1 hm with rfl | hm
        · rcases pickI_f hp with h | ⟨x, hx, _⟩
          · exact h
          · rw [ho] at hx; cases hx
        · exact hd d hm
      · obtain ⟨j1, j2, j3⟩ := i2 b h
        refine ⟨?_, ?_, j3⟩
        · rcases j1 with j1 | ⟨j1, j4⟩
          · exact .inl j1
          · exact .inr ⟨List.mem_cons_of_mem _ j1, j4⟩
        · intro d hm hdn
          rcases List.mem_cons.1 hm with rfl | hm
          · rcases pickI_f hp with h | ⟨x, hx, hle⟩
            · exact absurd hdn h
            · exact Int.le_trans hle (j3 x hx)
          · exact j2 d hm hdn
    · have hq : pick1 n o a = some a := by rw [pick1, hp]; rfl
      rw [hq] at i1 i2 ⊢
      obtain ⟨t1, t2⟩ := pickI_t hp
      refine ⟨fun h => ?_, fun b h => ?_⟩
      · cases (i1 h).1
      · obtain ⟨j1, j2, j3⟩ := i2 b h
        have hab := j3 a rfl
        refine ⟨?_, ?_, ?_⟩
        · rcases j1 with j1 | ⟨j1, j4⟩
          · injection j1 with j1
            subst j1
            exact .inr ⟨by simp, t1⟩
          · exact .inr ⟨List.mem_cons_of_mem _ j1, j4⟩
        · intro d hm hdn
          rcases List.mem_cons.1 hm with rfl | hm
          · exact hab
          · exact j2 d hm hdn
        · intro x hx
          have := t2 x hx
          omega
theorem pick_same {l m : List Bv} (n : Int) (hm : ∀ b, b ∈ l ↔ b ∈ m) (H : ∀ b ∈ l, ∀ d ∈ l, d.n = b.n → d.v = b.v → d.t = b.t) : btxt (pick n none l) = btxt (pick n none m) := by
  obtain ⟨a1, a2⟩ := pick_spec n l none
  obtain ⟨b1, b2⟩ := pick_spec n m none
  cases hl : pick n none l with
  | none =>
    cases hk : pick n none m with
    | none => rfl
    | some d =>
      obtain ⟨h | ⟨h, h2⟩, _, _⟩ := b2 d hk
      · cases h
      · exact absurd h2 ((a1 hl).2 d ((hm d).2 h))
  | some b =>
    obtain ⟨h | ⟨h, h2⟩, h3, _⟩ := a2 b hl
    · cases h
    cases hk : pick n none m with
    | none => exact absurd h2 ((b1 hk).2 b ((hm b).1 h))
    | some d =>
      obtain ⟨k | ⟨k, k2⟩, k3, _⟩ := b2 d hk
      · cases k
      have e1 := h3 d ((hm d).2 k) k2
      have e2 := k3 b ((hm b).1 h) h2
      exact (H b h d ((hm d).2 k) (by omega) (by omega)).symm
theorem maxN_same {l m : List Bv} (hm : ∀ b, b ∈ l ↔ b ∈ m) : maxN 0 l = maxN 0 m := by
  have h1 := maxN_le (L := l) (m := maxN 0 m) 0 (maxN_ge 0 m) (fun c hc => maxN_mem 0 c ((hm c).1 hc))
  have h2 := maxN_le (L := m) (m := maxN 0 l) 0 (maxN_ge 0 l) (fun c hc => maxN_mem 0 c ((hm c).2 hc))
  omega
theorem maxL_same {l m : List Cv} (hm : ∀ b, b ∈ l ↔ b ∈ m) : maxL 0 l = maxL 0 m := by
  have h1 := maxL_le (L := l) (m := maxL 0 m) 0 (maxL_ge 0 m) (fun c hc => maxL_mem 0 c ((hm c).1 hc))
  have h2 := maxL_le (L := m) (m := maxL 0 l) 0 (maxL_ge 0 l) (fun c hc => maxL_mem 0 c ((hm c).2 hc))
  omega
theorem allB_mem {L : List Cv} {b : Bv} : b ∈ allB L ↔ ∃ c ∈ L, b ∈ c.bl := by simp [allB]
/-- In which order changes come says nothing. -/
theorem turned_plan {L : List Cv} (H : ∀ b ∈ allB L, ∀ d ∈ allB L, d.n = b.n → d.v = b.v → d.t = b.t) : lowL L.reverse = lowL L ∧ fillsL L.reverse = fillsL L := by
  have hm : ∀ b, b ∈ allB L ↔ b ∈ allB L.reverse := fun b => by simp [allB_mem]
  have e1 : lowL L.reverse = lowL L := by unfold lowL; rw [maxL_same (l := L.reverse) (m := L) (fun b => by simp)]
  have e2 : lastL L.reverse = lastL L := by unfold lastL; rw [e1, maxN_same hm]
  refine ⟨e1, ?_⟩
  unfold fillsL
  rw [e1, e2]
  refine List.map_congr_left fun n _ => ?_
  rw [batchL, batchL, pick_same n hm H]
/-- Nothing that most hold is lost. -/
theorem lost_plan {L : List Cv} {N V O : Int} {G : List UInt8} {batch : List UInt8} (hN : 1 ≤ N) (hN8 : N ≤ 8) (hO : O < V)
    (hl : ∀ c ∈ L, c.low = 0) (hb : ∀ b ∈ allB L, b.n = N ∧ ((b.v = V ∧ b.t = G) ∨ b.v = O)) (hx : ∃ b ∈ allB L, b.v = V) (hG : (sreadV G).2.2.2.2 = batch) :
    lowL L = 0 ∧ (fillsL L).length = N.toNat ∧ (fillsL L)[N.toNat - 1]? = some (N, batch) := by
  have e0 : maxL 0 L = 0 := by
    have h1 := maxL_le (L := L) (m := 0) 0 (Int.le_refl _) (fun c hc => by rw [hl c hc]; exact Int.le_refl _)
    have h2 := maxL_ge 0 L
    omega
  have e1 : lowL L = 0 := by rw [lowL, e0]; rfl
  obtain ⟨x, hxm, hxv⟩ := hx
  have e2 : maxN 0 (allB L) = N := by
    have h1 := maxN_le (L := allB L) (m := N) 0 (by omega) (fun c hc => by rw [(hb c hc).1]; exact Int.le_refl _)
    have h2 := maxN_mem 0 x hxm
    rw [(hb x hxm).1] at h2
    omega
  have e3 : lastL L = N := by rw [lastL, e1, e2]; omega
  have e4 : fillsL L = (numsL 0 N).map fun n => (n, batchL L n) := by rw [fillsL, e1, e3]
  have e5 : batchL L N = batch := by
    obtain ⟨a1, a2⟩ := pick_spec N (allB L) none
    rw [batchL]
    cases hp : pick N none (allB L) with
    | none => exact absurd (hb x hxm).1 ((a1 hp).2 x hxm)
    | some b =>
      obtain ⟨h | ⟨h, h2⟩, h3, _⟩ := a2 b hp
      · cases h
      have h4 := h3 x hxm (hb x hxm).1
      rcases (hb b h).2 with ⟨_, h5⟩ | h5
      · show (sreadV b.t).2.2.2.2 = _
        rw [h5]; exact hG
      · omega
  refine ⟨e1, ?_, ?_⟩
  · rw [e4]; simp [numsL]
  · rw [e4]
    have : (N.toNat - 1) < N.toNat := by omega
    simp only [numsL, List.getElem?_map, Int.sub_zero, List.getElem?_range this, Option.map_some]
    have h6 : (0 : Int) + 1 + ((N.toNat - 1 : Nat) : Int) = N := by omega
    rw [h6, e5]
end Go.Proofs.YtifalaigfinciaaGreatDoor
