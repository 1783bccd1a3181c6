/- reeve: which rulings are one chain's, walked. -/
import Derived.Test.YtcehmaegnfelhaaCeC
import Derived.Deep.AppendLies
import Derived.BigRegion
import Derived.Deep.RegionHeld3
namespace Go.Proofs.Ytcehmaegnfelhaa
open Go.RowKit
attribute [local go_sem ↓] Go.wp_at_zero Go.wp_at_succ

/-- A slice of structs. -/
def SlF {α : Type} (f : α → List Value) (s : Nat) (w : World) (v : Value) (l : List α) : Prop :=
  (l = [] ∧ ∃ a c, v = .slice a 0 c) ∨ ∃ b o c, v = .slice (some ⟨b, o, none⟩) l.length c ∧ b < w.heap.size ∧ ∀ i a, l[i]? = some a → ∀ k u, (f a)[k]? = some u → w.cell? ⟨b, o + i * s + k, none⟩ = some u
theorem SlF.on {α : Type} {f : α → List Value} {s : Nat} {w w' : World} {v : Value} {l : List α} (h : SlF f s w v l) {n : Nat} (hb : Below n w w') (hn : w.heap.size ≤ n) : SlF f s w' v l := by
  rcases h with h | ⟨b, o, c, rfl, hlt, h⟩
  · exact .inl h
  · exact .inr ⟨b, o, c, rfl, Nat.lt_of_lt_of_le hlt hb.size, fun i a ha k u hu => (hb.cell (p := ⟨b, o + i * s + k, none⟩) (by show b < n; omega)).trans (h i a ha k u hu)⟩
theorem SlF.slice {α : Type} {f : α → List Value} {s : Nat} {w : World} {v : Value} {l : List α} (h : SlF f s w v l) : ∃ a c, v = .slice a l.length c := by
  rcases h with ⟨rfl, a, c, rfl⟩ | ⟨b, o, c, rfl, _⟩
  · exact ⟨a, c, rfl⟩
  · exact ⟨_, _, rfl⟩
theorem SlF.at {α : Type} {f : α → List Value} {s : Nat} {w : World} {a : Option Addr} {n c : Nat} {l : List α} (h : SlF f s w (.slice a n c) l) {i : Nat} {x : α} (hx : l[i]? = some x) :
    ∃ b o, a = some ⟨b, o, none⟩ ∧ b < w.heap.size ∧ ∀ k u, (f x)[k]? = some u → w.cell? ⟨b, o + i * s + k, none⟩ = some u := by
  rcases h with ⟨rfl, _⟩ | ⟨b, o, cap, hv, hlt, h⟩
  · cases hx
  · injection hv with h1 _ _
    exact ⟨b, o, h1, hlt, fun k u hu => h i x hx k u hu⟩
/-- A ruling: whose, which, what was asked, what was answered. -/
structure Ru where
  cl : Int
  no : Int
  k : Int
  g : Int
  s : Int
  er : Int
def rul (r : Ru) : List Value := [.int .i64 r.cl, .int .i64 r.no, .int .i64 r.k, .int .i64 r.g, .int .i64 r.s, .int .i64 r.er]
abbrev Cfs := List (List Nat × List Nat)
/-- A chain's configurations behind the first n rulings. -/
def rcN (l : List Ru) : Nat → Cfs
  | 0 => []
  | n + 1 => match l[n]? with
    | some r => doC (rcN l n) r.k r.g r.s
    | none => rcN l n
theorem rcN_at {l : List Ru} {n : Nat} {r : Ru} (h : l[n]? = some r) : rcN l (n + 1) = doC (rcN l n) r.k r.g r.s := by rw [rcN, h]
/-- Is a ruling not as the chain answers? -/
def rBad (l : List Ru) (n : Nat) : Bool := match l[n]? with
  | some r => decide (doE (rcN l n) r.k r.g r.s ≠ r.er)
  | none => false
theorem rBad_at {l : List Ru} {n : Nat} {r : Ru} (h : l[n]? = some r) : rBad l n = decide (doE (rcN l n) r.k r.g r.s ≠ r.er) := by rw [rBad, h]
theorem doC_le {cs : Cfs} {k g s : Int} (h : cs.length ≤ 40) : (doC cs k g s).length ≤ 40 := by
  unfold doC
  by_cases e : doE cs k g s = 0
  · rw [if_pos e, List.length_append]
    have : ¬ 40 ≤ cs.length := fun h' => by
      rw [doE, if_pos h'] at e
      cases e
    show cs.length + 1 ≤ 40
    omega
  · rw [if_neg e]; exact h
theorem rcN_le (l : List Ru) : ∀ n, (rcN l n).length ≤ 40
  | 0 => by show 0 ≤ 40; omega
  | n + 1 => by
    have := rcN_le l n
    cases h : l[n]? with
    | none => rw [rcN, h]; exact this
    | some r => rw [rcN_at h]; exact doC_le this
theorem ChAt.kb {base : Nat} {w : World} {B : Nat} {v : Value} {l : List Rc} (h : ChAt base w B v l) {W : World} (hk : Kb B v w W) : Below base w W :=
  ⟨hk.os, hk.tape, hk.output, hk.size, fun k hk2 => hk.block k (by have := h.lt; have := h.low; omega) (by have := h.low; omega) (fun e => by have := (h.own.lt k e).1; omega)⟩
/-- What ruled tells. -/
def RuPost (l : List Ru) (w : World) (e : Ending) (W' : World) : Prop :=
  (∃ B v lc, (∀ i, i < l.length → rBad l i = false) ∧ e = .returned (.tuple #[.func (.func 34) #[.pointer (some ⟨B, 0, none⟩)] #[], .int .i64 (-1)]) ∧ cls lc = rcN l l.length ∧ ChAt w.heap.size W' B v lc) ∨
  (∃ i : Nat, i < l.length ∧ rBad l i = true ∧ (∀ j, j < i → rBad l j = false) ∧ e = .returned (.tuple #[.nilFunc, .int .i64 i]))
set_option maxRecDepth 20000 in
set_option maxHeartbeats 2000000 in
theorem ruled_any (l : List Ru) (v : Value) (w : World) (hv : SlF rul 6 w v l) (hl : l.length ≤ 500) : Calls Try.prog 26 #[v] w fun e W' => RuPost l w e W' ∧ Below w.heap.size w W' := by
  obtain ⟨va, vc, rfl⟩ := hv.slice
  have hNew := New_any w
  obtain ⟨N, hN⟩ : ∃ N, w.heap.size = N := ⟨_, rfl⟩
  have HP : Hid (∀ e W', RuPost l w e W' ↔ ((∃ B v lc, (∀ i, i < l.length → rBad l i = false) ∧ e = .returned (.tuple #[.func (.func 34) #[.pointer (some ⟨B, 0, none⟩)] #[], .int .i64 (-1)]) ∧ cls lc = rcN l l.length ∧ ChAt N W' B v lc) ∨ (∃ i : Nat, i < l.length ∧ rBad l i = true ∧ (∀ j, j < i → rBad l j = false) ∧ e = .returned (.tuple #[.nilFunc, .int .i64 i])))) := fun e W' => by rw [RuPost, hN]
  rw [hN] at hNew
  have HN : Hid (w.heap.size = N) := hN
  have HV : Hid (∀ W, Below N w W → SlF rul 6 W (.slice va l.length vc) l) := fun W hW => hv.on hW (by omega)
  have HL : Hid (l.length ≤ 500) := hl
  clear hv hN hl
  go_enter Try.func26, Try.ntmps26
  go_upto_region 2 with (go_at_call 14; refine hNew.mono ?_; clear hNew; rintro e w1 ⟨rfl, hC, hB⟩)
  have HC : Hid (ChAt N w1 N (.slice none 0 0) [] ∧ Below N w w1) := ⟨hC, hB⟩
  clear hC hB
  go_wp2_with fail
  go_loopg [10] l.length (fun gk j wr => ∃ (n : Nat) (cv : Value) (lc : List Rc), n + gk = l.length ∧ j = .int .i64 n ∧ (∀ i, i < n → rBad l i = false) ∧ cls lc = rcN l n ∧ ChAt N wr N cv lc ∧ Below N w wr)
  case atStart => exact ⟨0, _, [], by omega, rfl, fun i hi => by omega, rfl, HC.out.1, HC.out.2⟩
  case round =>
    obtain ⟨n, cv, lc, hnn, rfl, hok, hcl, hC, hB⟩ := hrel
    by_cases hn1 : n = l.length
    · subst hn1
      have HF : Hid (_ ∧ _ ∧ _ ∧ _) := ⟨hok, hcl, hC, hB⟩
      clear hok hcl hC hB HV HC
      go_wp2
      refine bodyPost_ret (v := .tuple #[.func (.func 34) #[.pointer (some ⟨N, 0, none⟩)] #[], .int .i64 (-1)]) (by simp [results, Try.f26, go_sem]) rfl ⟨(HP.out _ _).2 (.inl ⟨N, cv, lc, HF.out.1, rfl, HF.out.2.1, HF.out.2.2.1⟩), ?_⟩
      rw [HN.out]
      exact HF.out.2.2.2
    · have hn2 : n < l.length := by omega
      obtain ⟨r, ho⟩ : ∃ r, l[n]? = some r := ⟨_, List.getElem?_eq_getElem hn2⟩
      have hb1 := rBad_at ho
      have hrc := rcN_at ho
      have hle := rcN_le l n
      obtain ⟨g0, e', hg', -, y⟩ := (HV.out _ hB).at ho
      subst hg'
      obtain ⟨cl, no, k, g, s, er⟩ := r
      have y0 : wr.cell? ⟨g0, e' + n * 6, none⟩ = some (.int .i64 cl) := y 0 _ rfl
      have y1 : wr.cell? ⟨g0, e' + n * 6 + 1, none⟩ = some (.int .i64 no) := y 1 _ rfl
      have y2 : wr.cell? ⟨g0, e' + n * 6 + 2, none⟩ = some (.int .i64 k) := y 2 _ rfl
      have y3 : wr.cell? ⟨g0, e' + n * 6 + 3, none⟩ = some (.int .i64 g) := y 3 _ rfl
      have y4 : wr.cell? ⟨g0, e' + n * 6 + 4, none⟩ = some (.int .i64 s) := y 4 _ rfl
      have y5 : wr.cell? ⟨g0, e' + n * 6 + 5, none⟩ = some (.int .i64 er) := y 5 _ rfl
      have d0 : (0 : Int) ≤ (n : Int) := by omega
      have d1 : (n : Int) < (l.length : Int) := by omega
      have hnb : n ≤ 500 := by have := HL.out; omega
      obtain ⟨D, hD⟩ : ∃ D, wr.heap.size = D := ⟨_, rfl⟩
      have hDN : N < D := by have := hC.lt; omega
      have rD := heap_alloc_new wr (.cells #[.int .i64 cl, .int .i64 no, .int .i64 k, .int .i64 g, .int .i64 s, .int .i64 er] 45)
      have hbA := (Below.refl wr.heap.size wr).alloc (Nat.le_refl _) (.cells #[.int .i64 cl, .int .i64 no, .int .i64 k, .int .i64 g, .int .i64 s, .int .i64 er] 45)
      obtain ⟨WA, hWA⟩ : ∃ W, wr.alloc (.cells #[.int .i64 cl, .int .i64 no, .int .i64 k, .int .i64 g, .int .i64 s, .int .i64 er] 45) = W := ⟨_, rfl⟩
      rw [hWA] at rD hbA
      have hCA := hC.next hbA
      have hne : cv.ownBlock ≠ some D := fun e => by have := (hC.own.lt D e).2; omega
      rw [hD] at rD hbA
      have hBA : Below N w WA := hB.trans (hbA.mono (by omega))
      have hzA : WA.heap.size = D + 1 := by rw [← hWA, World.size_alloc, hD]
      have hDo := Do2_any k g s N N cv lc
      have hcll : lc.length ≤ 40 := by rw [← cls_len, hcl]; exact hle
      rw [hcl] at hDo
      obtain ⟨E, hE⟩ : ∃ E, doE (rcN l n) k g s = E := ⟨_, rfl⟩
      rw [hE] at hDo
      have hb2 : rBad l n = decide (E ≠ er) := by rw [hb1]; show decide (doE (rcN l n) k g s ≠ er) = _; rw [hE]
      have HDO : Hid (∀ W, Below (D + 1) WA W → Calls Try.prog 15 #[.pointer (some ⟨N, 0, none⟩), .agg #[.int .i64 k, .int .i64 g, .int .i64 s]] W fun e W' => e = .returned (.int .i64 E) ∧ (∃ v' l', cls l' = rcN l (n + 1) ∧ ChAt N W' N v' l') ∧ Below N w W' ∧ W'.heap[D]? = some (.cells #[.int .i64 cl, .int .i64 no, .int .i64 k, .int .i64 g, .int .i64 s, .int .i64 er] 45)) := fun W hW => by
        have hCW := hCA.next (by rw [hzA]; exact hW)
        refine (hDo W hCW (by omega)).mono fun e W' hh => ?_
        obtain ⟨h1, v', l', h2, h3, h4, h5, h6⟩ := hh
        have hbk := hCW.kb h4
        refine ⟨h1, ⟨v', l', ?_, h3⟩, (hBA.trans (hW.mono (by omega))).trans hbk, ?_⟩
        · rw [h2, hrc, hcl]
        · exact (h4.block D (by have := hW.size; omega) (by omega) hne).trans ((hW.block D (by omega)).trans rD)
      have HWA : Hid (wr.alloc (.cells #[.int .i64 cl, .int .i64 no, .int .i64 k, .int .i64 g, .int .i64 s, .int .i64 er] 45) = WA) := hWA
      have HD : Hid (wr.heap.size = D) := hD
      have HOK : Hid ((∀ i, i < n → rBad l i = false) ∧ rBad l n = decide (E ≠ er)) := ⟨hok, hb2⟩
      have HSA : Hid (WA.heap[D]? = some (.cells #[.int .i64 cl, .int .i64 no, .int .i64 k, .int .i64 g, .int .i64 s, .int .i64 er] 45)) := rD
      clear hok hcl hC hB ho hb1 hrc hle y hD hDN rD hbA hWA hCA hne hBA hzA hDo hcll hE hb2
      go_upto_region 5 with fail
      rw [HWA.out]
      try rw [HD.out]
      clear y0 y1 y2 y3 y4 y5 HWA HD
      refine region_Z 99 (fun w' => w'.heap[D]? = some (.cells #[.int .i64 cl, .int .i64 no, .int .i64 k, .int .i64 g, .int .i64 s, .int .i64 er] 45)) (by kernel_rfl) ?_
      have hS0 : WA.drew.heap[D]? = some (.cells #[.int .i64 cl, .int .i64 no, .int .i64 k, .int .i64 g, .int .i64 s, .int .i64 er] 45) := HSA.out
      refine Y_take (i := 0) (v := ?_) rfl (by kernel_rfl) (by kernel_rfl) (by kernel_rfl) (by kernel_rfl) (fun _ _ _ h => h) (by rfl) hS0 ?_ ?_
      rotate_left
      · (intro w' hSw; go_simp; (try with_reducible rfl))
      simp only [Act.put]
      refine Y_take (i := 1) (v := ?_) rfl (by kernel_rfl) (by kernel_rfl) (by kernel_rfl) (by kernel_rfl) (fun _ _ _ h => h) (by rfl) hS0 ?_ ?_
      rotate_left
      · (intro w' hSw; go_simp; (try with_reducible rfl))
      simp only [Act.put]
      refine Y_take (i := 2) (v := ?_) rfl (by kernel_rfl) (by kernel_rfl) (by kernel_rfl) (by kernel_rfl) (fun _ _ _ h => h) (by rfl) hS0 ?_ ?_
      rotate_left
      · (intro w' hSw; have e0 := cellB hSw 0 _ rfl; have e1 := cellB hSw 1 _ rfl; have e2 := cellB hSw 2 _ rfl; have e3 := cellB hSw 3 _ rfl; have e4 := cellB hSw 4 _ rfl; have e5 := cellB hSw 5 _ rfl; go_simp; (try with_reducible rfl))
      simp only [Act.put]
      refine Y_take (i := 4) (v := ?_) rfl (by kernel_rfl) (by kernel_rfl) (by kernel_rfl) (by kernel_rfl) (fun _ _ _ h => h) (by rfl) hS0 ?_ ?_
      rotate_left
      · (intro w' hSw; go_simp; (try with_reducible rfl))
      simp only [Act.put]
      refine Y_take (i := 5) (v := ?_) rfl (by kernel_rfl) (by kernel_rfl) (by kernel_rfl) (by kernel_rfl) (fun _ _ _ h => h) (by rfl) hS0 ?_ ?_
      rotate_left
      · (intro w' hSw; have e0 := cellB hSw 0 _ rfl; have e1 := cellB hSw 1 _ rfl; have e2 := cellB hSw 2 _ rfl; have e3 := cellB hSw 3 _ rfl; have e4 := cellB hSw 4 _ rfl; have e5 := cellB hSw 5 _ rfl; go_simp; (try with_reducible rfl))
      simp only [Act.put]
      refine Z_step (i := 3) (by kernel_rfl) rfl (fun K hK => ?_)
      go_simp
      refine (HDO.out _ (below_drew (Below.refl _ _))).mono ?_
      rintro e w2 ⟨rfl, ⟨v', l', h2, h3⟩, hB2, hS2⟩
      refine hK _ _ (fun _ => hS2) ?_
      clear hK K
      refine Z_step (i := 6) (by kernel_rfl) rfl (fun K hK => ?_)
      go_simp
      refine hK _ _ (fun _ => hS2) (Z_done (by kernel_rfl) ?_ _)
      clear hK K
      by_cases he : E = er
      all_goals go_wp2_with fail
      · have hee : rBad l n = false := by rw [HOK.out.2]; simpa using he
        have hok2 : ∀ i, i < n + 1 → rBad l i = false := by
          intro i hi
          rcases Nat.lt_or_ge i n with h | h
          · exact HOK.out.1 i h
          · have : i = n := by omega
            subst this; exact hee
        go_roundg (l.length - (n + 1))
        case measure => omega
        case rel => exact ⟨n + 1, v', l', by omega, by go_num, hok2, h2, h3, hB2⟩
      · refine bodyPost_ret (v := .tuple #[.nilFunc, .int .i64 n]) (by simp [results, Try.f26, go_sem]) rfl ⟨(HP.out _ _).2 (.inr ⟨n, hn2, ?_, HOK.out.1, rfl⟩), ?_⟩
        · rw [HOK.out.2]; simpa using he
        · rw [HN.out]; exact hB2
end Go.Proofs.Ytcehmaegnfelhaa
