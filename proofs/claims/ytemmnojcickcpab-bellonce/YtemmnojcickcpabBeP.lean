/- The law BellOnce: the bell beside a plain array of moments. -/
import Derived.Test.YtemmnojcickcpabBeL
import Derived.Test.YtemmnojcickcpabBeS
namespace Go.Proofs.Ytemmnojcickcpab
open Go.RowKit

/-- The moments, as cells: 0 where there is none. -/
def dcs (G : Ft) : Array Value := #[.int .i64 (dueV (G 0)), .int .i64 (dueV (G 1)), .int .i64 (dueV (G 2)), .int .i64 (dueV (G 3)), .int .i64 (dueV (G 4)), .int .i64 (dueV (G 5)), .int .i64 (dueV (G 6)), .int .i64 (dueV (G 7)), .int .i64 (dueV (G 8)), .int .i64 (dueV (G 9)), .int .i64 (dueV (G 10)), .int .i64 (dueV (G 11)), .int .i64 (dueV (G 12)), .int .i64 (dueV (G 13)), .int .i64 (dueV (G 14)), .int .i64 (dueV (G 15))]
theorem dcs_at (G : Ft) (k : Nat) (h : k < 16) : (dcs G)[k]? = some (.int .i64 (dueV (G k))) := by
  match k, h with
  | 0, _ => rfl
  | 1, _ => rfl
  | 2, _ => rfl
  | 3, _ => rfl
  | 4, _ => rfl
  | 5, _ => rfl
  | 6, _ => rfl
  | 7, _ => rfl
  | 8, _ => rfl
  | 9, _ => rfl
  | 10, _ => rfl
  | 11, _ => rfl
  | 12, _ => rfl
  | 13, _ => rfl
  | 14, _ => rfl
  | 15, _ => rfl
  | n + 16, h => omega
theorem dcs_size (G : Ft) : (dcs G).size = 16 := rfl
theorem dcs_set (G : Ft) (k : Nat) (h : k < 16) (x : Option (Int × Int)) : (dcs G).setIfInBounds k (.int .i64 (dueV x)) = dcs (upd G k x) := by
  apply Array.ext_getElem?
  intro i
  rw [Array.getElem?_setIfInBounds]
  by_cases hi : i < 16
  · rw [dcs_at _ i hi]
    by_cases e : k = i
    · subst e
      rw [if_pos rfl, dcs_size, if_pos h, dcs_at _ k hi, upd_at]
    · rw [if_neg e, dcs_at _ i hi]
      have : upd G k x i = G i := by unfold upd; rw [if_neg (by omega)]
      rw [this]
  · have e : ∀ H, (dcs H)[i]? = none := fun H => by simp [dcs_size]; omega
    rw [e, e, if_neg (by omega)]
/-- The bell at B, the array at D: in the one F, in the other G. -/
structure On (w0 : World) (B D : Nat) (v : Value) (F G : Ft) (now : Int) (w : World) : Prop where
  bell : BelSt B w B v F now
  arr : w.heap[D]? = some (.cells (dcs G) 26)
  ne : D ≠ B
  own : v.ownBlock ≠ some D
  bel : Below B w0 w
  ge : B ≤ D
  n0 : 0 ≤ now
  n1 : now ≤ 1099511627776
theorem On.ltD {w0 w : World} {B D : Nat} {v : Value} {F G : Ft} {now : Int} (h : On w0 B D v F G now w) : D < w.heap.size := (Array.getElem?_eq_some_iff.1 h.arr).1
theorem On.ltB {w0 w : World} {B D : Nat} {v : Value} {F G : Ft} {now : Int} (h : On w0 B D v F G now w) : B ≤ w.heap.size := Nat.le_of_lt h.bell.lt
theorem On.next {w0 w w' : World} {B D : Nat} {v : Value} {F G : Ft} {now : Int} (h : On w0 B D v F G now w) (hb : Below w.heap.size w w') : On w0 B D v F G now w' :=
  ⟨h.bell.next hb, (hb.block D h.ltD).trans h.arr, h.ne, h.own, h.bel.trans (hb.mono h.ltB), h.ge, h.n0, h.n1⟩
theorem On.moved {w0 w w' : World} {B D : Nat} {v v' : Value} {F F' G : Ft} {now now' : Int} (h : On w0 B D v F G now w) (hs : BelSt B w' B v' F' now') (hm : Moved B v v' w w') (n0 : 0 ≤ now') (n1 : now' ≤ 1099511627776) : On w0 B D v' F' G now' w' :=
  ⟨hs, hm.far h.ltD h.ne h.own h.arr, h.ne, fun e => by rcases hm.own D e with e | e; exact h.own e; have := h.ltD; omega, h.bel.trans (h.bell.bel hm (Nat.le_refl _)), h.ge, n0, n1⟩
theorem On.put {w0 w : World} {B D : Nat} {v : Value} {F G : Ft} {now : Int} (h : On w0 B D v F G now w) (k : Nat) (hk : k < 16) (x : Option (Int × Int)) : On w0 B D v F (upd G k x) now (w.setCell ⟨D, k, none⟩ (.int .i64 (dueV x))) := by
  have hb : ∀ i, i ≠ D → (w.setCell ⟨D, k, none⟩ (.int .i64 (dueV x))).heap[i]? = w.heap[i]? := fun i hi => set_far hi _ _
  refine ⟨?_, ?_, h.ne, h.own, ?_, h.ge, h.n0, h.n1⟩
  · obtain ⟨l, h1, h2, h3⟩ := h.bell
    exact ⟨l, h1.keep (hb B (Ne.symm h.ne)) (fun i hi => hb i (fun e => h.own (by rw [← e]; exact hi))), h2, h3⟩
  · rw [setB h.arr, dcs_set G k hk]
  · refine h.bel.trans ⟨rfl, rfl, rfl, by simp [World.setCell], fun i hi => hb i ?_⟩
    have := h.ge
    omega
theorem On.cell {w0 w : World} {B D : Nat} {v : Value} {F G : Ft} {now : Int} (h : On w0 B D v F G now w) (k : Nat) (hk : k < 16) : w.cell? ⟨D, k, none⟩ = some (.int .i64 (dueV (G k))) := cellB h.arr k _ (dcs_at G k hk)
theorem On.frozen {w0 w : World} {B D : Nat} {v : Value} {F G : Ft} {now : Int} (h : On w0 B D v F G now w) (k : Nat) : w.frozen? ⟨D, k, none⟩ = false := frozenB h.arr k
theorem On.now {w0 w : World} {B D : Nat} {v : Value} {F G : Ft} {now : Int} (h : On w0 B D v F G now w) : Calls Try.prog 9 #[.pointer (some ⟨B, 0, none⟩)] w fun e W' => e = .returned (.int .i64 now) ∧ W' = w := Now_any h.bell
theorem On.set {w0 w : World} {B D : Nat} {v : Value} {F G : Ft} {now : Int} (h : On w0 B D v F G now w) (n s : Int) (hn : nameB n = true) (h1 : 1 ≤ s) (h2 : s ≤ 4096) :
    Calls Try.prog 8 #[.pointer (some ⟨B, 0, none⟩), .int .i64 n, .int .i64 s] w fun e W' => e = .returned (.int .i64 0) ∧ ∃ v', On w0 B D v' (upd F n (some (now + s, s))) G now W' ∧ Moved B v v' w W' := by
  refine (Set_ok h.bell n s hn h1 h2 h.n0 h.n1).mono ?_
  rintro e W' ⟨he, v', h2, hm⟩
  exact ⟨he, v', h.moved h2 hm h.n0 h.n1, hm⟩
theorem On.off {w0 w : World} {B D : Nat} {v : Value} {F G : Ft} {now : Int} (h : On w0 B D v F G now w) (n : Int) (hn : nameB n = true) :
    Calls Try.prog 10 #[.pointer (some ⟨B, 0, none⟩), .int .i64 n] w fun e W' => e = .returned (.tuple #[.bool (F n).isSome, .int .i64 0]) ∧ ∃ v', On w0 B D v' (upd F n none) G now W' ∧ Moved B v v' w W' := by
  refine (Off_ok h.bell n hn).mono ?_
  rintro e W' ⟨he, v', h2, hm⟩
  exact ⟨he, v', h.moved h2 hm h.n0 h.n1, hm⟩
theorem On.double {w0 w : World} {B D : Nat} {v : Value} {F G : Ft} {now : Int} (h : On w0 B D v F G now w) (n d s : Int) (hn : nameB n = true) (hF : F n = some (d, s)) :
    Calls Try.prog 11 #[.pointer (some ⟨B, 0, none⟩), .int .i64 n] w fun e W' => e = .returned (.tuple #[.int .i64 (twice s), .int .i64 0]) ∧ ∃ v', On w0 B D v' (upd F n (some (now + twice s, twice s))) G now W' ∧ Moved B v v' w W' := by
  refine (Double_ok h.bell n d s hn hF h.n0 h.n1).mono ?_
  rintro e W' ⟨he, v', h2, hm⟩
  exact ⟨he, v', h.moved h2 hm h.n0 h.n1, hm⟩
theorem On.tick {w0 w : World} {B D : Nat} {v : Value} {F G : Ft} {now : Int} (h : On w0 B D v F G now w) (b : Int) (h1 : 0 ≤ b) (h2 : b ≤ 4096) (hl : now + b ≤ 1099511627776) :
    Calls Try.prog 12 #[.pointer (some ⟨B, 0, none⟩), .int .i64 b] w fun e W' => ∃ u P v', e = .returned (.tuple #[u, .int .i64 0]) ∧ W'.ownsRow w.heap.size 3 1 u P.length (mcs P) ∧ Rings F (now + b) P ∧ On w0 B D v' (late F (now + b)) G (now + b) W' ∧ Moved B v v' w W' := by
  refine (Tick_ok h.bell b h1 h2 h.n0 hl).mono ?_
  rintro e W' ⟨u, P, v', he, ho, hr, h2, hm⟩
  exact ⟨u, P, v', he, ho, hr, h.moved h2 hm (by have := h.n0; omega) hl, hm⟩

/-- Every moment is a moment. -/
def Pos (F : Ft) : Prop := ∀ n d s, F n = some (d, s) → 1 ≤ d ∧ 0 ≤ n ∧ n < 16 ∧ 1 ≤ s ∧ s ≤ 4096
theorem Pos.upd {F : Ft} (h : Pos F) {n d s : Int} (hd : 1 ≤ d) (hn : 0 ≤ n ∧ n < 16) (hs : 1 ≤ s ∧ s ≤ 4096) : Pos (upd F n (some (d, s))) := by
  intro m d' s' hm
  unfold Ytemmnojcickcpab.upd at hm
  split at hm
  · injection hm with hm; injection hm with e1 e2; omega
  · exact h m d' s' hm
theorem Pos.off {F : Ft} (h : Pos F) (n : Int) : Pos (Ytemmnojcickcpab.upd F n none) := by
  intro m d' s' hm
  unfold Ytemmnojcickcpab.upd at hm
  split at hm
  · cases hm
  · exact h m d' s' hm
theorem late_some {F : Ft} {now n d s : Int} (h : late F now n = some (d, s)) : F n = some (d, s) ∧ now < d := by
  unfold late at h
  split at h
  · split at h
    · cases h
    · injection h with h; injection h with e1 e2; subst e1 e2; exact ⟨by assumption, by omega⟩
  · cases h
theorem Pos.late {F : Ft} (h : Pos F) (now : Int) : Pos (late F now) := fun m d' s' hm => h m d' s' (late_some hm).1
/-- What is left of G where these have rung. -/
def cut (G : Ft) (ns : List Int) : Ft := fun n => if n ∈ ns then none else G n
theorem cut_nil (G : Ft) : cut G [] = G := by funext n; simp [cut]
theorem cut_snoc (G : Ft) (ns : List Int) (k : Int) : upd (cut G ns) k none = cut G (ns ++ [k]) := by
  funext n
  unfold upd cut
  by_cases h : n = k <;> simp [h]
theorem cut_all {F : Ft} {now : Int} {P : List Tm} (h : Rings F now P) : cut F (P.map (·.1)) = late F now := by
  funext n
  unfold cut late
  cases hF : F n with
  | none =>
    split <;> rfl
  | some x =>
    obtain ⟨d, s⟩ := x
    by_cases hd : d ≤ now
    · have := (h.mem n d s).2 ⟨hF, hd⟩
      rw [if_pos (List.mem_map.2 ⟨_, this, rfl⟩)]
      simp [hd]
    · rw [if_neg]
      · simp [hd]
      intro hm
      obtain ⟨⟨n', d', s'⟩, ht, e⟩ := List.mem_map.1 hm
      simp only at e
      subst e
      have := (h.mem n' d' s').1 ht
      rw [hF] at this
      obtain ⟨e1, e2⟩ := this
      injection e1 with e1; injection e1 with e1 _
      omega
/-- The k'th that rings hasn't rung ahead of that. -/
theorem rings_new {F : Ft} {now : Int} {P : List Tm} (h : Rings F now P) {k : Nat} {t : Tm} (hk : P[k]? = some t) : cut F ((P.take k).map (·.1)) t.1 = some (t.2.1, t.2.2) ∧ t.2.1 ≤ now := by
  obtain ⟨n, d, s⟩ := t
  have hm := (h.mem n d s).1 (List.mem_of_getElem? hk)
  refine ⟨?_, hm.2⟩
  unfold cut
  rw [if_neg, hm.1]
  intro hin
  obtain ⟨⟨n', d', s'⟩, ht, e⟩ := List.mem_map.1 hin
  simp only at e
  subst e
  have h2 := (h.mem n' d' s').1 (List.mem_of_mem_take ht)
  rw [hm.1] at h2
  obtain ⟨e1, _⟩ := h2
  injection e1 with e1
  injection e1 with e1 e2
  subst e1 e2
  obtain ⟨i, hi, e⟩ := List.mem_iff_getElem.1 ht
  have hik : i < k := by simp at hi; omega
  have hkl := (List.getElem?_eq_some_iff.1 hk).1
  have hp := List.pairwise_iff_getElem.1 h.sort i k (by omega) hkl hik
  have ek := (List.getElem?_eq_some_iff.1 hk).2
  rw [List.getElem_take] at e
  rw [e, ek] at hp
  simp [lessB] at hp
theorem Rings.few {F : Ft} {now : Int} {P : List Tm} (h : Rings F now P) (hp : Pos F) : P.length ≤ 16 := by
  have hone : (P.map (·.1)).Nodup := by
    refine List.pairwise_map.2 (h.sort.imp_of_mem ?_)
    rintro ⟨n, d, s⟩ ⟨n', d', s'⟩ ha hb hl e
    simp only at e
    subst e
    have h1 := (h.mem _ _ _).1 ha
    have h2 := (h.mem _ _ _).1 hb
    rw [h1.1] at h2
    obtain ⟨e1, _⟩ := h2
    injection e1 with e1
    injection e1 with e1 e2
    subst e1 e2
    simp [lessB] at hl
  have hin : ∀ t ∈ P, 0 ≤ t.1 ∧ t.1 < 16 := by
    rintro ⟨n, d, s⟩ ht
    have := hp n d s ((h.mem _ _ _).1 ht).1
    exact ⟨this.2.1, this.2.2.1⟩
  have hr : Rep (P.map fun t => (t.1, 0, 1)) (fun n => if n ∈ P.map (·.1) then some (0, 1) else none) := by
    refine ⟨?_, ?_, ?_, ?_⟩
    · intro t ht
      obtain ⟨x, hx, rfl⟩ := List.mem_map.1 ht
      exact hin x hx
    · intro t ht
      obtain ⟨x, hx, rfl⟩ := List.mem_map.1 ht
      exact ⟨by simp, by simp⟩
    · rw [List.map_map]; exact hone
    · intro n d s
      constructor
      · intro hm
        obtain ⟨x, hx, e⟩ := List.mem_map.1 hm
        injection e with e1 e
        injection e with e2 e3
        subst e1 e2 e3
        rw [if_pos (List.mem_map.2 ⟨x, hx, rfl⟩)]
      · intro hm
        split at hm
        · injection hm with hm
          injection hm with e1 e2
          subst e1 e2
          rename_i hin'
          obtain ⟨x, hx, e⟩ := List.mem_map.1 hin'
          exact List.mem_map.2 ⟨x, hx, by rw [← e]⟩
        · cases hm
  have := hr.few
  simpa using this
theorem below_drewN {n : Nat} {w w' : World} (h : Below n w w') (k : Nat) : Below n w (w'.drewN k) := ⟨h.os, h.tape, h.output, h.size, h.block⟩
theorem dcs_lit (G : Ft) : #[.int .i64 (dueV (G 0)), .int .i64 (dueV (G 1)), .int .i64 (dueV (G 2)), .int .i64 (dueV (G 3)), .int .i64 (dueV (G 4)), .int .i64 (dueV (G 5)), .int .i64 (dueV (G 6)), .int .i64 (dueV (G 7)), .int .i64 (dueV (G 8)), .int .i64 (dueV (G 9)), .int .i64 (dueV (G 10)), .int .i64 (dueV (G 11)), .int .i64 (dueV (G 12)), .int .i64 (dueV (G 13)), .int .i64 (dueV (G 14)), .int .i64 (dueV (G 15))] = dcs G := rfl
theorem idx_at0 (G : Ft) (w : World) : (Instr.index 26 (.agg (dcs G)) (.int .i64 ((0 : Nat) : Int))).run Try.prog w = .ok (.int .i64 (dueV (G ((0 : Nat) : Int)))) w := by kernel_rfl
theorem idx_at1 (G : Ft) (w : World) : (Instr.index 26 (.agg (dcs G)) (.int .i64 ((1 : Nat) : Int))).run Try.prog w = .ok (.int .i64 (dueV (G ((1 : Nat) : Int)))) w := by kernel_rfl
theorem idx_at2 (G : Ft) (w : World) : (Instr.index 26 (.agg (dcs G)) (.int .i64 ((2 : Nat) : Int))).run Try.prog w = .ok (.int .i64 (dueV (G ((2 : Nat) : Int)))) w := by kernel_rfl
theorem idx_at3 (G : Ft) (w : World) : (Instr.index 26 (.agg (dcs G)) (.int .i64 ((3 : Nat) : Int))).run Try.prog w = .ok (.int .i64 (dueV (G ((3 : Nat) : Int)))) w := by kernel_rfl
theorem idx_at4 (G : Ft) (w : World) : (Instr.index 26 (.agg (dcs G)) (.int .i64 ((4 : Nat) : Int))).run Try.prog w = .ok (.int .i64 (dueV (G ((4 : Nat) : Int)))) w := by kernel_rfl
theorem idx_at5 (G : Ft) (w : World) : (Instr.index 26 (.agg (dcs G)) (.int .i64 ((5 : Nat) : Int))).run Try.prog w = .ok (.int .i64 (dueV (G ((5 : Nat) : Int)))) w := by kernel_rfl
theorem idx_at6 (G : Ft) (w : World) : (Instr.index 26 (.agg (dcs G)) (.int .i64 ((6 : Nat) : Int))).run Try.prog w = .ok (.int .i64 (dueV (G ((6 : Nat) : Int)))) w := by kernel_rfl
theorem idx_at7 (G : Ft) (w : World) : (Instr.index 26 (.agg (dcs G)) (.int .i64 ((7 : Nat) : Int))).run Try.prog w = .ok (.int .i64 (dueV (G ((7 : Nat) : Int)))) w := by kernel_rfl
theorem idx_at8 (G : Ft) (w : World) : (Instr.index 26 (.agg (dcs G)) (.int .i64 ((8 : Nat) : Int))).run Try.prog w = .ok (.int .i64 (dueV (G ((8 : Nat) : Int)))) w := by kernel_rfl
theorem idx_at9 (G : Ft) (w : World) : (Instr.index 26 (.agg (dcs G)) (.int .i64 ((9 : Nat) : Int))).run Try.prog w = .ok (.int .i64 (dueV (G ((9 : Nat) : Int)))) w := by kernel_rfl
theorem idx_at10 (G : Ft) (w : World) : (Instr.index 26 (.agg (dcs G)) (.int .i64 ((10 : Nat) : Int))).run Try.prog w = .ok (.int .i64 (dueV (G ((10 : Nat) : Int)))) w := by kernel_rfl
theorem idx_at11 (G : Ft) (w : World) : (Instr.index 26 (.agg (dcs G)) (.int .i64 ((11 : Nat) : Int))).run Try.prog w = .ok (.int .i64 (dueV (G ((11 : Nat) : Int)))) w := by kernel_rfl
theorem idx_at12 (G : Ft) (w : World) : (Instr.index 26 (.agg (dcs G)) (.int .i64 ((12 : Nat) : Int))).run Try.prog w = .ok (.int .i64 (dueV (G ((12 : Nat) : Int)))) w := by kernel_rfl
theorem idx_at13 (G : Ft) (w : World) : (Instr.index 26 (.agg (dcs G)) (.int .i64 ((13 : Nat) : Int))).run Try.prog w = .ok (.int .i64 (dueV (G ((13 : Nat) : Int)))) w := by kernel_rfl
theorem idx_at14 (G : Ft) (w : World) : (Instr.index 26 (.agg (dcs G)) (.int .i64 ((14 : Nat) : Int))).run Try.prog w = .ok (.int .i64 (dueV (G ((14 : Nat) : Int)))) w := by kernel_rfl
theorem idx_at15 (G : Ft) (w : World) : (Instr.index 26 (.agg (dcs G)) (.int .i64 ((15 : Nat) : Int))).run Try.prog w = .ok (.int .i64 (dueV (G ((15 : Nat) : Int)))) w := by kernel_rfl
theorem idx_at (G : Ft) (j : Nat) (h : j < 16) (w : World) : (Instr.index 26 (.agg (dcs G)) (.int .i64 j)).run Try.prog w = .ok (.int .i64 (dueV (G j))) w := by
  match j, h with
  | 0, _ => exact idx_at0 G w
  | 1, _ => exact idx_at1 G w
  | 2, _ => exact idx_at2 G w
  | 3, _ => exact idx_at3 G w
  | 4, _ => exact idx_at4 G w
  | 5, _ => exact idx_at5 G w
  | 6, _ => exact idx_at6 G w
  | 7, _ => exact idx_at7 G w
  | 8, _ => exact idx_at8 G w
  | 9, _ => exact idx_at9 G w
  | 10, _ => exact idx_at10 G w
  | 11, _ => exact idx_at11 G w
  | 12, _ => exact idx_at12 G w
  | 13, _ => exact idx_at13 G w
  | 14, _ => exact idx_at14 G w
  | 15, _ => exact idx_at15 G w
  | n + 16, h => omega
end Go.Proofs.Ytemmnojcickcpab
