/- What the law BatchTexts reads: requests as they lie, their texts; the pool's own function Text. -/
import Derived.Test.YtngoodidajbhcaaDoorNsP
import Derived.Deep.LoopGhost
import Derived.Deep.AppendLies
namespace Go.Proofs.YtngoodidajbhcaaDoor
open Go.RowKit
attribute [local go_sem ↓] Go.wp_at_zero Go.wp_at_succ

/-- A request: caller, number, text. -/
abbrev Rq := Int × Int × List UInt8
/-- The cells of a request. -/
def RqlAt (w : World) (b o : Nat) (s : Rq) : Prop := w.cell? ⟨b, o, none⟩ = some (.int .i64 s.1) ∧ w.cell? ⟨b, o + 1, none⟩ = some (.int .i64 s.2.1) ∧ w.cell? ⟨b, o + 2, none⟩ = some (.string (bs s.2.2))
theorem RqlAt.below {w w' : World} {b o : Nat} {s : Rq} (h : RqlAt w b o s) {B : Nat} (hb : Below B w w') (hB : b < B) : RqlAt w' b o s :=
  ⟨(hb.cell (p := ⟨b, _, none⟩) hB).trans h.1, (hb.cell (p := ⟨b, _, none⟩) hB).trans h.2.1, (hb.cell (p := ⟨b, _, none⟩) hB).trans h.2.2⟩
/-- v is a slice of just these. -/
def Rql (w : World) (v : Value) (l : List Rq) : Prop :=
  (l = [] ∧ ∃ a c, v = .slice a 0 c) ∨ ∃ b o cap, v = .slice (some ⟨b, o, none⟩) l.length cap ∧ b < w.heap.size ∧ ∀ (i : Nat) s, l[i]? = some s → RqlAt w b (o + i * 3) s
theorem Rql.below {w w' : World} {v : Value} {l : List Rq} (h : Rql w v l) {B : Nat} (hb : Below B w w') (hB : w.heap.size ≤ B) : Rql w' v l := by
  rcases h with h | ⟨b, o, cap, rfl, hlt, h⟩
  · exact .inl h
  · exact .inr ⟨b, o, cap, rfl, Nat.lt_of_lt_of_le hlt hb.size, fun i s hs => (h i s hs).below hb (by omega)⟩
theorem Rql.slice {w : World} {v : Value} {l : List Rq} (h : Rql w v l) : ∃ a c, v = .slice a l.length c := by
  rcases h with ⟨rfl, a, c, rfl⟩ | ⟨b, o, cap, rfl, _⟩
  · exact ⟨a, c, rfl⟩
  · exact ⟨_, _, rfl⟩
theorem Rql.at {w : World} {a : Option Addr} {c : Nat} {l : List Rq} (h : Rql w (.slice a l.length c) l) {k : Nat} {s : Rq} (hk : l[k]? = some s) : ∃ b o, a = some ⟨b, o, none⟩ ∧ b < w.heap.size ∧ RqlAt w b (o + k * 3) s := by
  rcases h with ⟨rfl, _⟩ | ⟨b, o, cap, hv, hlt, h⟩
  · cases hk
  · injection hv with h1 _ _
    exact ⟨b, o, h1, hlt, h k s hk⟩
/-- The requests' texts. -/
def txs (l : List Rq) : List (List UInt8) := l.map (·.2.2)
theorem txs_len (l : List Rq) : (txs l).length = l.length := by simp [txs]
theorem txs_at {l : List Rq} {k : Nat} {a : Rq} (h : l[k]? = some a) : (txs l)[k]? = some a.2.2 := by simp [txs, h]
theorem take_txs {l : List Rq} {k : Nat} {a : Rq} (h : l[k]? = some a) : (txs l).take (k + 1) = (txs l).take k ++ [a.2.2] := by
  rw [List.take_add_one, txs_at h]; rfl
theorem cellN {w : World} {B : Nat} {cs : Array Value} {t : TypeId} {fr : Nat × Nat} (h : w.heap[B]? = some (.cells cs t fr)) (j : Nat) (u : Value) (hu : cs[j]? = some u) : w.cell? ⟨B, j, none⟩ = some u := by
  unfold World.cell?; simp only [h]; exact hu
theorem heap_new (w : World) (o : Obj) : (w.alloc o).heap[w.heap.size]? = some o := World.alloc_heap_new w o

set_option maxRecDepth 20000 in
set_option maxHeartbeats 4000000 in
theorem Text_any (l : List Rq) (v0 : Value) (w : World) (hl : tot (txs l) ≤ 1000000) (hll : l.length ≤ 1000000) (he : Env w) (hv : Rql w v0 l) :
    Calls Tryd.prog 5 #[v0] w fun e W' => e = .returned (.string (bs (packL (txs l)))) ∧ Below w.heap.size w W' := by
  obtain ⟨a0, c0, rfl⟩ := hv.slice
  obtain ⟨i0, hi, hz0, hz1, hz2⟩ := info_parts Tryd.info9
  have hz1' := hz1
  have hz2' := hz2
  go_enter Tryd.func5, Tryd.ntmps5
  go_wp2_with (first
    | (at_make; refine wpList_make_own _ rfl _ _ 24 rfl w.heap.size 9 i0 (.string ⟨#[]⟩) 1 Tryd.underlying24 hi hz0 hz1' .i64 .i64 _ l.length rfl rfl rfl (by rw [hz2']; omega) (by unfold maxLen; omega) (Nat.le_refl _) ?_; intro w5 hown5 hg5))
  have hb5 := (Below.refl w.heap.size w).grown hg5 (Nat.le_refl _) (fun q hq => by cases hq)
  go_loopg [3, 11] l.length (fun gk p i wr => ∃ k : Nat, k + gk = l.length ∧ i = .int .i64 k ∧ wr.ownsRow w.heap.size 9 1 p k (strs ((txs l).take k)) ∧ Below w.heap.size w wr)
  case atStart => exact ⟨0, by omega, rfl, hown5, hb5⟩
  case round =>
    clear hown5 hb5 hg5
    obtain ⟨k, hgk, rfl, hown, hB⟩ := hrel
    obtain ⟨pa, pc, rfl⟩ := owns_slice hown
    by_cases hlt : k < l.length
    · obtain ⟨⟨c, n, t⟩, ha⟩ : ∃ a, l[k]? = some a := ⟨_, List.getElem?_eq_getElem hlt⟩
      obtain ⟨ab, ao, rfl, hab, x0, x1, x2⟩ := (hv.below hB (Nat.le_refl _)).at ha
      simp only at x0 x1 x2
      have m0 : (0 : Int) ≤ (k : Int) := by omega
      have m1 : (k : Int) < (l.length : Int) := by omega
      have HT : Hid (strs ((txs l).take (k + 1)) = strs ((txs l).take k) ++ [.string (bs t)]) := by show _ = _; rw [take_txs ha]; simp [strs]
      have hba : Below wr.heap.size wr (wr.alloc (.cells #[.int .i64 c, .int .i64 n, .string (bs t)] 26)) := (Below.refl _ _).alloc (Nat.le_refl _) _
      have rN := heap_new wr (.cells #[.int .i64 c, .int .i64 n, .string (bs t)] 26)
      have hml : k + 1 ≤ maxLen := by unfold maxLen; omega
      have HX : Hid (_ ∧ _ ∧ _) := ⟨rN, own_kept hown hba, hB.trans (hba.mono hB.size)⟩
      clear ha rN hba hown hB
      go_upto_region 5 with fail
      obtain ⟨rN, hown1, hB1⟩ := HX.out
      clear HX x0 x1 x2
      obtain ⟨W1, hW1⟩ : ∃ W, wr.alloc (.cells #[.int .i64 c, .int .i64 n, .string (bs t)] 26) = W := ⟨_, rfl⟩
      rw [hW1] at rN hown1 hB1 ⊢
      have z2 := cellN rN 2 (.string (bs t)) rfl
      have hsz1 := hB1.size
      clear rN hW1
      go_wp2_with (first
        | (at_builtin; refine wpList_append_own _ rfl _ _ 24 rfl w.heap.size 9 i0 (.string ⟨#[]⟩) 1 16 Tryd.underlying24 hi hz0 hz1 hz2 rfl (by decide) _ _ _ rfl (hown1.alloc _) ⟨W1.heap.size, 0, none⟩ 1 1 [.string (bs t)] rfl rfl (cell_one_new _ _ _) (by simp [Value.oneCell']) hml (by omega) (by simp; omega) ?_; intro v' w3 hown' hgrow3 hnil3))
      have hB3 := (hB1.alloc hsz1 (.cells #[.string (bs t)] 9)).grown hgrow3 (by simp; omega) (fun q hq => (hown1.lt q hq).1)
      go_roundg (l.length - (k + 1))
      case measure => omega
      case rel => exact ⟨k + 1, by omega, by go_num, by rw [HT.out]; exact hown', hB3⟩
    · have hke : k = l.length := by omega
      subst hke
      have hS : Sl wr (.slice pa l.length pc) (txs l) := by
        have h := hown
        rw [List.take_of_length_le (by rw [txs_len]; exact Nat.le_refl _)] at h
        have e := txs_len l
        rw [← e] at h
        have := Sl.of_owns h
        rw [e] at this
        exact this
      have hP := Pack_any (txs l) _ wr hl (by rw [txs_len]; exact hll) (he.next hB) hS
      clear hown hS
      go_wp2_with (first | (go_at_call 14; refine hP.mono ?_; rintro e w1 ⟨rfl, hb1⟩))
      go_ret
      exact ⟨rfl, hB.trans (hb1.mono hB.size)⟩
end Go.Proofs.YtngoodidajbhcaaDoor
