/- reeve: how many shards move in each configuration, walked. -/
import Derived.Test.YtcehmaegnfelhaaRvE
namespace Go.Proofs.Ytcehmaegnfelhaa
open Go.RowKit
attribute [local go_sem ↓] Go.wp_at_zero Go.wp_at_succ

/-- The first n moves. -/
def mvS (l : List Cg) : Nat → List Int
  | 0 => []
  | n + 1 => mvS l n ++ [match l[n]?, l[n + 1]? with
    | some x, some y => (mvI x y : Int)
    | _, _ => 0]
theorem mvS_len (l : List Cg) : ∀ n, (mvS l n).length = n
  | 0 => rfl
  | n + 1 => by rw [mvS, List.length_append, mvS_len l n]; rfl
theorem mvS_at {l : List Cg} {n : Nat} {x y : Cg} (hx : l[n]? = some x) (hy : l[n + 1]? = some y) : mvS l (n + 1) = mvS l n ++ [(mvI x y : Int)] := by rw [mvS, hx, hy]
/-- What Moves tells. -/
def MvPost (l : List Cg) (e : Ending) (W' : World) : Prop :=
  if foB l l.length = true then ∃ u, e = .returned (.tuple #[u, .int .i64 0]) ∧ Il W' u (mvS l (l.length - 1)) else e = .returned (.tuple #[.slice none 0 0, .int .i64 4])
set_option maxRecDepth 20000 in
set_option maxHeartbeats 400000 in
theorem moves_any (l : List Cg) (v : Value) (w : World) (hv : Cl w v l) (hl : l.length ≤ 1000) (hgl : ∀ (i : Nat) x, l[i]? = some x → x.gs.length ≤ 1000) : Calls Try.prog 8 #[v] w fun e W' => MvPost l e W' ∧ Below w.heap.size w W' := by
  obtain ⟨va, vc, rfl⟩ := hv.slice
  have hF := follow_any l _ w hv hl hgl
  obtain ⟨i0, hi, hz0, hz1, hz2⟩ := info_parts Try.info3
  obtain ⟨N, hN⟩ : ∃ N, w.heap.size = N := ⟨_, rfl⟩
  rw [hN] at hF ⊢
  have HN : Hid (w.heap.size = N) := hN
  have HV : Hid (∀ W, Below N w W → Cl W (.slice va l.length vc) l) := fun W hW => hv.on hW (by omega)
  have HL : Hid (l.length ≤ 1000) := hl
  obtain ⟨T, hT⟩ : ∃ T, foB l l.length = T := ⟨_, rfl⟩
  have HP : Hid (∀ e W', MvPost l e W' ↔ if T = true then ∃ u, e = .returned (.tuple #[u, .int .i64 0]) ∧ Il W' u (mvS l (l.length - 1)) else e = .returned (.tuple #[.slice none 0 0, .int .i64 4])) := fun e W' => by rw [MvPost, hT]
  rw [hT] at hF
  clear hv hN hgl hl hT
  cases T with
  | false =>
    go_enter Try.func8, Try.ntmps8
    go_wp2_with (first
      | (go_at_call 20; refine hF.mono ?_; clear hF; rintro e w1 ⟨rfl, hB⟩)
      | fail)
    exact bodyPost_ret (v := .tuple #[.slice none 0 0, .int .i64 4]) (by simp [results, Try.f8, go_sem]) rfl ⟨(HP.out _ _).2 rfl, hB⟩
  | true =>
  go_enter Try.func8, Try.ntmps8
  go_wp2_with (first
    | (go_at_call 20; refine hF.mono ?_; clear hF; rintro e w1 ⟨rfl, hB⟩)
    | fail)
  have HB1 : Hid (Below N w w1) := hB
  clear hB
  go_loopg [4, 5] l.length (fun gk s j wr => ∃ (im n : Nat), n = im + 1 ∧ n + gk = l.length + 1 ∧ (n = 1 ∨ n ≤ l.length) ∧ j = .int .i64 n ∧ wr.ownsRow N 3 1 s im (zcs (mvS l im)) ∧ Below N w wr)
  case atStart => exact ⟨0, 1, rfl, by omega, .inl rfl, rfl, World.ownsRow_nil _ _ _ _, HB1.out⟩
  case round =>
    obtain ⟨im, n, hnm, hnn, hor, rfl, hown, hB⟩ := hrel
    obtain ⟨ma, mc, rfl⟩ := owns_slice hown
    by_cases hn2 : n < l.length
    · obtain ⟨q, hq⟩ : ∃ q, l[im]? = some q := ⟨_, List.getElem?_eq_getElem (by omega)⟩
      obtain ⟨x, hx⟩ : ∃ x, l[n]? = some x := ⟨_, List.getElem?_eq_getElem (by omega)⟩
      have hat := mvS_at hq (by rw [← hnm]; exact hx)
      have hM := fun gv gv' => moved_any q x gv gv'
      obtain ⟨M, hMe⟩ : ∃ M, mvI q x = M := ⟨_, rfl⟩
      rw [hMe] at hat hM
      have hV := HV.out _ hB
      obtain ⟨g0, e', gv, hg', hgb, hil, y⟩ := hV.at hx
      subst hg'
      obtain ⟨g1, e1', gv1, hg1, -, hil1, z⟩ := hV.at hq
      injection hg1 with hg1
      injection hg1 with hga hgb'
      subst hga
      subst hgb'
      obtain ⟨pa, pc, rfl⟩ := hil.slice
      obtain ⟨qa, qc, rfl⟩ := hil1.slice
      obtain ⟨num, gs, o0, o1, o2, o3⟩ := x
      obtain ⟨pn, pgs, q0, q1, q2, q3⟩ := q
      have hcs : (fun W => W.cell? ⟨g0, e' + im * 6, none⟩ = some (.int .i64 pn) ∧ W.cell? ⟨g0, e' + im * 6 + 1, none⟩ = some (.slice qa pgs.length qc) ∧ W.cell? ⟨g0, e' + im * 6 + 2, none⟩ = some (.int .i64 q0) ∧ W.cell? ⟨g0, e' + im * 6 + 3, none⟩ = some (.int .i64 q1) ∧ W.cell? ⟨g0, e' + im * 6 + 4, none⟩ = some (.int .i64 q2) ∧ W.cell? ⟨g0, e' + im * 6 + 5, none⟩ = some (.int .i64 q3) ∧ W.cell? ⟨g0, e' + n * 6, none⟩ = some (.int .i64 num) ∧ W.cell? ⟨g0, e' + n * 6 + 1, none⟩ = some (.slice pa gs.length pc) ∧ W.cell? ⟨g0, e' + n * 6 + 2, none⟩ = some (.int .i64 o0) ∧ W.cell? ⟨g0, e' + n * 6 + 3, none⟩ = some (.int .i64 o1) ∧ W.cell? ⟨g0, e' + n * 6 + 4, none⟩ = some (.int .i64 o2) ∧ W.cell? ⟨g0, e' + n * 6 + 5, none⟩ = some (.int .i64 o3)) wr := by
        refine ⟨?_, ?_, ?_, ?_, ?_, ?_, ?_, ?_, ?_, ?_, ?_, ?_⟩
        · exact z 0 _ rfl
        · exact z 1 _ rfl
        · exact z 2 _ rfl
        · exact z 3 _ rfl
        · exact z 4 _ rfl
        · exact z 5 _ rfl
        · exact y 0 _ rfl
        · exact y 1 _ rfl
        · exact y 2 _ rfl
        · exact y 3 _ rfl
        · exact y 4 _ rfl
        · exact y 5 _ rfl
      have HKe : ∀ (W W' : World), g0 < W.heap.size → Below W.heap.size W W' → (fun W => W.cell? ⟨g0, e' + im * 6, none⟩ = some (.int .i64 pn) ∧ W.cell? ⟨g0, e' + im * 6 + 1, none⟩ = some (.slice qa pgs.length qc) ∧ W.cell? ⟨g0, e' + im * 6 + 2, none⟩ = some (.int .i64 q0) ∧ W.cell? ⟨g0, e' + im * 6 + 3, none⟩ = some (.int .i64 q1) ∧ W.cell? ⟨g0, e' + im * 6 + 4, none⟩ = some (.int .i64 q2) ∧ W.cell? ⟨g0, e' + im * 6 + 5, none⟩ = some (.int .i64 q3) ∧ W.cell? ⟨g0, e' + n * 6, none⟩ = some (.int .i64 num) ∧ W.cell? ⟨g0, e' + n * 6 + 1, none⟩ = some (.slice pa gs.length pc) ∧ W.cell? ⟨g0, e' + n * 6 + 2, none⟩ = some (.int .i64 o0) ∧ W.cell? ⟨g0, e' + n * 6 + 3, none⟩ = some (.int .i64 o1) ∧ W.cell? ⟨g0, e' + n * 6 + 4, none⟩ = some (.int .i64 o2) ∧ W.cell? ⟨g0, e' + n * 6 + 5, none⟩ = some (.int .i64 o3)) W → (fun W => W.cell? ⟨g0, e' + im * 6, none⟩ = some (.int .i64 pn) ∧ W.cell? ⟨g0, e' + im * 6 + 1, none⟩ = some (.slice qa pgs.length qc) ∧ W.cell? ⟨g0, e' + im * 6 + 2, none⟩ = some (.int .i64 q0) ∧ W.cell? ⟨g0, e' + im * 6 + 3, none⟩ = some (.int .i64 q1) ∧ W.cell? ⟨g0, e' + im * 6 + 4, none⟩ = some (.int .i64 q2) ∧ W.cell? ⟨g0, e' + im * 6 + 5, none⟩ = some (.int .i64 q3) ∧ W.cell? ⟨g0, e' + n * 6, none⟩ = some (.int .i64 num) ∧ W.cell? ⟨g0, e' + n * 6 + 1, none⟩ = some (.slice pa gs.length pc) ∧ W.cell? ⟨g0, e' + n * 6 + 2, none⟩ = some (.int .i64 o0) ∧ W.cell? ⟨g0, e' + n * 6 + 3, none⟩ = some (.int .i64 o1) ∧ W.cell? ⟨g0, e' + n * 6 + 4, none⟩ = some (.int .i64 o2) ∧ W.cell? ⟨g0, e' + n * 6 + 5, none⟩ = some (.int .i64 o3)) W' := fun W W' hg hb h => by
        have hk : ∀ k u, W.cell? ⟨g0, k, none⟩ = some u → W'.cell? ⟨g0, k, none⟩ = some u := fun k u hu => (hb.cell (p := ⟨g0, k, none⟩) hg).trans hu
        obtain ⟨p0, p1, p2, p3, p4, p5, p6, p7, p8, p9, p10, p11⟩ := h
        exact ⟨hk _ _ p0, hk _ _ p1, hk _ _ p2, hk _ _ p3, hk _ _ p4, hk _ _ p5, hk _ _ p6, hk _ _ p7, hk _ _ p8, hk _ _ p9, hk _ _ p10, hk _ _ p11⟩
      have hS0 : (fun W => W.cell? ⟨g0, e' + im * 6, none⟩ = some (.int .i64 pn) ∧ W.cell? ⟨g0, e' + im * 6 + 1, none⟩ = some (.slice qa pgs.length qc) ∧ W.cell? ⟨g0, e' + im * 6 + 2, none⟩ = some (.int .i64 q0) ∧ W.cell? ⟨g0, e' + im * 6 + 3, none⟩ = some (.int .i64 q1) ∧ W.cell? ⟨g0, e' + im * 6 + 4, none⟩ = some (.int .i64 q2) ∧ W.cell? ⟨g0, e' + im * 6 + 5, none⟩ = some (.int .i64 q3) ∧ W.cell? ⟨g0, e' + n * 6, none⟩ = some (.int .i64 num) ∧ W.cell? ⟨g0, e' + n * 6 + 1, none⟩ = some (.slice pa gs.length pc) ∧ W.cell? ⟨g0, e' + n * 6 + 2, none⟩ = some (.int .i64 o0) ∧ W.cell? ⟨g0, e' + n * 6 + 3, none⟩ = some (.int .i64 o1) ∧ W.cell? ⟨g0, e' + n * 6 + 4, none⟩ = some (.int .i64 o2) ∧ W.cell? ⟨g0, e' + n * 6 + 5, none⟩ = some (.int .i64 o3)) wr.drew := HKe wr wr.drew hgb (below_drew (Below.refl _ _)) hcs
      have HS : Hid (∀ W, Below wr.drew.heap.size wr.drew W → (fun W => W.cell? ⟨g0, e' + im * 6, none⟩ = some (.int .i64 pn) ∧ W.cell? ⟨g0, e' + im * 6 + 1, none⟩ = some (.slice qa pgs.length qc) ∧ W.cell? ⟨g0, e' + im * 6 + 2, none⟩ = some (.int .i64 q0) ∧ W.cell? ⟨g0, e' + im * 6 + 3, none⟩ = some (.int .i64 q1) ∧ W.cell? ⟨g0, e' + im * 6 + 4, none⟩ = some (.int .i64 q2) ∧ W.cell? ⟨g0, e' + im * 6 + 5, none⟩ = some (.int .i64 q3) ∧ W.cell? ⟨g0, e' + n * 6, none⟩ = some (.int .i64 num) ∧ W.cell? ⟨g0, e' + n * 6 + 1, none⟩ = some (.slice pa gs.length pc) ∧ W.cell? ⟨g0, e' + n * 6 + 2, none⟩ = some (.int .i64 o0) ∧ W.cell? ⟨g0, e' + n * 6 + 3, none⟩ = some (.int .i64 o1) ∧ W.cell? ⟨g0, e' + n * 6 + 4, none⟩ = some (.int .i64 o2) ∧ W.cell? ⟨g0, e' + n * 6 + 5, none⟩ = some (.int .i64 o3)) W) := fun W hW => HKe wr.drew W hgb hW hS0
      have HS2 : Hid (∀ W, Below wr.drew.heap.size wr.drew W → g0 < W.heap.size) := fun W hW => Nat.lt_of_lt_of_le hgb hW.size
      have HT2 : Hid (∀ (W W' : World), g0 < W.heap.size → Below W.heap.size W W' → (fun W => W.cell? ⟨g0, e' + im * 6, none⟩ = some (.int .i64 pn) ∧ W.cell? ⟨g0, e' + im * 6 + 1, none⟩ = some (.slice qa pgs.length qc) ∧ W.cell? ⟨g0, e' + im * 6 + 2, none⟩ = some (.int .i64 q0) ∧ W.cell? ⟨g0, e' + im * 6 + 3, none⟩ = some (.int .i64 q1) ∧ W.cell? ⟨g0, e' + im * 6 + 4, none⟩ = some (.int .i64 q2) ∧ W.cell? ⟨g0, e' + im * 6 + 5, none⟩ = some (.int .i64 q3) ∧ W.cell? ⟨g0, e' + n * 6, none⟩ = some (.int .i64 num) ∧ W.cell? ⟨g0, e' + n * 6 + 1, none⟩ = some (.slice pa gs.length pc) ∧ W.cell? ⟨g0, e' + n * 6 + 2, none⟩ = some (.int .i64 o0) ∧ W.cell? ⟨g0, e' + n * 6 + 3, none⟩ = some (.int .i64 o1) ∧ W.cell? ⟨g0, e' + n * 6 + 4, none⟩ = some (.int .i64 o2) ∧ W.cell? ⟨g0, e' + n * 6 + 5, none⟩ = some (.int .i64 o3)) W → (fun W => W.cell? ⟨g0, e' + im * 6, none⟩ = some (.int .i64 pn) ∧ W.cell? ⟨g0, e' + im * 6 + 1, none⟩ = some (.slice qa pgs.length qc) ∧ W.cell? ⟨g0, e' + im * 6 + 2, none⟩ = some (.int .i64 q0) ∧ W.cell? ⟨g0, e' + im * 6 + 3, none⟩ = some (.int .i64 q1) ∧ W.cell? ⟨g0, e' + im * 6 + 4, none⟩ = some (.int .i64 q2) ∧ W.cell? ⟨g0, e' + im * 6 + 5, none⟩ = some (.int .i64 q3) ∧ W.cell? ⟨g0, e' + n * 6, none⟩ = some (.int .i64 num) ∧ W.cell? ⟨g0, e' + n * 6 + 1, none⟩ = some (.slice pa gs.length pc) ∧ W.cell? ⟨g0, e' + n * 6 + 2, none⟩ = some (.int .i64 o0) ∧ W.cell? ⟨g0, e' + n * 6 + 3, none⟩ = some (.int .i64 o1) ∧ W.cell? ⟨g0, e' + n * 6 + 4, none⟩ = some (.int .i64 o2) ∧ W.cell? ⟨g0, e' + n * 6 + 5, none⟩ = some (.int .i64 o3)) W') := HKe
      have hgN : g0 < N := by
        have h9 := HV.out w (by rw [← HN.out]; exact Below.refl _ _)
        obtain ⟨g9, e9, gv9, h91, h92, -⟩ := h9.at hx
        injection h91 with h91; injection h91 with h91; subst h91; rw [← HN.out]; exact h92
      have HT3 : Hid (∀ (ob : Option Nat) (W W' : World), (∀ j, ob = some j → N ≤ j) → W.grownBy W' ob → g0 < W.heap.size → (fun W => W.cell? ⟨g0, e' + im * 6, none⟩ = some (.int .i64 pn) ∧ W.cell? ⟨g0, e' + im * 6 + 1, none⟩ = some (.slice qa pgs.length qc) ∧ W.cell? ⟨g0, e' + im * 6 + 2, none⟩ = some (.int .i64 q0) ∧ W.cell? ⟨g0, e' + im * 6 + 3, none⟩ = some (.int .i64 q1) ∧ W.cell? ⟨g0, e' + im * 6 + 4, none⟩ = some (.int .i64 q2) ∧ W.cell? ⟨g0, e' + im * 6 + 5, none⟩ = some (.int .i64 q3) ∧ W.cell? ⟨g0, e' + n * 6, none⟩ = some (.int .i64 num) ∧ W.cell? ⟨g0, e' + n * 6 + 1, none⟩ = some (.slice pa gs.length pc) ∧ W.cell? ⟨g0, e' + n * 6 + 2, none⟩ = some (.int .i64 o0) ∧ W.cell? ⟨g0, e' + n * 6 + 3, none⟩ = some (.int .i64 o1) ∧ W.cell? ⟨g0, e' + n * 6 + 4, none⟩ = some (.int .i64 o2) ∧ W.cell? ⟨g0, e' + n * 6 + 5, none⟩ = some (.int .i64 o3)) W → (fun W => W.cell? ⟨g0, e' + im * 6, none⟩ = some (.int .i64 pn) ∧ W.cell? ⟨g0, e' + im * 6 + 1, none⟩ = some (.slice qa pgs.length qc) ∧ W.cell? ⟨g0, e' + im * 6 + 2, none⟩ = some (.int .i64 q0) ∧ W.cell? ⟨g0, e' + im * 6 + 3, none⟩ = some (.int .i64 q1) ∧ W.cell? ⟨g0, e' + im * 6 + 4, none⟩ = some (.int .i64 q2) ∧ W.cell? ⟨g0, e' + im * 6 + 5, none⟩ = some (.int .i64 q3) ∧ W.cell? ⟨g0, e' + n * 6, none⟩ = some (.int .i64 num) ∧ W.cell? ⟨g0, e' + n * 6 + 1, none⟩ = some (.slice pa gs.length pc) ∧ W.cell? ⟨g0, e' + n * 6 + 2, none⟩ = some (.int .i64 o0) ∧ W.cell? ⟨g0, e' + n * 6 + 3, none⟩ = some (.int .i64 o1) ∧ W.cell? ⟨g0, e' + n * 6 + 4, none⟩ = some (.int .i64 o2) ∧ W.cell? ⟨g0, e' + n * 6 + 5, none⟩ = some (.int .i64 o3)) W') := fun ob W W' ho hg hlt h => by
        have hk : ∀ k u, W.cell? ⟨g0, k, none⟩ = some u → W'.cell? ⟨g0, k, none⟩ = some u := fun k u hu => (hg.cell_far ⟨g0, k, none⟩ hlt (fun e => by have := ho g0 e.symm; omega)).trans hu
        obtain ⟨p0, p1, p2, p3, p4, p5, p6, p7, p8, p9, p10, p11⟩ := h
        exact ⟨hk _ _ p0, hk _ _ p1, hk _ _ p2, hk _ _ p3, hk _ _ p4, hk _ _ p5, hk _ _ p6, hk _ _ p7, hk _ _ p8, hk _ _ p9, hk _ _ p10, hk _ _ p11⟩
      have HM : Hid (∀ W, Calls Try.prog 21 #[.agg (cf pn (.slice qa pgs.length qc) q0 q1 q2 q3), .agg (cf num (.slice pa gs.length pc) o0 o1 o2 o3)] W fun e W' => e = .returned (.int .i64 M) ∧ Below W.heap.size W W') := fun W => hM _ _ W
      have HB : Hid (Below N w wr) := hB
      have HNW : Hid (N ≤ wr.drew.heap.size) := by have := hB.size; have := HN.out; show N ≤ wr.heap.size; omega
      have HO : Hid (wr.ownsRow N 3 1 (.slice ma im mc) im (zcs (mvS l im))) := hown
      have HAT : Hid (mvS l (im + 1) = mvS l im ++ [(M : Int)]) := hat
      have d0 : (0 : Int) ≤ (n : Int) := by omega
      have d1 : (n : Int) < (l.length : Int) := by omega
      have hnb : n ≤ 1000 := by have := HL.out; omega
      have hii2 : (n : Int) - 1 = (im : Int) := by omega
      have dm0 : (0 : Int) ≤ (im : Int) := by omega
      have dm1 : (im : Int) < (l.length : Int) := by omega
      have dm5 : im ≤ 1000 := by omega
      have dmw : IntKind.i64.wrap (im : Int) = (im : Int) := wrap_small _ (by omega) (by omega)
      have HNM : Hid (n = im + 1 ∧ n + gk = l.length + 1 ∧ n < l.length) := ⟨hnm, hnn, hn2⟩
      clear hnm hnn hn2 hq hx hat hM hMe hV hil hil1 y z hcs HKe hown hB hgb hor
      go_upto_region 7 with fail
      refine region_Z 99 (fun W => W.cell? ⟨g0, e' + im * 6, none⟩ = some (.int .i64 pn) ∧ W.cell? ⟨g0, e' + im * 6 + 1, none⟩ = some (.slice qa pgs.length qc) ∧ W.cell? ⟨g0, e' + im * 6 + 2, none⟩ = some (.int .i64 q0) ∧ W.cell? ⟨g0, e' + im * 6 + 3, none⟩ = some (.int .i64 q1) ∧ W.cell? ⟨g0, e' + im * 6 + 4, none⟩ = some (.int .i64 q2) ∧ W.cell? ⟨g0, e' + im * 6 + 5, none⟩ = some (.int .i64 q3) ∧ W.cell? ⟨g0, e' + n * 6, none⟩ = some (.int .i64 num) ∧ W.cell? ⟨g0, e' + n * 6 + 1, none⟩ = some (.slice pa gs.length pc) ∧ W.cell? ⟨g0, e' + n * 6 + 2, none⟩ = some (.int .i64 o0) ∧ W.cell? ⟨g0, e' + n * 6 + 3, none⟩ = some (.int .i64 o1) ∧ W.cell? ⟨g0, e' + n * 6 + 4, none⟩ = some (.int .i64 o2) ∧ W.cell? ⟨g0, e' + n * 6 + 5, none⟩ = some (.int .i64 o3)) (by kernel_rfl) ?_
      refine Y_take (i := 0) (v := ?_) rfl (by kernel_rfl) (by kernel_rfl) (by kernel_rfl) (by kernel_rfl) (fun _ _ _ h => h) (by rfl) hS0 ?_ ?_
      rotate_left
      · (intro w' hSw; obtain ⟨p0, p1, p2, p3, p4, p5, p6, p7, p8, p9, p10, p11⟩ := hSw; (try go_simp); (try with_reducible rfl))
      simp only [Act.put, List.setIfInBounds_toArray, List.getElem_toArray, List.getElem_cons_zero, List.set_cons_succ, List.set_cons_zero]
      refine Y_take (i := 1) (v := ?_) rfl (by kernel_rfl) (by kernel_rfl) (by kernel_rfl) (by kernel_rfl) (fun _ _ _ h => h) (by rfl) hS0 ?_ ?_
      rotate_left
      · (intro w' hSw; obtain ⟨p0, p1, p2, p3, p4, p5, p6, p7, p8, p9, p10, p11⟩ := hSw; (try go_simp); (try with_reducible rfl))
      simp only [Act.put, List.setIfInBounds_toArray, List.getElem_toArray, List.getElem_cons_succ, List.getElem_cons_zero, List.set_cons_succ, List.set_cons_zero]
      refine Y_take (i := 2) (v := ?_) rfl (by kernel_rfl) (by kernel_rfl) (by kernel_rfl) (by kernel_rfl) (fun _ _ _ h => h) (by rfl) hS0 ?_ ?_
      rotate_left
      · (intro w' hSw; obtain ⟨p0, p1, p2, p3, p4, p5, p6, p7, p8, p9, p10, p11⟩ := hSw; (try go_simp); (try with_reducible rfl))
      simp only [Act.put, List.setIfInBounds_toArray, List.getElem_toArray, List.getElem_cons_succ, List.getElem_cons_zero, List.set_cons_succ, List.set_cons_zero]
      refine Y_take (i := 3) (v := ?_) rfl (by kernel_rfl) (by kernel_rfl) (by kernel_rfl) (by kernel_rfl) (fun _ _ _ h => h) (by rfl) hS0 ?_ ?_
      rotate_left
      · (intro w' hSw; obtain ⟨p0, p1, p2, p3, p4, p5, p6, p7, p8, p9, p10, p11⟩ := hSw; (try go_simp); (try with_reducible rfl))
      simp only [Act.put, List.setIfInBounds_toArray, List.getElem_toArray, List.getElem_cons_succ, List.getElem_cons_zero, List.set_cons_succ, List.set_cons_zero]
      refine Y_take (i := 4) (v := ?_) rfl (by kernel_rfl) (by kernel_rfl) (by kernel_rfl) (by kernel_rfl) (fun _ _ _ h => h) (by rfl) hS0 ?_ ?_
      rotate_left
      · (intro w' hSw; obtain ⟨p0, p1, p2, p3, p4, p5, p6, p7, p8, p9, p10, p11⟩ := hSw; (try go_simp); (try with_reducible rfl))
      simp only [Act.put, List.setIfInBounds_toArray, List.getElem_toArray, List.getElem_cons_succ, List.getElem_cons_zero, List.set_cons_succ, List.set_cons_zero]
      refine Y_take (i := 5) (v := ?_) rfl (by kernel_rfl) (by kernel_rfl) (by kernel_rfl) (by kernel_rfl) (fun _ _ _ h => h) (by rfl) hS0 ?_ ?_
      rotate_left
      · (intro w' hSw; obtain ⟨p0, p1, p2, p3, p4, p5, p6, p7, p8, p9, p10, p11⟩ := hSw; (try go_simp); (try with_reducible rfl))
      simp only [Act.put, List.setIfInBounds_toArray, List.getElem_toArray, List.getElem_cons_succ, List.getElem_cons_zero, List.set_cons_succ, List.set_cons_zero]
      refine Y_take (i := 6) (v := ?_) rfl (by kernel_rfl) (by kernel_rfl) (by kernel_rfl) (by kernel_rfl) (fun _ _ _ h => h) (by rfl) hS0 ?_ ?_
      rotate_left
      · (intro w' hSw; obtain ⟨p0, p1, p2, p3, p4, p5, p6, p7, p8, p9, p10, p11⟩ := hSw; (try go_simp); (try with_reducible rfl))
      simp only [Act.put, List.setIfInBounds_toArray, List.getElem_toArray, List.getElem_cons_succ, List.getElem_cons_zero, List.set_cons_succ, List.set_cons_zero]
      refine Y_take (i := 7) (v := ?_) rfl (by kernel_rfl) (by kernel_rfl) (by kernel_rfl) (by kernel_rfl) (fun _ _ _ h => h) (by rfl) hS0 ?_ ?_
      rotate_left
      · (intro w' hSw; obtain ⟨p0, p1, p2, p3, p4, p5, p6, p7, p8, p9, p10, p11⟩ := hSw; (try go_simp); (try with_reducible rfl))
      simp only [Act.put, List.setIfInBounds_toArray, List.getElem_toArray, List.getElem_cons_succ, List.getElem_cons_zero, List.set_cons_succ, List.set_cons_zero]
      refine Y_take (i := 8) (v := ?_) rfl (by kernel_rfl) (by kernel_rfl) (by kernel_rfl) (by kernel_rfl) (fun _ _ _ h => h) (by rfl) hS0 ?_ ?_
      rotate_left
      · (intro w' hSw; obtain ⟨p0, p1, p2, p3, p4, p5, p6, p7, p8, p9, p10, p11⟩ := hSw; (try go_simp); (try with_reducible rfl))
      simp only [Act.put, List.setIfInBounds_toArray, List.getElem_toArray, List.getElem_cons_succ, List.getElem_cons_zero, List.set_cons_succ, List.set_cons_zero]
      refine Y_take (i := 9) (v := ?_) rfl (by kernel_rfl) (by kernel_rfl) (by kernel_rfl) (by kernel_rfl) (fun _ _ _ h => h) (by rfl) hS0 ?_ ?_
      rotate_left
      · (intro w' hSw; obtain ⟨p0, p1, p2, p3, p4, p5, p6, p7, p8, p9, p10, p11⟩ := hSw; (try go_simp); (try with_reducible rfl))
      simp only [Act.put, List.setIfInBounds_toArray, List.getElem_toArray, List.getElem_cons_succ, List.getElem_cons_zero, List.set_cons_succ, List.set_cons_zero]
      refine Z_step (i := 10) (by kernel_rfl) rfl (fun K' hK => ?_)
      go_simp
      refine (HM.out _).mono ?_
      clear HM
      rintro e w2 ⟨rfl, hB2⟩
      have hB3 : Below N w w2 := (below_drew HB.out).trans (hB2.mono HNW.out)
      have hS1 := HS.out _ hB2
      refine hK _ _ (fun _ => hS1) ?_
      clear hK K' hS0 HS
      have hown2 := owns_next (owns_next HO.out (below_drew (Below.refl _ wr))) hB2
      refine Z_step (i := 11) (by kernel_rfl) rfl (fun K' hK => ?_)
      go_simp
      have hbl : Below w2.heap.size w2 (w2.alloc (.cells #[.int .i64 M] 3)) := (Below.refl _ _).alloc (Nat.le_refl _) _
      have hS2 := HT2.out _ _ (HS2.out _ hB2) hbl hS1
      refine hK _ _ (fun _ => hS2) ?_
      clear hK K'
      refine Z_step (i := 12) (by kernel_rfl) rfl (fun K' hK => ?_)
      refine step_append_lies _ (by rfl) _ _ 25 (by rfl) N 3 i0 (.int .i64 0) 1 8 Try.underlying25 hi hz0 hz1 hz2 rfl (by decide) (.slice ma im mc) im (zcs (mvS l im)) (by rfl) (owns_next hown2 hbl) ⟨w2.heap.size, 0, none⟩ 1 1 [.int .i64 M] (by rfl) rfl (World.news_of_block (heap_alloc_new _ _)) (by simp [Value.oneCell']) (by decide) (by unfold maxLen; omega) (by omega) (Nat.le_trans HNW.out (Nat.le_trans hB2.size hbl.size)) _ rfl ?_
      intro ga ca w7 hown7 hgrow hat hlt7
      have hBG : Below N w w7 := below_grown (hB3.trans (hbl.mono (Nat.le_trans HNW.out hB2.size))) hgrow (fun j hj => (HO.out.lt j hj).1) (Nat.le_trans HNW.out (Nat.le_trans hB2.size hbl.size))
      have hS7 := HT3.out _ _ _ (fun j hj => (HO.out.lt j hj).1) hgrow (Nat.lt_of_lt_of_le (HS2.out _ hB2) hbl.size) hS2
      refine hK _ _ (fun _ => hS7) ?_
      clear hK K'
      refine Z_step (i := 13) (by kernel_rfl) rfl (fun K' hK => ?_)
      go_simp
      refine hK _ _ (fun _ => hS7) (Z_done (by kernel_rfl) ?_ _)
      clear hK K' hS7 hS2 hS1
      go_wp2_with fail
      go_roundg (l.length - n)
      case measure => have := HNM.out; omega
      case rel =>
        obtain ⟨h1, h2, h3⟩ := HNM.out
        refine ⟨im + 1, n + 1, by omega, by omega, .inr (by omega), by go_num, ?_, hBG⟩
        rw [HAT.out, zcs_snoc]; exact hown7
    · have hnl : l.length - 1 = im := by omega
      rw [hnl] at HP
      have HF : Hid (wr.ownsRow N 3 1 (.slice ma im mc) im (zcs (mvS l im)) ∧ Below N w wr) := ⟨hown, hB⟩
      clear hown hB HV
      go_wp2_with fail
      refine bodyPost_ret (v := .tuple #[.slice ma im mc, .int .i64 0]) (by simp [results, Try.f8, go_sem]) rfl ⟨(HP.out _ _).2 ?_, HF.out.2⟩
      rw [if_pos trivial]
      exact ⟨_, rfl, Il_owns (by rw [mvS_len]; exact HF.out.1)⟩
end Go.Proofs.Ytcehmaegnfelhaa
