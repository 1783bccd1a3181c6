/- The document's side: how many shards move, walked. -/
import Derived.Test.YtcehmaegnfelhaaRvP
import Derived.Test.YtcehmaegnfelhaaRvF
namespace Go.Proofs.Ytcehmaegnfelhaa
open Go.RowKit
attribute [local go_sem ↓] Go.wp_at_zero Go.wp_at_succ

set_option maxRecDepth 20000 in
set_option maxHeartbeats 1500000 in
theorem rmvs_any (l : List Cg) (v : Value) (w : World) (hv : Cl w v l) (hl : l.length ≤ 1000) (hgl : ∀ (i : Nat) x, l[i]? = some x → x.gs.length ≤ 1000) : Calls Try.prog 9 #[v] w fun e W' => MvPost l e W' ∧ Below w.heap.size w W' := by
  obtain ⟨va, vc, rfl⟩ := hv.slice
  have hF := linked_any l _ w hv hl hgl
  obtain ⟨i0, hi, hz0, hz1, hz2⟩ := info_parts Try.info3
  obtain ⟨N, hN⟩ : ∃ N, w.heap.size = N := ⟨_, rfl⟩
  rw [hN] at hF ⊢
  have HN : Hid (w.heap.size = N) := hN
  have HV : Hid (∀ W, Below N w W → Cl W (.slice va l.length vc) l) := fun W hW => hv.on hW (by omega)
  have HL : Hid (l.length ≤ 1000) := hl
  obtain ⟨T, hT⟩ : ∃ T, foB l l.length = T := ⟨_, rfl⟩
  have HP : Hid (∀ e W', MvPost l e W' ↔ if T = true then ∃ u, e = .returned (.tuple #[u, .int .i64 0]) ∧ Il W' u (mvS l (l.length - 1)) else e = .returned (.tuple #[.slice none 0 0, .int .i64 4])) := fun e W' => by rw [MvPost, hT]
  rw [hT] at hF
  clear hv hN hgl hl hT
  cases T with
  | false =>
    rw [if_neg (by decide)] at hF
    go_enter Try.func9, Try.ntmps9
    go_wp2_with (first
      | (go_at_call 22; refine hF.mono ?_; clear hF; rintro e w1 ⟨rfl, hB⟩)
      | fail)
    exact bodyPost_ret (v := .tuple #[.slice none 0 0, .int .i64 4]) (by simp [results, Try.f9, go_sem]) rfl ⟨(HP.out _ _).2 rfl, hB⟩
  | true =>
  rw [if_pos rfl] at hF
  go_enter Try.func9, Try.ntmps9
  go_wp2_with (first
    | (go_at_call 22; refine hF.mono ?_; clear hF; rintro e w1 ⟨rfl, hB⟩)
    | fail)
  have HB1 : Hid (Below N w w1) := hB
  clear hB
  go_loopg [5, 6] l.length (fun gk s j wr => ∃ (im n : Nat), n = im + 1 ∧ n + gk = l.length + 1 ∧ (n = 1 ∨ n ≤ l.length) ∧ j = .int .i64 n ∧ wr.ownsRow N 3 1 s im (zcs (mvS l im)) ∧ Below N w wr)
  case atStart => exact ⟨0, 1, rfl, by omega, .inl rfl, rfl, World.ownsRow_nil _ _ _ _, HB1.out⟩
  case round =>
    obtain ⟨im, n, hnm, hnn, hor, rfl, hown, hB⟩ := hrel
    obtain ⟨ma, mc, rfl⟩ := owns_slice hown
    by_cases hn2 : n < l.length
    · obtain ⟨q, hq⟩ : ∃ q, l[im]? = some q := ⟨_, List.getElem?_eq_getElem (by omega)⟩
      obtain ⟨x, hx⟩ : ∃ x, l[n]? = some x := ⟨_, List.getElem?_eq_getElem (by omega)⟩
      have hat := mvS_at hq (by rw [← hnm]; exact hx)
      obtain ⟨P, hPe⟩ : ∃ P, cgO q = P := ⟨_, rfl⟩
      obtain ⟨Q, hQe⟩ : ∃ Q, cgO x = Q := ⟨_, rfl⟩
      have hM : mvI q x = mvN P Q 4 := by rw [mvI, hPe, hQe]
      rw [hM] at hat
      have hV := HV.out _ hB
      obtain ⟨g0, e', gv, hg', hgb, hil, y⟩ := hV.at hx
      subst hg'
      obtain ⟨g1, e1', gv1, hg1, -, hil1, z⟩ := hV.at hq
      injection hg1 with hg1
      injection hg1 with hga hgb'
      subst hga
      subst hgb'
      obtain ⟨num, gs, o0, o1, o2, o3⟩ := x
      obtain ⟨pn, pgs, q0, q1, q2, q3⟩ := q
      have HC : Hid (∀ k, k < 4 → wr.cell? ⟨g0, e' + im * 6 + 2 + k, none⟩ = some (.int .i64 (P.getD k 0)) ∧ wr.cell? ⟨g0, e' + n * 6 + 2 + k, none⟩ = some (.int .i64 (Q.getD k 0))) := fun k hk => by
        rw [Nat.add_assoc, Nat.add_assoc (e' + n * 6)]
        constructor
        · refine z (2 + k) _ (cf_at _ _ _ _ _ _ k _ ?_)
          have hk4 : k < [q0, q1, q2, q3].length := hk
          rw [← hPe]; show [q0, q1, q2, q3][k]? = some ([q0, q1, q2, q3].getD k 0)
          rw [List.getD_eq_getElem?_getD, List.getElem?_eq_getElem hk4]; rfl
        · refine y (2 + k) _ (cf_at _ _ _ _ _ _ k _ ?_)
          have hk4 : k < [o0, o1, o2, o3].length := hk
          rw [← hQe]; show [o0, o1, o2, o3][k]? = some ([o0, o1, o2, o3].getD k 0)
          rw [List.getD_eq_getElem?_getD, List.getElem?_eq_getElem hk4]; rfl
      have HB : Hid (Below N w wr) := hB
      have HNW : Hid (N ≤ wr.heap.size) := by have := hB.size; have := HN.out; show N ≤ wr.heap.size; omega
      have HO : Hid (wr.ownsRow N 3 1 (.slice ma im mc) im (zcs (mvS l im))) := hown
      have HAT : Hid (mvS l (im + 1) = mvS l im ++ [((mvN P Q 4 : Nat) : Int)]) := hat
      have HNM : Hid (n = im + 1 ∧ n + gk = l.length + 1 ∧ n < l.length) := ⟨hnm, hnn, hn2⟩
      have d0 : (0 : Int) ≤ (n : Int) := by omega
      have d1 : (n : Int) < (l.length : Int) := by omega
      have hnb : n ≤ 1000 := by have := HL.out; omega
      have hii2 : (n : Int) - 1 = (im : Int) := by omega
      have dm0 : (0 : Int) ≤ (im : Int) := by omega
      have dm1 : (im : Int) < (l.length : Int) := by omega
      have dm5 : im ≤ 1000 := by omega
      have dmw : IntKind.i64.wrap (im : Int) = (im : Int) := wrap_small _ (by omega) (by omega)
      clear hnm hnn hn2 hq hx hat hM hPe hQe hV hil hil1 y z hown hB hgb hor
      go_wp2_with fail
      go_loopg [7, 8] 4 (fun gk2 c j wr2 => ∃ k : Nat, k + gk2 = 4 ∧ j = .int .i64 k ∧ c = .int .i64 (mvN P Q k) ∧ ∃ m, wr2 = wr.drewN m)
      case atStart => exact ⟨0, by omega, rfl, rfl, 0, rfl⟩
      case round =>
        obtain ⟨k, hk, rfl, rfl, m, rfl⟩ := hrel
        have hm := mvN_le P Q k
        by_cases hlt : k < 4
        · obtain ⟨a0, b0⟩ := HC.out k hlt
          obtain ⟨a, ha⟩ : ∃ a, P.getD k 0 = a := ⟨_, rfl⟩
          obtain ⟨b, hb⟩ : ∃ b, Q.getD k 0 = b := ⟨_, rfl⟩
          have hs : mvN P Q (k + 1) = if a ≠ 0 ∧ a ≠ b then mvN P Q k + 1 else mvN P Q k := by rw [mvN, ha, hb]
          obtain ⟨M, hM⟩ : ∃ M, mvN P Q k = M := ⟨_, rfl⟩
          rw [ha] at a0
          rw [hb] at b0
          rw [hM] at hs hm ⊢
          have HS : Hid (mvN P Q (k + 1) = if a ≠ 0 ∧ a ≠ b then M + 1 else M) := hs
          have k0 : (0 : Int) ≤ (k : Int) := by omega
          have k1 : (k : Int) < 4 := by omega
          have k2 : k < 4 := hlt
          have k3 : M ≤ 4 := by omega
          clear hs ha hb hM
          by_cases h1 : a = 0
          · subst h1
            have hS2 : mvN P Q (k + 1) = M := by rw [HS.out, if_neg (fun e => e.1 rfl)]
            go_upto_region 12 with fail
            go_quiet (fail)
            go_wp2_with fail
            go_roundg (4 - (k + 1))
            case measure => omega
            case rel => exact ⟨k + 1, by omega, by go_num, by rw [hS2], _, rfl⟩
          · by_cases h2 : a = b
            · subst h2
              have e1 : (a != 0) = true := by simpa using h1
              have hS2 : mvN P Q (k + 1) = M := by rw [HS.out, if_neg (fun e => e.2 rfl)]
              go_upto_region 12 with fail
              go_quiet (fail)
              go_wp2_with fail
              go_roundg (4 - (k + 1))
              case measure => omega
              case rel => exact ⟨k + 1, by omega, by go_num, by rw [hS2], _, rfl⟩
            · have hS2 : mvN P Q (k + 1) = M + 1 := by rw [HS.out, if_pos ⟨h1, h2⟩]
              have e1 : (a != 0) = true := by simpa using h1
              have e2 : (a != b) = true := by simpa using h2
              go_upto_region 12 with fail
              go_quiet (fail)
              go_wp2_with fail
              go_roundg (4 - (k + 1))
              case measure => omega
              case rel => exact ⟨k + 1, by omega, by go_num, by rw [hS2]; go_num, _, rfl⟩
        · have : k = 4 := by omega
          subst this
          obtain ⟨M, hMM⟩ : ∃ M, mvN P Q 4 = M := ⟨_, rfl⟩
          rw [hMM] at HAT hm ⊢
          have hb4 := (Below.refl (wr.drewN m).heap.size (wr.drewN m)).alloc (Nat.le_refl _) (.cells #[.int .i64 M] 3)
          have hO2 := owns_next (owns_next HO.out (below_drewN (Below.refl _ wr) m)) hb4
          have hN2 : N ≤ ((wr.drewN m).alloc (.cells #[.int .i64 M] 3)).heap.size := Nat.le_trans HNW.out hb4.size
          go_wp2_with (first
            | (at_builtin; refine wpList_append_lies _ rfl _ _ 25 rfl N 3 i0 (.int .i64 0) 1 8 Try.underlying25 hi hz0 hz1 hz2 rfl (by decide) (.slice ma im mc) im (zcs (mvS l im)) rfl hO2 ⟨(wr.drewN m).heap.size, 0, none⟩ 1 1 [.int .i64 M] rfl rfl (World.news_of_block (heap_alloc_new _ _)) (by simp [Value.oneCell']) (by decide) (by unfold maxLen; omega) (by omega) hN2 _ rfl ?_; intro ga ca w7 hown7 hgrow hat hlt7)
            | fail)
          have hBG : Below N w w7 := below_grown ((below_drewN HB.out m).alloc HNW.out (.cells #[.int .i64 M] 3)) hgrow (fun j hj => (HO.out.lt j hj).1) hN2
          go_roundg (l.length - n)
          case measure => have := HNM.out; omega
          case rel =>
            obtain ⟨h1, h2, h3⟩ := HNM.out
            refine ⟨im + 1, n + 1, by omega, by omega, .inr (by omega), by go_num, ?_, hBG⟩
            rw [HAT.out, zcs_snoc]; exact hown7
    · have hnl : l.length - 1 = im := by omega
      rw [hnl] at HP
      have HF : Hid (wr.ownsRow N 3 1 (.slice ma im mc) im (zcs (mvS l im)) ∧ Below N w wr) := ⟨hown, hB⟩
      clear hown hB HV hnl hnm hnn hor
      have hq : ¬ (n : Int) < (l.length : Int) := by omega
      go_wp2_with fail
      refine bodyPost_ret (v := .tuple #[.slice ma im mc, .int .i64 0]) (by simp [results, Try.f9, go_sem]) rfl ⟨(HP.out _ _).2 ?_, HF.out.2⟩
      rw [if_pos trivial]
      exact ⟨_, rfl, Il_owns (by rw [mvS_len]; exact HF.out.1)⟩
end Go.Proofs.Ytcehmaegnfelhaa
