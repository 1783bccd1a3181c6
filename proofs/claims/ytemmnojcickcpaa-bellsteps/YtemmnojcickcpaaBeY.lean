/- The document's own bell, walked: Tick goes on. -/
import Derived.Test.YtemmnojcickcpaaBeX
namespace Go.Proofs.Ytemmnojcickcpaa
open Go.RowKit
attribute [local go_sem ↓] Go.wp_at_zero Go.wp_at_succ

set_option maxRecDepth 20000 in
set_option maxHeartbeats 8000000 in
theorem rTick_ok {w : World} {R : Nat} {F : Ft} {now : Int} (h : RefAt w R F now) (hp : Pos F) (b : Int) (h1 : 0 ≤ b) (h2 : b ≤ 4096) (hw0 : 0 ≤ now) (hl : now + b ≤ 1099511627776) :
    Calls Try.prog 42 #[.pointer (some ⟨R, 0, none⟩), .int .i64 b] w fun e W' => ∃ u Q, e = .returned (.tuple #[u, .int .i64 0]) ∧ W'.ownsRow w.heap.size 3 1 u Q.length (mcs Q) ∧ Rings F (now + b) Q ∧ RefAt W' R (late F (now + b)) (now + b) ∧ MovR R w W' := by
  obtain ⟨i0, hi0, hz0, hz1, hz2⟩ := info_parts Try.info3
  have c0 := h.now
  have f0 := h.frozen 0
  have hq0 : decide (1099511627776 - b < now) = false := decide_eq_false (by omega)
  obtain ⟨q, hq⟩ : ∃ q, now + b = q := ⟨_, rfl⟩
  have hwr : IntKind.i64.wrap (now + b) = q := by rw [wrap_id8 _ (by omega) (by omega), hq]
  rw [hq]
  have hS : Rf w R F q (.slice none 0 0) [] (w.setCell ⟨R, 0, none⟩ (.int .i64 q)) := ⟨h.tick q, World.ownsRow_nil _ _ _ _, h.lt, movR_set _ _ _ _⟩
  have HP : Hid (Pos F) := hp
  have hq1 : q ≤ 1099511627776 := by omega
  clear hp h hl
  go_enter Try.func42, Try.ntmps42
  go_upto_region 7 with fail
  clear c0 f0 hq0 hwr hq
  go_loopg [6] 16 (fun gk p wr => ∃ (Fc : Ft) (Q : List Tm), Q.length + gk = 16 ∧ Rf w R Fc q p Q wr ∧ Hid (Inv F Fc q Q))
  case atStart => exact ⟨F, [], rfl, hS, Inv.start _ _⟩
  case round =>
    obtain ⟨Fc, Q, hgk, hG, HI⟩ := hrel
    clear hS
    have HC : Hid (Pos Fc) := HI.out.pos HP.out
    have hn := next_is HC.out
    have hNx : ∀ n, Calls Try.prog 27 #[.pointer (some ⟨R, 0, none⟩)] (wr.drewN n) fun e W' => e = .returned (.int .i64 (nextTo Fc 16)) ∧ W' = wr.drewN n := fun n => rNext_any (hG.next (below_drewN (Below.refl _ _) n)).ref
    have c0 := hG.ref.now
    obtain ⟨x, hx⟩ : ∃ x, nextTo Fc 16 = x := ⟨_, rfl⟩
    rw [hx] at hn hNx
    have HX : Hid (nextTo Fc 16 = x) := hx
    clear hx
    rcases hn with ⟨e, hnone⟩ | ⟨h3, hat, hle⟩
    · have hx0 : decide (0 ≤ x) = false := decide_eq_false (by omega)
      have HD := HI.out.done (fun n d s hF => by rw [hnone] at hF; cases hF)
      obtain ⟨hri, hla⟩ := HD
      have HR : Hid (Rings F q Q) := hri
      have HL : Hid (Fc = late F q) := hla
      clear hri hla hnone e
      go_upto_region 7 with fail
      go_quiet (first | (go_at_call 27; refine Calls.quiet_of_same (hNx _)))
      clear hNx c0
      go_wp2
      go_ret2
      have hG2 := hG.next (below_drewN (Below.refl _ _) nq)
      exact ⟨_, Q, rfl, hG2.row, HR.out, by rw [← HL.out]; exact hG2.ref, hG2.mv⟩
    · by_cases hxq : x ≤ q
      · have hx0 : 0 ≤ x := by omega
        have hx1 : decide (x ≤ q) = true := decide_eq_true hxq
        have HS0 : Hid (Some' Q Q Fc x 0) := by
          obtain ⟨n, s, hn, hF⟩ := hat
          exact .inr ⟨rfl, n, s, Nat.zero_le _, hn, hF⟩
        have HP0 : Hid (Past Fc x 0) := fun n d s hF => ⟨hle n d s hF, fun hn => by have := (HC.out n d s hF).2.1; omega⟩
        have HXQ : Hid (x ≤ q ∧ 1 ≤ x) := ⟨hxq, h3⟩
        clear hat hle
        go_upto_region 7 with fail
        go_quiet (first | (go_at_call 27; refine Calls.quiet_of_same (hNx _)))
        have hG2 := hG.next (below_drewN (Below.refl _ _) nq)
        obtain ⟨W2, hW2⟩ : ∃ W, wr.drewN nq = W := ⟨_, rfl⟩
        rw [hW2] at hG2 ⊢
        have hN2 := rNext_any hG2.ref
        rw [HX.out] at hN2
        clear hNx c0 hW2 hG
        go_upto_region 10 with (go_at_call 27; refine hN2.mono ?_; rintro e w3 ⟨rfl, hz⟩; subst hz)
        clear hN2
        go_loopg [6, 8] 16 (fun gk p i wr => ∃ (k : Nat) (Fd : Ft) (Q2 : List Tm), k + gk = 16 ∧ i = .int .i64 k ∧ Rf w R Fd q p Q2 wr ∧ Hid (Inv F Fd q Q2) ∧ Hid (Past Fd x k) ∧ Hid (Some' Q Q2 Fd x k))
        case atStart => exact ⟨0, Fc, Q, rfl, rfl, hG2, HI, HP0, HS0⟩
        case round =>
          obtain ⟨k, Fd, Q2, hk, rfl, hG, HI2, HP2, HS2⟩ := hrel
          clear hG2 HP0 HS0 HI
          by_cases hk16 : k < 16
          · have k0 : (0 : Int) ≤ (k : Int) := by omega
            have k1 : (k : Int) < 16 := by omega
            have c1 := hG.ref.due' k hk16
            by_cases hr : rdue (Fd k) = x
            · have hfew := HI2.out.few HP.out
              obtain ⟨s, hFs⟩ : ∃ s, Fd k = some (x, s) := by
                cases hF : Fd k with
                | none =>
                  rw [hF] at hr
                  have h9 := HXQ.out.2
                  simp only [rdue] at hr
                  omega
                | some y =>
                  obtain ⟨d, s⟩ := y
                  rw [hF] at hr
                  exact ⟨s, by rw [show d = x from hr]⟩
              rw [hr] at c1
              have hee : (x == x) = true := by simp
              have HI3 : Hid (Inv F (upd Fd k none) q (Q2 ++ [((k : Int), x, s)])) := HI2.out.step hFs HXQ.out.1 (past_least HP2.out)
              have HP3 : Hid (Past (upd Fd k none) x (k + 1)) := past_take HP2.out
              have HS3 : Hid (Some' Q (Q2 ++ [((k : Int), x, s)]) (upd Fd k none) x (k + 1)) := .inl (by
                rw [List.length_append]
                rcases HS2.out with h | ⟨h, _⟩
                · show _ < _ + 1; omega
                · show _ < _ + 1; omega)
              have hb4 : Below wr.heap.size wr (wr.alloc (.cells #[.int .i64 k] 3)) := (Below.refl _ _).alloc (Nat.le_refl _) _
              have hG4 := hG.next hb4
              have hml : Q2.length + 1 ≤ maxLen := by unfold maxLen; omega
              have hkb : (Q2.length + 1) * 8 ≤ 140737488355328 := by omega
              have hle : w.heap.size ≤ (wr.alloc (.cells #[.int .i64 k] 3)).heap.size := hG4.mv.size
              have HG4 : Hid (_) := hG4
              clear hG4 hb4 hG hr hFs
              go_wp2_with (at_builtin; refine wpList_append_lies _ rfl _ _ 41 rfl w.heap.size 3 i0 (.int .i64 0) 1 8 Try.underlying41 hi0 hz0 hz1 hz2 rfl (by decide) u6 Q2.length (mcs Q2) rfl HG4.out.row ⟨wr.heap.size, 0, none⟩ 1 1 [.int .i64 k] rfl rfl (World.news_of_block (heap_alloc_new _ _)) (by simp [Value.oneCell']) (by decide) hml hkb hle _ rfl ?_; intro gg cc w5 hown hgrow hat hlt5; have hG5 := HG4.out.grown (t := ((k : Int), x, s)) hgrow hown; have c5 := hG5.ref.due' k hk16; have f5 := hG5.ref.frozen (1 + k))
              go_roundg (16 - (k + 1))
              case measure => omega
              case rel => exact ⟨k + 1, _, _, by omega, by go_num, hG5.off k hk16, HI3, HP3, HS3⟩
            · have HP3 : Hid (Past Fd x (k + 1)) := past_skip HP2.out hr
              have HS3 : Hid (Some' Q Q2 Fd x (k + 1)) := some_skip HS2.out hr
              have hee : (rdue (Fd k) == x) = false := by simp [hr]
              obtain ⟨r, hre⟩ : ∃ r, rdue (Fd k) = r := ⟨_, rfl⟩
              rw [hre] at c1 hee
              clear hr hre
              go_wp2_with fail
              go_roundg (16 - (k + 1))
              case measure => omega
              case rel => exact ⟨k + 1, _, _, by omega, by go_num, hG, HI2, HP3, HS3⟩
          · have hk16 : k = 16 := by omega
            subst hk16
            have hm : Q.length < Q2.length := by
              rcases HS2.out with h | ⟨_, n, s, h4, h5, _⟩
              · exact h
              · omega
            have hfew := HI2.out.few HP.out
            go_wp2_with fail
            go_roundg (16 - Q2.length)
            case measure => omega
            case rel => exact ⟨Fd, Q2, by omega, hG, HI2⟩
      · have hx0 : 0 ≤ x := by omega
        have hx1 : decide (x ≤ q) = false := decide_eq_false hxq
        have HD := HI.out.done (fun n d s hF => by have := hle _ _ _ hF; omega)
        obtain ⟨hri, hla⟩ := HD
        have HR : Hid (Rings F q Q) := hri
        have HL : Hid (Fc = late F q) := hla
        clear hri hla hat hle hxq
        go_upto_region 7 with fail
        go_quiet (first | (go_at_call 27; refine Calls.quiet_of_same (hNx _)))
        clear hNx c0
        go_wp2
        go_ret2
        have hG2 := hG.next (below_drewN (Below.refl _ _) nq)
        exact ⟨_, Q, rfl, hG2.row, HR.out, by rw [← HL.out]; exact hG2.ref, hG2.mv⟩
end Go.Proofs.Ytemmnojcickcpaa
