/- The bell's ring, walked. -/
import Derived.Test.YtemmnojcickcpaaBeI
import Derived.Deep.QuietTactic
namespace Go.Proofs.Ytemmnojcickcpaa
open Go.RowKit
attribute [local go_sem ↓] Go.wp_at_zero Go.wp_at_succ

/-- The names of timers, as cells. -/
def mcs (P : List Tm) : List Value := P.map fun t => Value.int .i64 t.1
theorem mcs_snoc (P : List Tm) (t : Tm) : mcs (P ++ [t]) = mcs P ++ [.int .i64 t.1] := by simp [mcs]
theorem Try.info3 : (Try.prog.info? 3).map (fun i => (i.zero, i.size, i.bytes)) = some (some (.int .i64 0), 1, 8) := by kernel_rfl
/-- A bell, and beside it a slice of names. -/
structure Rg (w0 : World) (base B : Nat) (v0 v : Value) (l : List Tm) (now : Int) (u : Value) (P : List Tm) (wr : World) : Prop where
  bell : BellAt base wr B v l now
  row : wr.ownsRow w0.heap.size 3 1 u P.length (mcs P)
  n1 : u.ownBlock ≠ some B
  n2 : ∀ k, v.ownBlock = some k → u.ownBlock ≠ some k
  mv : Moved B v0 v w0 wr
theorem Rg.next {w0 : World} {base B : Nat} {v0 v : Value} {l : List Tm} {now : Int} {u : Value} {P : List Tm} {wr wr' : World} (h : Rg w0 base B v0 v l now u P wr) (hb : Below wr.heap.size wr wr') : Rg w0 base B v0 v l now u P wr' :=
  ⟨h.bell.next hb, owns_kept h.row (fun k hk => hb.block k (h.row.lt k hk).2), h.n1, h.n2, h.mv.trans (Moved.of_below hb _ _)⟩
theorem Rg.moved {w0 : World} {base B : Nat} {v0 v v' : Value} {l l' : List Tm} {now : Int} {u : Value} {P : List Tm} {wr wr' : World} (h : Rg w0 base B v0 v l now u P wr) (hm : Moved B v v' wr wr') (hb : BellAt base wr' B v' l' now) : Rg w0 base B v0 v' l' now u P wr' :=
  ⟨hb, owns_kept h.row (fun k hk => hm.block k (h.row.lt k hk).2 (fun e => h.n1 (by rw [← e]; exact hk)) (fun e => h.n2 k e hk)), h.n1, fun k h1 h2 => by
    rcases hm.own k h1 with e | e
    · exact h.n2 k e h2
    · have := (h.row.lt k h2).2; omega, h.mv.trans hm⟩
theorem Rg.grown {w0 : World} {base B : Nat} {v0 v : Value} {l : List Tm} {now : Int} {u : Value} {P : List Tm} {wr wr' : World} (h : Rg w0 base B v0 v l now u P wr) {t : Tm} {g cap : Nat} (hg : wr.grownBy wr' u.ownBlock)
    (ho : wr'.ownsRow w0.heap.size 3 1 (.slice (some ⟨g, 0, none⟩) (P.length + 1) cap) (P.length + 1) (mcs P ++ [.int .i64 t.1])) (hat : u.ownBlock = some g ∨ g = wr.heap.size) : Rg w0 base B v0 v l now (.slice (some ⟨g, 0, none⟩) (P.length + 1) cap) (P ++ [t]) wr' := by
  have hlt := h.bell.lt
  refine ⟨h.bell.keep (hg.block B hlt (fun e => h.n1 e.symm)) (fun k hk => hg.block k (h.bell.own.lt k hk).2 (fun e => h.n2 k hk e.symm)), ?_, ?_, ?_, ?_⟩
  · rw [mcs_snoc, List.length_append]; exact ho
  · intro e
    have e2 : g = B := Option.some.inj e
    rcases hat with e3 | e3
    · exact h.n1 (by rw [e3, e2])
    · omega
  · intro k h1 e
    have e2 : g = k := Option.some.inj e
    rcases hat with e3 | e3
    · exact h.n2 k h1 (by rw [e3, e2])
    · have := (h.bell.own.lt k h1).2; omega
  · exact ⟨hg.os.trans h.mv.os, hg.tape.trans h.mv.tape, hg.output.trans h.mv.output, Nat.le_trans h.mv.size hg.size, fun k hk h1 h2 => (hg.block k (Nat.lt_of_lt_of_le hk h.mv.size) (fun e => by have := (h.row.lt k e.symm).1; omega)).trans (h.mv.block k hk h1 h2), h.mv.own⟩

set_option maxRecDepth 20000 in
set_option maxHeartbeats 4000000 in
theorem ring_any {base : Nat} {w : World} {B : Nat} {v : Value} {F : Ft} {now : Int} (h : BelSt base w B v F now) :
    Calls Try.prog 47 #[.pointer (some ⟨B, 0, none⟩)] w fun e W' => ∃ u P v', e = .returned u ∧ W'.ownsRow w.heap.size 3 1 u P.length (mcs P) ∧ Rings F now P ∧ BelSt base W' B v' (late F now) now ∧ Moved B v v' w W' := by
  obtain ⟨l0, h1, hH, hR⟩ := h
  have hfew := hR.few
  obtain ⟨i0, hi0, hz0, hz1, hz2⟩ := info_parts Try.info3
  have HR : Hid (Rep l0 F) := hR
  have hS : Rg w base B v v l0 now (.slice none 0 0) [] w := ⟨h1, World.ownsRow_nil _ _ _ _, fun e => (by cases e), fun k _ e => (by cases e), Moved.refl _ _ _⟩
  clear hR
  go_enter Try.func47, Try.ntmps47
  go_wp2_with fail
  go_loopg [3] l0.length (fun gk p wr => ∃ (vr : Value) (l P : List Tm), l.length = gk ∧ Rg w base B v vr l now p P wr ∧ Hid (Hp l.length (gf l)) ∧ Hid (Rung l0 l P now) ∧ P.length ≤ 16)
  case atStart => exact ⟨v, l0, [], rfl, hS, hH, Rung.start _ _, by simp⟩
  case round =>
    obtain ⟨vr, l, P, hgk, hG, HH, HU, hPl⟩ := hrel
    clear hS hH h1
    have hlen : l.length + P.length ≤ 16 := by
      have := HU.out.perm.length_eq
      rw [List.length_append] at this
      omega
    obtain ⟨a, cap, hv⟩ := hG.bell.slice
    have c0 := cellB hG.bell.blk 0 vr rfl
    rw [hv] at c0
    have c1 := cellB hG.bell.blk 1 (.int .i64 now) rfl
    by_cases h0 : l.length = 0
    · obtain ⟨hrep, hrings⟩ := HU.out.done HR.out HH.out (.inl h0)
      have HZ : Hid (BelSt base wr B vr (late F now) now) := ⟨l, hG.bell, HH.out, hrep⟩
      have HRi : Hid (Rings F now P) := hrings
      rw [h0] at c0
      clear hrep hrings h0 hgk
      go_wp2_with fail
      go_region
      all_goals
        go_wp2
        go_ret
        exact ⟨u3, P, vr, rfl, hG.row, HRi.out, HZ.out.next (below_drew (Below.refl _ _)), hG.mv.trans (Moved.of_below (below_drew (Below.refl _ _)) _ _)⟩
    · have hl0 : 0 < l.length := by omega
      obtain ⟨⟨t0, t1, t2⟩, ht⟩ : ∃ t, l[0]? = some t := ⟨_, List.getElem?_eq_getElem hl0⟩
      obtain ⟨g, cap', hgv, hg1, hg2, hg3, hcap, hcs⟩ := hG.bell.at hl0
      rw [hv] at hgv
      injection hgv with e1 _ e2
      subst e1 e2
      obtain ⟨x0, x1, x2⟩ := hcs 0 _ ht
      simp only [Nat.zero_mul, Nat.zero_add] at x0 x1 x2
      have hgt : gf l 0 = (t0, t1, t2) := gf_at ht
      have l1 : (0 : Int) < (l.length : Int) := by omega
      have HGK : Hid (l.length = gk) := hgk
      have HV : Hid (vr = .slice (some ⟨g, 0, none⟩) l.length cap) := hv
      have hGd := hG.next (below_drew (Below.refl _ wr))
      have hPo := hPop_any hGd.bell hl0 (by omega) HH.out
      rw [hgt] at hPo
      simp only at hPo
      have hta := isTimer t0 t1 t2
      clear hcs ht hgk hv h0
      by_cases hdue : t1 ≤ now
      · have hq : decide (t1 ≤ now) = true := by simp [hdue]
        go_wp2_with fail
        go_region_held3 (fun w' => w'.cell? ⟨B, 0, none⟩ = some (.slice (some ⟨g, 0, none⟩) l.length cap) ∧ w'.cell? ⟨g, 1, none⟩ = some (.int .i64 t1) ∧ w'.cell? ⟨B, 1, none⟩ = some (.int .i64 now)) (go_keep) (fail)
        clear x0 x1 x2 c0 c1
        go_wp2_with fail
        refine hPo.mono ?_
        rintro e w2 ⟨rfl, v2, l2, h2, hp2, hh2, hm2⟩
        have hG2 := hGd.moved hm2 h2
        have HU2 : Hid (Rung l0 l2 (P ++ [(t0, t1, t2)]) now) := by
          have hone : (l.map (·.1)).Nodup := by
            have h3 := (HR.out.perm HU.out.perm.symm).one
            rw [List.map_append, List.nodup_append] at h3
            exact h3.1
          have h4 := HU.out.step hone HH.out hl0 (by rw [hgt]; exact hdue) (by rw [hgt]; exact hp2)
          rw [hgt] at h4
          exact h4
        have HL2 : Hid (l2.length + 1 = l.length) := by show _ = _; rw [hp2.length_eq]; simp
        have HH2 : Hid (Hp l2.length (gf l2)) := hh2
        clear hPo hp2 hh2 hm2 h2 hGd hG HU HH hgt
        go_upto_region 5 with fail
        have hb3 : Below w2.heap.size w2 (w2.alloc (.cells #[.int .i64 t0, .int .i64 t1, .int .i64 t2] 92)) := (Below.refl _ _).alloc (Nat.le_refl _) _
        have s3 := heap_alloc_new w2 (.cells #[.int .i64 t0, .int .i64 t1, .int .i64 t2] 92)
        have hG3 := hG2.next hb3
        obtain ⟨W3, hW3⟩ : ∃ W, w2.alloc (.cells #[.int .i64 t0, .int .i64 t1, .int .i64 t2] 92) = W := ⟨_, rfl⟩
        rw [hW3] at s3 hG3 ⊢
        have y0 := cellB s3 0 (.int .i64 t0) rfl
        have hb4 : Below W3.heap.size W3 (W3.alloc (.cells #[.int .i64 t0] 3)) := (Below.refl _ _).alloc (Nat.le_refl _) _
        have hG4 := hG3.next hb4
        have hml : P.length + 1 ≤ maxLen := by unfold maxLen; omega
        have hkb : (P.length + 1) * 8 ≤ 140737488355328 := by omega
        have hle : w.heap.size ≤ (W3.alloc (.cells #[.int .i64 t0] 3)).heap.size := hG4.mv.size
        clear hW3 s3 hG2 hG3 hb3 hb4 hta
        go_wp2_with (at_builtin; refine wpList_append_lies _ rfl _ _ 41 rfl w.heap.size 3 i0 (.int .i64 0) 1 8 Try.underlying41 hi0 hz0 hz1 hz2 rfl (by decide) u3 P.length (mcs P) rfl hG4.row ⟨W3.heap.size, 0, none⟩ 1 1 [.int .i64 t0] rfl rfl (World.news_of_block (heap_alloc_new _ _)) (by simp [Value.oneCell']) (by decide) hml hkb hle _ rfl ?_; intro gg cc w5 hown hgrow hat hlt5)
        go_roundg l2.length
        case measure => have h5 := HL2.out; have h6 := HGK.out; omega
        case rel => exact ⟨v2, l2, _, rfl, hG4.grown (t := (t0, t1, t2)) hgrow hown hat, HH2, HU2, by have := HL2.out; simp; omega⟩
      · have hdue2 : now < t1 := by omega
        have hq : decide (t1 ≤ now) = false := by simp; omega
        obtain ⟨hrep, hrings⟩ := HU.out.done HR.out HH.out (.inr (by rw [hgt]; exact hdue2))
        have HZ : Hid (BelSt base wr B vr (late F now) now) := ⟨l, hG.bell, HH.out, hrep⟩
        have HRi : Hid (Rings F now P) := hrings
        clear hrep hrings hPo hdue hta
        go_wp2_with fail
        go_region_held3 (fun w' => w'.cell? ⟨B, 0, none⟩ = some (.slice (some ⟨g, 0, none⟩) l.length cap) ∧ w'.cell? ⟨g, 1, none⟩ = some (.int .i64 t1) ∧ w'.cell? ⟨B, 1, none⟩ = some (.int .i64 now)) (go_keep) (fail)
        go_wp2
        go_ret
        exact ⟨u3, P, vr, rfl, hG.row, HRi.out, HZ.out.next (below_drew (Below.refl _ _)), hG.mv.trans (Moved.of_below (below_drew (Below.refl _ _)) _ _)⟩
end Go.Proofs.Ytemmnojcickcpaa
