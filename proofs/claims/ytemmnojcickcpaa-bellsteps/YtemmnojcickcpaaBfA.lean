/- The law's step of two bells, walked. -/
import Derived.Test.YtemmnojcickcpaaBeZ
namespace Go.Proofs.Ytemmnojcickcpaa
open Go.RowKit
attribute [local go_sem ↓] Go.wp_at_zero Go.wp_at_succ

theorem does_other {w0 : World} {B R : Nat} {v : Value} {F : Ft} {now : Int} {w : World} (h : Tb w0 B v R F now w) (what i n : Int) (hw : what < 0 ∨ 4 < what) :
    Calls Try.prog 25 #[.pointer (some ⟨B, 0, none⟩), .pointer (some ⟨R, 0, none⟩), .agg #[.int .i64 what, .int .i64 i, .int .i64 n]] w fun e W' => e = .returned (.bool true) ∧ ∃ v' F' now', Tb w0 B v' R F' now' W' ∧ Free B v R w W' := by
  have hb0 : Below w.heap.size w (w.alloc (.cells #[.int .i64 what, .int .i64 i, .int .i64 n] 59)) := (Below.refl _ w).alloc (Nat.le_refl _) _
  have h0 := h.next hb0
  have q0 : (what == 0) = false := by simp; omega
  have q1 : (what == 1) = false := by simp; omega
  have q2 : (what == 2) = false := by simp; omega
  have q3 : (what == 3) = false := by simp; omega
  have q4 : (what == 4) = false := by simp; omega
  clear hw
  go_enter Try.func25, Try.ntmps25
  go_wp2
  go_ret
  exact ⟨rfl, v, F, now, h0, Free.of hb0 (Moved.refl _ _ _) (Moved.refl _ _ _)⟩
set_option maxRecDepth 20000 in
set_option maxHeartbeats 4000000 in
theorem does_off {w0 : World} {B R : Nat} {v : Value} {F : Ft} {now : Int} {w : World} (h : Tb w0 B v R F now w) (i n : Int) :
    Calls Try.prog 25 #[.pointer (some ⟨B, 0, none⟩), .pointer (some ⟨R, 0, none⟩), .agg #[.int .i64 2, .int .i64 i, .int .i64 n]] w fun e W' => e = .returned (.bool true) ∧ ∃ v' F' now', Tb w0 B v' R F' now' W' ∧ Free B v R w W' := by
  have hb0 : Below w.heap.size w (w.alloc (.cells #[.int .i64 2, .int .i64 i, .int .i64 n] 59)) := (Below.refl _ w).alloc (Nat.le_refl _) _
  have h0 := h.next hb0
  have hSB : w.heap.size ≠ B := by have := h.two.bell.lt; omega
  have hSR : w.heap.size ≠ R := by have := h.two.ref.lt; omega
  have hSo : v.ownBlock ≠ some w.heap.size := fun e => by have := (h.two.bell.ownlt _ e).2; omega
  obtain ⟨x, E, F', hp', hA, hR⟩ := off_both (B := B) (R := R) (now := now) h.pos i
  have HP : Hid (Pos F') := hp'
  have HN : Hid (0 ≤ now ∧ now ≤ 1099511627776) := ⟨h.n0, h.n1⟩
  clear hp' h
  go_enter Try.func25, Try.ntmps25
  go_upto_region 6 with fail
  have y0 := heap_alloc_new w (.cells #[.int .i64 2, .int .i64 i, .int .i64 n] 59)
  obtain ⟨W0, hW0⟩ : ∃ W, w.alloc (.cells #[.int .i64 2, .int .i64 i, .int .i64 n] 59) = W := ⟨_, rfl⟩
  rw [hW0] at hb0 h0 y0 ⊢
  obtain ⟨S, hS⟩ : ∃ S, w.heap.size = S := ⟨_, rfl⟩
  have HS : Hid (w.heap.size = S) := hS
  rw [hS] at y0 hSB hSo hSR ⊢
  have z1 := cellB y0 1 (.int .i64 i) rfl
  have z2 := cellB y0 2 (.int .i64 n) rfl
  have hSl : S < W0.heap.size := (Array.getElem?_eq_some_iff.1 y0).1
  have HB0 : Hid (_) := hb0
  clear hW0 hS hb0
  have hE : (E == E) = true := by simp
  have hX : (x == x) = true := by simp
  go_wp2_with (first
    | (go_at_call 38; refine (hA _ _ h0.two.bell).mono ?_; rintro e w1 ⟨rfl, v1, hb1, hm1⟩; have y1 := hm1.far hSl hSB hSo y0; have p1 := cellB y1 1 (.int .i64 i) rfl; have h1 := h0.two.moved hb1 hm1)
    | (go_at_call 39; refine (hR _ h1.ref).mono ?_; rintro e w2 ⟨rfl, hr2, hm2⟩))
  go_ret
  exact ⟨rfl, v1, F', now, ⟨h1.movedR hr2 hm2, HN.out.1, HN.out.2, HP.out⟩, Free.of HB0.out hm1 hm2⟩
set_option maxRecDepth 20000 in
set_option maxHeartbeats 4000000 in
theorem does_double {w0 : World} {B R : Nat} {v : Value} {F : Ft} {now : Int} {w : World} (h : Tb w0 B v R F now w) (i n : Int) :
    Calls Try.prog 25 #[.pointer (some ⟨B, 0, none⟩), .pointer (some ⟨R, 0, none⟩), .agg #[.int .i64 3, .int .i64 i, .int .i64 n]] w fun e W' => e = .returned (.bool true) ∧ ∃ v' F' now', Tb w0 B v' R F' now' W' ∧ Free B v R w W' := by
  have hb0 : Below w.heap.size w (w.alloc (.cells #[.int .i64 3, .int .i64 i, .int .i64 n] 59)) := (Below.refl _ w).alloc (Nat.le_refl _) _
  have h0 := h.next hb0
  have hSB : w.heap.size ≠ B := by have := h.two.bell.lt; omega
  have hSR : w.heap.size ≠ R := by have := h.two.ref.lt; omega
  have hSo : v.ownBlock ≠ some w.heap.size := fun e => by have := (h.two.bell.ownlt _ e).2; omega
  obtain ⟨x, E, F', hp', hA, hR⟩ := double_both (B := B) (R := R) h.pos h.n0 h.n1 i
  have HP : Hid (Pos F') := hp'
  have HN : Hid (0 ≤ now ∧ now ≤ 1099511627776) := ⟨h.n0, h.n1⟩
  clear hp' h
  go_enter Try.func25, Try.ntmps25
  go_upto_region 10 with fail
  have y0 := heap_alloc_new w (.cells #[.int .i64 3, .int .i64 i, .int .i64 n] 59)
  obtain ⟨W0, hW0⟩ : ∃ W, w.alloc (.cells #[.int .i64 3, .int .i64 i, .int .i64 n] 59) = W := ⟨_, rfl⟩
  rw [hW0] at hb0 h0 y0 ⊢
  obtain ⟨S, hS⟩ : ∃ S, w.heap.size = S := ⟨_, rfl⟩
  have HS : Hid (w.heap.size = S) := hS
  rw [hS] at y0 hSB hSo hSR ⊢
  have z1 := cellB y0 1 (.int .i64 i) rfl
  have z2 := cellB y0 2 (.int .i64 n) rfl
  have hSl : S < W0.heap.size := (Array.getElem?_eq_some_iff.1 y0).1
  have HB0 : Hid (_) := hb0
  clear hW0 hS hb0
  have hE : (E == E) = true := by simp
  have hX : (x == x) = true := by simp
  go_wp2_with (first
    | (go_at_call 40; refine (hA _ _ h0.two.bell).mono ?_; rintro e w1 ⟨rfl, v1, hb1, hm1⟩; have y1 := hm1.far hSl hSB hSo y0; have p1 := cellB y1 1 (.int .i64 i) rfl; have h1 := h0.two.moved hb1 hm1)
    | (go_at_call 41; refine (hR _ h1.ref).mono ?_; rintro e w2 ⟨rfl, hr2, hm2⟩))
  go_ret
  exact ⟨rfl, v1, F', now, ⟨h1.movedR hr2 hm2, HN.out.1, HN.out.2, HP.out⟩, Free.of HB0.out hm1 hm2⟩
set_option maxRecDepth 20000 in
set_option maxHeartbeats 4000000 in
theorem does_tick {w0 : World} {B R : Nat} {v : Value} {F : Ft} {now : Int} {w : World} (h : Tb w0 B v R F now w) (i n : Int) :
    Calls Try.prog 25 #[.pointer (some ⟨B, 0, none⟩), .pointer (some ⟨R, 0, none⟩), .agg #[.int .i64 4, .int .i64 i, .int .i64 n]] w fun e W' => e = .returned (.bool true) ∧ ∃ v' F' now', Tb w0 B v' R F' now' W' ∧ Free B v R w W' := by
  have hb0 : Below w.heap.size w (w.alloc (.cells #[.int .i64 4, .int .i64 i, .int .i64 n] 59)) := (Below.refl _ w).alloc (Nat.le_refl _) _
  have h0 := h.next hb0
  have hSB : w.heap.size ≠ B := by have := h.two.bell.lt; omega
  have hSR : w.heap.size ≠ R := by have := h.two.ref.lt; omega
  have hSo : v.ownBlock ≠ some w.heap.size := fun e => by have := (h.two.bell.ownlt _ e).2; omega
  obtain ⟨E, F', now', Z, hp', n0', n1', hz1, hz2, hA, hR⟩ := tick_both (B := B) (R := R) h.pos h.n0 h.n1 n
  have HP : Hid (Pos F') := hp'
  have HZ1 : Hid (_) := hz1
  have HZ2 : Hid (_) := hz2
  have HN : Hid (0 ≤ now' ∧ now' ≤ 1099511627776) := ⟨n0', n1'⟩
  clear hp' h hz1 hz2 n0' n1'
  go_enter Try.func25, Try.ntmps25
  go_upto_region 14 with fail
  have y0 := heap_alloc_new w (.cells #[.int .i64 4, .int .i64 i, .int .i64 n] 59)
  obtain ⟨W0, hW0⟩ : ∃ W, w.alloc (.cells #[.int .i64 4, .int .i64 i, .int .i64 n] 59) = W := ⟨_, rfl⟩
  rw [hW0] at hb0 h0 y0 ⊢
  obtain ⟨S, hS⟩ : ∃ S, w.heap.size = S := ⟨_, rfl⟩
  have HS : Hid (w.heap.size = S) := hS
  rw [hS] at y0 hSB hSo hSR ⊢
  have z1 := cellB y0 1 (.int .i64 i) rfl
  have z2 := cellB y0 2 (.int .i64 n) rfl
  have hSl : S < W0.heap.size := (Array.getElem?_eq_some_iff.1 y0).1
  have HB0 : Hid (_) := hb0
  clear hW0 hS hb0
  have hRl : R < W0.heap.size := h0.two.ref.lt
  have hE : (E == E) = true := by simp
  go_wp2_with fail
  refine (hA _ _ h0.two.bell).mono ?_
  rintro e w1 ⟨u, P, v1, rfl, HZP, ho1, hb1, hm1⟩
  obtain ⟨ua, uc, rfl⟩ := owns_slice ho1
  have y1 := hm1.far hSl hSB hSo y0
  have p2 := cellB y1 2 (.int .i64 n) rfl
  have h1 := h0.two.moved hb1 hm1
  clear z1 z2
  go_wp2_with fail
  refine (hR _ h1.ref).mono ?_
  rintro e w2 ⟨u2, P2, rfl, HZQ, ho2, hr2, hm2⟩
  obtain ⟨ua2, uc2, rfl⟩ := owns_slice ho2
  have e := HZ1.out _ _ HZQ HZP
  subst e
  have h2 := h1.movedR hr2 hm2
  have ho3 : w2.ownsRow W0.heap.size 3 1 (.slice ua P2.length uc) P2.length (mcs P2) := owns_kept ho1 (fun k hk => hm2.block k (ho1.lt k hk).2 (fun e => by have := (ho1.lt k hk).1; omega) (fun e => by cases e))
  have hI := Ints_any (P2.map (·.1)) _ _ w2 (Il_mcs ho3) (Il_mcs ho2) (by rw [List.length_map]; have := HZ2.out _ HZP; omega)
  clear p2 hA hR
  go_wp2_with (go_at_call 36; refine hI.mono ?_; rintro e w3 ⟨rfl, hb3⟩)
  go_ret
  exact ⟨rfl, v1, F', now', ⟨h2.next hb3, HN.out.1, HN.out.2, HP.out⟩, (Free.of HB0.out hm1 hm2).below hb3⟩
set_option maxRecDepth 20000 in
set_option maxHeartbeats 4000000 in
theorem does_set {w0 : World} {B R : Nat} {v : Value} {F : Ft} {now : Int} {w : World} (h : Tb w0 B v R F now w) (what i n : Int) (hw : what = 0 ∨ what = 1) :
    Calls Try.prog 25 #[.pointer (some ⟨B, 0, none⟩), .pointer (some ⟨R, 0, none⟩), .agg #[.int .i64 what, .int .i64 i, .int .i64 n]] w fun e W' => e = .returned (.bool true) ∧ ∃ v' F' now', Tb w0 B v' R F' now' W' ∧ Free B v R w W' := by
  have hb0 : Below w.heap.size w (w.alloc (.cells #[.int .i64 what, .int .i64 i, .int .i64 n] 59)) := (Below.refl _ w).alloc (Nat.le_refl _) _
  have h0 := h.next hb0
  have hSB : w.heap.size ≠ B := by have := h.two.bell.lt; omega
  have hSR : w.heap.size ≠ R := by have := h.two.ref.lt; omega
  have hSo : v.ownBlock ≠ some w.heap.size := fun e => by have := (h.two.bell.ownlt _ e).2; omega
  obtain ⟨E, F', hp', hA, hR⟩ := set_both (B := B) (R := R) h.pos h.n0 h.n1 i n
  have HP : Hid (Pos F') := hp'
  have HN : Hid (0 ≤ now ∧ now ≤ 1099511627776) := ⟨h.n0, h.n1⟩
  have hE : (E == E) = true := by simp
  have hq : (what == 0) = true ∨ (what == 0) = false ∧ (what == 1) = true := by
    rcases hw with rfl | rfl
    · exact .inl rfl
    · exact .inr ⟨rfl, rfl⟩
  clear hw hp' h
  rcases hq with hq0 | ⟨hq0, hq1⟩
  all_goals
    go_enter Try.func25, Try.ntmps25
    go_upto_region 4 with fail
  all_goals
    have y0 := heap_alloc_new w (.cells #[.int .i64 what, .int .i64 i, .int .i64 n] 59)
    obtain ⟨W0, hW0⟩ : ∃ W, w.alloc (.cells #[.int .i64 what, .int .i64 i, .int .i64 n] 59) = W := ⟨_, rfl⟩
    rw [hW0] at hb0 h0 y0 ⊢
    obtain ⟨S, hS⟩ : ∃ S, w.heap.size = S := ⟨_, rfl⟩
    have HS : Hid (w.heap.size = S) := hS
    rw [hS] at y0 hSB hSo hSR ⊢
    have z1 := cellB y0 1 (.int .i64 i) rfl
    have z2 := cellB y0 2 (.int .i64 n) rfl
    have hSl : S < W0.drew.heap.size := (Array.getElem?_eq_some_iff.1 y0).1
    have y0d : W0.drew.heap[S]? = some (.cells #[.int .i64 what, .int .i64 i, .int .i64 n] 59) := y0
    have h1 := h0.next (below_drew (Below.refl _ W0))
    have HB0 : Hid (_) := below_drew hb0
    have hP := hA _ _ h1.two.bell
    clear hW0 hS hb0 y0 h0 hA
    go_region_held3 (fun w' => w'.cell? ⟨S, 1, none⟩ = some (.int .i64 i) ∧ w'.cell? ⟨S, 2, none⟩ = some (.int .i64 n)) (go_keep)
      (first
        | (go_at_call 34; refine hP.mono ?_; rintro e w1 ⟨rfl, v1, hb1, hm1⟩; have y1 := hm1.far hSl hSB hSo y0d; have p1 := cellB y1 1 (.int .i64 i) rfl; have p2 := cellB y1 2 (.int .i64 n) rfl; have h2 := h1.two.moved hb1 hm1)
        | (go_at_call 37; refine (hR _ h2.ref).mono ?_; rintro e w2 ⟨rfl, hr2, hm2⟩; have y2 := hm2.far (Array.getElem?_eq_some_iff.1 y1).1 hSR (fun e => by cases e) y1; have t1 := cellB y2 1 (.int .i64 i) rfl; have t2 := cellB y2 2 (.int .i64 n) rfl))
    go_wp2
    go_ret
    exact ⟨rfl, v1, F', now, ⟨h2.movedR hr2 hm2, HN.out.1, HN.out.2, HP.out⟩, Free.of HB0.out hm1 hm2⟩
theorem does_any {w0 : World} {B R : Nat} {v : Value} {F : Ft} {now : Int} {w : World} (h : Tb w0 B v R F now w) (what i n : Int) :
    Calls Try.prog 25 #[.pointer (some ⟨B, 0, none⟩), .pointer (some ⟨R, 0, none⟩), .agg #[.int .i64 what, .int .i64 i, .int .i64 n]] w fun e W' => e = .returned (.bool true) ∧ ∃ v' F' now', Tb w0 B v' R F' now' W' ∧ Free B v R w W' := by
  by_cases h1 : what = 0 ∨ what = 1
  · exact does_set h what i n h1
  by_cases h2 : what = 2
  · subst h2; exact does_off h i n
  by_cases h3 : what = 3
  · subst h3; exact does_double h i n
  by_cases h4 : what = 4
  · subst h4; exact does_tick h i n
  exact does_other h what i n (by omega)
end Go.Proofs.Ytemmnojcickcpaa
