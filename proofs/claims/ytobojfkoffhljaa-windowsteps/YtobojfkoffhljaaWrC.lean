/- The document's own window: Raise, Leave, walked. -/
import Derived.Test.YtobojfkoffhljaaWrB
namespace Go.Proofs.Ytobojfkoffhljaa
open Go.RowKit
attribute [local go_sem ↓] Go.wp_at_zero Go.wp_at_succ

theorem RefAt.setL {base : Nat} {w W' : World} {R : Nat} {low : Int} {vl vd v' : Value} {l F l' : List Rq} (h : RefAt base w R low vl vd l F) (hb : Below w.heap.size w W') (ho : W'.ownsRow w.heap.size 42 3 v' l'.length (rcs l')) : RefAt base (W'.setCell ⟨R, 1, none⟩ v') R low v' vd l' F ∧ Mvd (fpR R vl vd) (fpR R v' vd) w (W'.setCell ⟨R, 1, none⟩ v') := by
  have hR := h.lt
  refine ⟨⟨setB ((hb.block R hR).trans h.blk) 1 _, owns_base (owns_kept ho (fun k hk => set_far (fun e => by have := (ho.lt k hk).1; omega) _ _)) h.le, owns_kept h.dn (fun k hk => (set_far (fun e => h.n2 (by rw [← e]; exact hk)) _ _).trans (hb.block k (h.dn.lt k hk).2)), fun e => by have := (ho.lt R e).1; omega, h.n2, fun k e1 e2 => by have := (ho.lt k e1).1; have := (h.dn.lt k e2).2; omega, h.base⟩, ⟨hb.os, hb.tape, hb.output, by simp only [World.setCell, Array.size_modify]; exact hb.size, fun k hk hn => (set_far (fun e => hn (.inl e)) _ _).trans (hb.block k hk), fun k hk => ?_⟩⟩
  rcases hk with e | e | e
  · exact .inl (.inl e)
  · exact .inr (ho.lt k e).1
  · exact .inl (.inr (.inr e))
theorem RefAt.setD {base : Nat} {w W' : World} {R : Nat} {low : Int} {vl vd v' : Value} {l F l' : List Rq} (h : RefAt base w R low vl vd l F) (hb : Below w.heap.size w W') (ho : W'.ownsRow w.heap.size 42 3 v' l'.length (rcs l')) : RefAt base (W'.setCell ⟨R, 2, none⟩ v') R low vl v' l l' ∧ Mvd (fpR R vl vd) (fpR R vl v') w (W'.setCell ⟨R, 2, none⟩ v') := by
  have hR := h.lt
  refine ⟨⟨setB ((hb.block R hR).trans h.blk) 2 _, owns_kept h.own (fun k hk => (set_far (fun e => h.n1 (by rw [← e]; exact hk)) _ _).trans (hb.block k (h.own.lt k hk).2)), owns_base (owns_kept ho (fun k hk => set_far (fun e => by have := (ho.lt k hk).1; omega) _ _)) h.le, h.n1, fun e => by have := (ho.lt R e).1; omega, fun k e1 e2 => by have := (ho.lt k e2).1; have := (h.own.lt k e1).2; omega, h.base⟩, ⟨hb.os, hb.tape, hb.output, by simp only [World.setCell, Array.size_modify]; exact hb.size, fun k hk hn => (set_far (fun e => hn (.inl e)) _ _).trans (hb.block k hk), fun k hk => ?_⟩⟩
  rcases hk with e | e | e
  · exact .inl (.inl e)
  · exact .inl (.inr (.inl e))
  · exact .inr (ho.lt k e).1
theorem RefAt.setLow {base : Nat} {w : World} {R : Nat} {low : Int} {vl vd : Value} {l F : List Rq} (h : RefAt base w R low vl vd l F) (x : Int) : RefAt base (w.setCell ⟨R, 0, none⟩ (.int .i64 x)) R x vl vd l F ∧ Mvd (fpR R vl vd) (fpR R vl vd) w (w.setCell ⟨R, 0, none⟩ (.int .i64 x)) :=
  ⟨⟨setB h.blk 0 _, owns_kept h.own (fun k hk => set_far (fun e => h.n1 (by rw [← e]; exact hk)) _ _), owns_kept h.dn (fun k hk => set_far (fun e => h.n2 (by rw [← e]; exact hk)) _ _), h.n1, h.n2, h.n3, h.base⟩, ⟨rfl, rfl, rfl, by simp only [World.setCell, Array.size_modify]; exact Nat.le_refl _, fun k hk hn => set_far (fun e => hn (.inl e)) _ _, fun _ h => .inl h⟩⟩
theorem rRaise_bad {base : Nat} {w : World} {R : Nat} {low : Int} {vl vd : Value} {l F : List Rq} (_h : RefAt base w R low vl vd l F) {x : Int} (hx : inB x 1099511627768 = false) : Calls Try.prog 28 #[.pointer (some ⟨R, 0, none⟩), .int .i64 x] w fun e W' => e = .returned (.tuple #[.bool false, .int .i64 1]) ∧ W' = w := by
  rcases inB_f hx with h1 | ⟨h1, h2⟩
  all_goals
    clear hx _h
    go_enter Try.func28, Try.ntmps28
    go_wp2
    exact bodyPost_ret (v := .tuple #[.bool false, .int .i64 1]) (by simp [results, Try.f28, go_sem]) rfl ⟨rfl, rfl⟩
theorem rRaise_no {base : Nat} {w : World} {R : Nat} {low : Int} {vl vd : Value} {l F : List Rq} (h : RefAt base w R low vl vd l F) {x : Int} (hx : inB x 1099511627768 = true) (hl : x ≤ low) : Calls Try.prog 28 #[.pointer (some ⟨R, 0, none⟩), .int .i64 x] w fun e W' => e = .returned (.tuple #[.bool false, .int .i64 0]) ∧ W' = w := by
  obtain ⟨h1, h2⟩ := inB_t hx
  have c0 := cellB h.blk 0 (.int .i64 low) rfl
  clear hx h
  go_enter Try.func28, Try.ntmps28
  go_wp2
  exact bodyPost_ret (v := .tuple #[.bool false, .int .i64 0]) (by simp [results, Try.f28, go_sem]) rfl ⟨rfl, rfl⟩
set_option maxRecDepth 20000 in
set_option maxHeartbeats 4000000 in
theorem rRaise_ok {base : Nat} {w : World} {R : Nat} {low : Int} {vl vd : Value} {l F : List Rq} (h : RefAt base w R low vl vd l F) (hl : l.length ≤ 1000) (hF : F.length ≤ 1000) {x : Int} (hx : inB x 1099511627768 = true) (hlx : low < x) : Calls Try.prog 28 #[.pointer (some ⟨R, 0, none⟩), .int .i64 x] w fun e W' => e = .returned (.tuple #[.bool true, .int .i64 0]) ∧ ∃ vl' vd', RefAt base W' R x vl' vd' (l.filter (abP x 0)) (F.filter (abP x 0)) ∧ Mvd (fpR R vl vd) (fpR R vl' vd') w W' := by
  obtain ⟨h1, h2⟩ := inB_t hx
  have c0 := cellB h.blk 0 (.int .i64 low) rfl
  have f0 := frozenB h.blk 0
  obtain ⟨r1, m1⟩ := h.setLow x
  have c1 := cellB r1.blk 1 vl rfl
  have hA := above_any r1.own hl x 0
  have HX : Hid (_ ∧ _) := ⟨r1, m1⟩
  obtain ⟨la, lc, rfl⟩ := owns_slice h.own
  obtain ⟨da, dc, rfl⟩ := owns_slice h.dn
  clear hx h r1 m1
  go_enter Try.func28, Try.ntmps28
  go_wp2_with (first
    | (go_at_call 41; refine hA.mono ?_; rintro e w2 ⟨v2, rfl, ho2, hb2⟩; obtain ⟨va2, vc2, rfl⟩ := owns_slice ho2; obtain ⟨r2, m2⟩ := HX.out.1.setL hb2 ho2; have b2 := (hb2.block R HX.out.1.lt).trans HX.out.1.blk; have s1 := cellB b2 1 _ rfl; have g1 := frozenB b2 1; have c2 := cellB r2.blk 2 _ rfl; have hA2 := above_any r2.dn hF x 0; have H2 : Hid (_ ∧ _) := ⟨r2, m2⟩; clear hA r2 m2 ho2 hb2 b2)
    | (go_at_call 41; refine hA2.mono ?_; rintro e w3 ⟨v3, rfl, ho3, hb3⟩; obtain ⟨va3, vc3, rfl⟩ := owns_slice ho3; obtain ⟨r3, m3⟩ := H2.out.1.setD hb3 ho3; have b3 := (hb3.block R H2.out.1.lt).trans H2.out.1.blk; have s3 := cellB b3 2 _ rfl; have g3 := frozenB b3 2; have H3 : Hid (_ ∧ _) := ⟨r3, m3⟩; clear hA2 r3 m3 ho3 hb3 b3))
  exact bodyPost_ret (v := .tuple #[.bool true, .int .i64 0]) (by simp [results, Try.f28, go_sem]) rfl ⟨rfl, _, _, H3.out.1, (HX.out.2.trans H2.out.2).trans H3.out.2⟩
set_option maxRecDepth 20000 in
set_option maxHeartbeats 4000000 in
theorem rLeave_any {base : Nat} {w : World} {R : Nat} {low : Int} {vl vd : Value} {l F : List Rq} (h : RefAt base w R low vl vd l F) (hl : l.length ≤ 1000) (x : Int) : Calls Try.prog 29 #[.pointer (some ⟨R, 0, none⟩), .int .i64 x] w fun e W' => e = .returned (.int .i64 ((l.length : Int) - ((l.filter (abP low x)).length : Int))) ∧ ∃ vl', RefAt base W' R low vl' vd (l.filter (abP low x)) F ∧ Mvd (fpR R vl vd) (fpR R vl' vd) w W' := by
  obtain ⟨la, lc, rfl⟩ := owns_slice h.own
  have c0 := cellB h.blk 0 (.int .i64 low) rfl
  have c1 := cellB h.blk 1 (.slice la l.length lc) rfl
  have HA : Hid (∀ W, Below w.heap.size w W → Calls Try.prog 41 #[.slice la l.length lc, .int .i64 low, .int .i64 x] W fun e W' => ∃ v', e = .returned v' ∧ W'.ownsRow W.heap.size 42 3 v' (l.filter (abP low x)).length (rcs (l.filter (abP low x))) ∧ Below W.heap.size W W') := fun W hW => above_any (owns_next h.own hW) hl low x
  have hle : (l.filter (abP low x)).length ≤ l.length := List.length_filter_le _ _
  obtain ⟨L, hL⟩ : ∃ L, l.filter (abP low x) = L := ⟨_, rfl⟩
  rw [hL] at HA hle ⊢
  have HX : Hid (_) := h
  clear h hL
  go_enter Try.func29, Try.ntmps29
  go_upto_region 2 with fail
  have hA := HA.out w.drew (below_drew (Below.refl _ _))
  clear HA
  go_region_with (first
    | (go_at_call 41; refine hA.mono ?_; rintro e w2 ⟨v2, rfl, ho2, hb2'⟩; obtain ⟨va2, vc2, rfl⟩ := owns_slice ho2; have hb2 : Below w.heap.size w w2 := ⟨hb2'.os, hb2'.tape, hb2'.output, hb2'.size, hb2'.block⟩; obtain ⟨r2, m2⟩ := HX.out.setL hb2 ho2; have b2 := (hb2.block R HX.out.lt).trans HX.out.blk; have k0 := cellB b2 0 _ rfl; have s1 := cellB b2 1 _ rfl; have g1 := frozenB b2 1; have c2 := cellB r2.blk 1 _ rfl; have H2 : Hid (_ ∧ _) := ⟨r2, m2⟩; clear r2 m2 ho2 hb2 hb2' b2))
  all_goals
    go_wp2
    go_ret
    exact ⟨by go_num, _, H2.out.1, H2.out.2⟩
end Go.Proofs.Ytobojfkoffhljaa
