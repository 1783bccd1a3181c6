/- The document's Vote, walked. -/
import Derived.Test.YtoehmpcfmpkbnaaSoR
namespace Go.Proofs.Ytoehmpcfmpkbnaa
open Go.RowKit
attribute [local go_sem ↓] Go.wp_at_zero Go.wp_at_succ

theorem Try.info39 : (Try.prog.info? 39).map (fun i => (i.zero, i.size, i.bytes)) = some (some (.agg #[.int .i64 0, .int .i64 0, .string ⟨#[]⟩, .string ⟨#[]⟩]), 4, 48) := by kernel_rfl
theorem cells_new (w : World) (cs : Array Value) (t : TypeId) : ∀ j u, cs.toList[j]? = some u → (w.alloc (.cells cs t)).drew.cell? ((⟨w.heap.size, 0, none⟩ : Addr).add j) = some u :=
  World.news_of_block (w := (w.alloc (.cells cs t)).drew) (heap_alloc_new w (.cells cs t))
/-- What the document's Vote answers, and what there is behind it. -/
def VoteRet (base R : Nat) (v : Value) (gr : Int) (f p : Nat) (l : List Vo) (a : Vo) (b : Bool) (E : Int) (w : World) (e : Ending) (W' : World) : Prop :=
  e = .returned (.tuple #[.bool b, .int .i64 E]) ∧ ∃ v', RefAt base W' R v' gr f p (addL b l a) ∧ Moved R v v' w W'
theorem VoteRet.same {base R : Nat} {v : Value} {gr : Int} {f p : Nat} {l : List Vo} (a : Vo) (E : Int) {w W' : World} (h : RefAt base w R v gr f p l) (hb : Below w.heap.size w W') : VoteRet base R v gr f p l a false E w (.returned (.tuple #[.bool false, .int .i64 E])) W' :=
  ⟨rfl, v, h.on hb, Moved.of_below hb R v⟩
set_option maxRecDepth 20000 in
set_option maxHeartbeats 4000000 in
theorem rVote_bad {base : Nat} {w : World} {R : Nat} {v : Value} {gr : Int} {f p : Nat} {l : List Vo} (h : RefAt base w R v gr f p l) (kind no : Int) (t g : List UInt8) (hE : faultE (okV f kind no) false t g ≠ 0) : Calls Try.prog 12 #[.pointer (some ⟨R, 0, none⟩), .agg #[.int .i64 kind, .int .i64 no, .string (bs t), .string (bs g)]] w (VoteRet base R v gr f p l (kind, no, t, g) false (faultE (okV f kind no) false t g) w) := by
  have hba : Below w.heap.size w (w.alloc (.cells #[.int .i64 kind, .int .i64 no, .string (bs t), .string (bs g)] 39)) := (Below.refl _ w).alloc (Nat.le_refl _) _
  have rN := heap_alloc_new w (.cells #[.int .i64 kind, .int .i64 no, .string (bs t), .string (bs g)] 39)
  have hsz : (bs t).size = t.length := bs_size t
  have hsg : (bs g).size = g.length := bs_size g
  have f3 := h.f3
  obtain ⟨c0, c1, c2, c3⟩ := (h.on hba).c
  have HX : Hid (_ ∧ _) := ⟨h, hba⟩
  obtain ⟨m, hm⟩ : ∃ m, 3 * (f : Int) = m := ⟨_, rfl⟩
  have v2 : IntKind.i64.wrap (3 * (f : Int)) = m := by rw [← hm]; exact wrap_id (by omega) (by omega)
  obtain ⟨W0, hW0⟩ : ∃ W, w.alloc (.cells #[.int .i64 kind, .int .i64 no, .string (bs t), .string (bs g)] 39) = W := ⟨_, rfl⟩
  rw [hW0] at HX rN c0 c1 c2 c3
  have u0 := cellB rN 0 _ rfl
  have u1 := cellB rN 1 _ rfl
  have u2 := cellB rN 2 _ rfl
  have u3 := cellB rN 3 _ rfl
  have hcs : (faultE (okV f kind no) false t g = 1 ∧ (kind < 1 ∨ (1 ≤ kind ∧ 2 < kind) ∨ (1 ≤ kind ∧ kind ≤ 2 ∧ no < 0) ∨ (1 ≤ kind ∧ kind ≤ 2 ∧ 0 ≤ no ∧ m < no))) ∨ (1 ≤ kind ∧ kind ≤ 2 ∧ 0 ≤ no ∧ no ≤ m ∧ ((faultE (okV f kind no) false t g = 2 ∧ (30000 : Int) < t.length) ∨ (faultE (okV f kind no) false t g = 4 ∧ (t.length : Int) ≤ 30000 ∧ ¬ (g.length : Int) = 16))) := by
    cases hok : okV f kind no
    · left
      refine ⟨rfl, ?_⟩
      rcases okV_f hok with h1 | ⟨h1, h2⟩ | ⟨h1, h2, h3⟩
      · have := isK_f h1; omega
      · obtain ⟨k, hk, rfl⟩ := isK_t h1; omega
      · obtain ⟨k, hk, rfl⟩ := isK_t h1; omega
    · right
      obtain ⟨k, i, hk, rfl, rfl, hi⟩ := okV_t hok
      refine ⟨by omega, by omega, by omega, by omega, ?_⟩
      rw [hok] at hE
      rcases faultE_cases false t g with ⟨e1, k1⟩ | ⟨e1, k1, k2⟩ | ⟨e1, k1, k2⟩
      · exact .inl ⟨e1, by omega⟩
      · exact .inr ⟨e1, by omega, by omega⟩
      · exact absurd e1 hE
  obtain ⟨E, hEe⟩ : ∃ E, faultE (okV f kind no) false t g = E := ⟨_, rfl⟩
  rw [hEe] at hcs ⊢
  clear h hba rN hm hE hEe f3
  rcases hcs with ⟨rfl, k1 | ⟨k1, k2⟩ | ⟨k1, k2, k3⟩ | ⟨k1, k2, k3, k4⟩⟩ | ⟨k1, k2, k3, k4, ⟨rfl, k5⟩ | ⟨rfl, k5, k6⟩⟩
  · have d1 : decide (kind < 1) = true := by simp; omega
    go_enter Try.func12, Try.ntmps12
    go_upto_region 1 with fail
    clear hW0
    go_quiet (fail)
    go_wp2
    exact bodyPost_ret (v := .tuple #[.bool false, .int .i64 1]) (by simp [results, Try.f12, go_sem]) rfl (VoteRet.same _ _ HX.out.1 (below_drewN HX.out.2 nq))
  · have d1 : decide (kind < 1) = false := by simp; omega
    have d2 : decide (2 < kind) = true := by simp; omega
    go_enter Try.func12, Try.ntmps12
    go_upto_region 1 with fail
    clear hW0
    go_quiet (fail)
    go_wp2
    exact bodyPost_ret (v := .tuple #[.bool false, .int .i64 1]) (by simp [results, Try.f12, go_sem]) rfl (VoteRet.same _ _ HX.out.1 (below_drewN HX.out.2 nq))
  · have d1 : decide (kind < 1) = false := by simp; omega
    have d2 : decide (2 < kind) = false := by simp; omega
    have d3 : decide (no < 0) = true := by simp; omega
    go_enter Try.func12, Try.ntmps12
    go_upto_region 1 with fail
    clear hW0
    go_quiet (fail)
    go_wp2
    exact bodyPost_ret (v := .tuple #[.bool false, .int .i64 1]) (by simp [results, Try.f12, go_sem]) rfl (VoteRet.same _ _ HX.out.1 (below_drewN HX.out.2 nq))
  · have d1 : decide (kind < 1) = false := by simp; omega
    have d2 : decide (2 < kind) = false := by simp; omega
    have d3 : decide (no < 0) = false := by simp; omega
    have d4 : decide (m < no) = true := by simp; omega
    go_enter Try.func12, Try.ntmps12
    go_upto_region 1 with fail
    clear hW0
    go_quiet (fail)
    go_wp2
    exact bodyPost_ret (v := .tuple #[.bool false, .int .i64 1]) (by simp [results, Try.f12, go_sem]) rfl (VoteRet.same _ _ HX.out.1 (below_drewN HX.out.2 nq))
  · have d1 : decide (kind < 1) = false := by simp; omega
    have d2 : decide (2 < kind) = false := by simp; omega
    have d3 : decide (no < 0) = false := by simp; omega
    have d4 : decide (m < no) = false := by simp; omega
    go_enter Try.func12, Try.ntmps12
    go_upto_region 1 with fail
    clear hW0
    go_quiet (fail)
    go_wp2
    exact bodyPost_ret (v := .tuple #[.bool false, .int .i64 2]) (by simp [results, Try.f12, go_sem]) rfl (VoteRet.same _ _ HX.out.1 (below_drewN HX.out.2 nq))
  · have k7 : ((g.length : Int) == 16) = false := by simpa using k6
    have d1 : decide (kind < 1) = false := by simp; omega
    have d2 : decide (2 < kind) = false := by simp; omega
    have d3 : decide (no < 0) = false := by simp; omega
    have d4 : decide (m < no) = false := by simp; omega
    go_enter Try.func12, Try.ntmps12
    go_upto_region 1 with fail
    clear hW0
    go_quiet (fail)
    go_wp2
    exact bodyPost_ret (v := .tuple #[.bool false, .int .i64 4]) (by simp [results, Try.f12, go_sem]) rfl (VoteRet.same _ _ HX.out.1 (below_drewN HX.out.2 nq))
set_option maxRecDepth 20000 in
set_option maxHeartbeats 4000000 in
theorem rVote_ok {base : Nat} {w : World} {R : Nat} {v : Value} {gr : Int} {f p : Nat} {l : List Vo} {V : Vs} (h : RefAt base w R v gr f p l) (hlen : l.length ≤ 1000) (ht : Tie f l V) (kind no : Int) (t g : List UInt8) (hE : faultE (okV f kind no) false t g = 0) : Calls Try.prog 12 #[.pointer (some ⟨R, 0, none⟩), .agg #[.int .i64 kind, .int .i64 no, .string (bs t), .string (bs g)]] w (VoteRet base R v gr f p l (kind, no, t, g) (!(isV (ownV V f kind no).2)) 0 w) := by
  have hba : Below w.heap.size w (w.alloc (.cells #[.int .i64 kind, .int .i64 no, .string (bs t), .string (bs g)] 39)) := (Below.refl _ w).alloc (Nat.le_refl _) _
  have rN := heap_alloc_new w (.cells #[.int .i64 kind, .int .i64 no, .string (bs t), .string (bs g)] 39)
  have hsz : (bs t).size = t.length := bs_size t
  have hsg : (bs g).size = g.length := bs_size g
  have f3 := h.f3
  obtain ⟨c0, c1, c2, c3⟩ := (h.on hba).c
  obtain ⟨m, hm⟩ : ∃ m, 3 * (f : Int) = m := ⟨_, rfl⟩
  have v2 : IntKind.i64.wrap (3 * (f : Int)) = m := by rw [← hm]; exact wrap_id (by omega) (by omega)
  obtain ⟨hok, ht1, hg1, _⟩ := faultE_0 hE
  rw [hg1] at hsg
  have ht2 : (t.length : Int) ≤ 30000 := by omega
  have hXR : w.heap.size ≠ R := fun e => by have := h.lt; omega
  have hXv : v.ownBlock ≠ some w.heap.size := fun e => by have := (h.own.lt _ e).2; omega
  obtain ⟨W0, hW0⟩ : ∃ W, w.alloc (.cells #[.int .i64 kind, .int .i64 no, .string (bs t), .string (bs g)] 39) = W := ⟨_, rfl⟩
  have HX : Hid (_ ∧ _ ∧ _ ∧ _ ∧ _) := ⟨h.on hba, hba, rN, hXR, hXv⟩
  rw [hW0] at HX rN c0 c1 c2 c3
  have u0 := cellB rN 0 _ rfl
  have u1 := cellB rN 1 _ rfl
  have u2 := cellB rN 2 _ rfl
  have u3 := cellB rN 3 _ rfl
  have dd : decide (kind < 1) = false ∧ decide (2 < kind) = false ∧ decide (no < 0) = false ∧ decide (m < no) = false := by
    obtain ⟨k, i, hk, rfl, rfl, hi⟩ := okV_t hok
    simp; omega
  obtain ⟨d1, d2, d3, d4⟩ := dd
  have HO : Hid (∀ W, RefAt base W R v gr f p l → _) := fun W hW => rOwn_tie hW hlen ht kind no
  obtain ⟨⟨ot, og⟩, hov⟩ : ∃ x, ownV V f kind no = x := ⟨_, rfl⟩
  rw [hov] at HO ⊢
  simp only at HO ⊢
  obtain ⟨ob, hob⟩ : ∃ b, isV og = b := ⟨_, rfl⟩
  rw [hob] at HO ⊢
  clear h hba rN hm hE f3 ht hok hXR hXv hov hob hg1 ht1
  go_enter Try.func12, Try.ntmps12
  go_upto_region 1 with fail
  clear hW0
  go_quiet (fail)
  obtain ⟨hR0, hba, rN, hXR, hXv⟩ := HX.out
  have hbq := below_drewN (Below.refl W0.heap.size W0) nq
  have hR1 := hR0.on hbq
  have hB1 := below_drewN hba nq
  have r1 : (W0.drewN nq).heap[w.heap.size]? = some (.cells #[.int .i64 kind, .int .i64 no, .string (bs t), .string (bs g)] 39) := rN
  have hO := HO.out _ hR1
  obtain ⟨W1, hW1⟩ : ∃ W, W0.drewN nq = W := ⟨_, rfl⟩
  rw [hW1] at hR1 hB1 r1 hO ⊢
  clear hW1 hR0 hba rN HX u0 u1 u2 u3 c0 c1 c2 c3 hbq HO
  have u0 := cellB r1 0 _ rfl
  have u1 := cellB r1 1 _ rfl
  have u2 := cellB r1 2 _ rfl
  have u3 := cellB r1 3 _ rfl
  have HB1 : Hid (_ ∧ _ ∧ _ ∧ _ ∧ _) := ⟨hR1, hB1, r1, hXR, hXv⟩
  clear hR1 hB1 r1 hXR hXv
  go_upto_region 8 with (first
    | (go_at_call 14; refine hO.mono ?_; rintro e w2 ⟨⟨kk, nn, rfl⟩, hb2⟩))
  obtain ⟨hR1, hB1, r1, hXR, hXv⟩ := HB1.out
  have hba2 := (Below.refl w2.heap.size w2).alloc (Nat.le_refl _) (.cells #[.int .i64 kk, .int .i64 nn, .string (bs ot), .string (bs og)] 39)
  have hb3 := hb2.trans (hba2.mono hb2.size)
  have hR3 := hR1.on hb3
  have hB3 := hB1.trans (hb3.mono hB1.size)
  have r3 := (hb3.block _ (Array.getElem?_eq_some_iff.1 r1).1).trans r1
  obtain ⟨W3, hW3⟩ : ∃ W, w2.alloc (.cells #[.int .i64 kk, .int .i64 nn, .string (bs ot), .string (bs og)] 39) = W := ⟨_, rfl⟩
  rw [hW3] at hR3 hB3 r3 ⊢
  clear hW3 hb3 hba2 hR1 hB1 r1 HB1 u0 u1 u2 u3 hO hb2
  cases ob
  · obtain ⟨va, vc, rfl⟩ := hR3.slice
    have u0 := cellB r3 0 _ rfl
    have u1 := cellB r3 1 _ rfl
    have u2 := cellB r3 2 _ rfl
    have u3 := cellB r3 3 _ rfl
    obtain ⟨i9, hi9, hz0, hz1, hz2⟩ := info_parts Try.info39
    have hml : l.length + 1 ≤ maxLen := by unfold maxLen; omega
    have hkb : (l.length + 1) * 48 ≤ 140737488355328 := by omega
    have hba : Below W3.heap.size W3 (W3.alloc (.cells #[.int .i64 kind, .int .i64 no, .string (bs t), .string (bs g)] 39)) := (Below.refl _ _).alloc (Nat.le_refl _) _
    have h4 := hR3.on (below_drew hba)
    have h4o := h4.own
    have x6 : (W3.alloc (.cells #[.int .i64 kind, .int .i64 no, .string (bs t), .string (bs g)] 39)).cell? ⟨R, 3, none⟩ = some (.slice va l.length vc) := cellB (w := W3.alloc (.cells #[.int .i64 kind, .int .i64 no, .string (bs t), .string (bs g)] 39)) h4.blk 3 _ rfl
    have x7 := hR3.c.2.2.2
    have HX : Hid (vcs (l ++ [(kind, no, t, g)]) = vcs l ++ [.int .i64 kind, .int .i64 no, .string (bs t), .string (bs g)]) := vcs_append l [(kind, no, t, g)]
    obtain ⟨X, hX⟩ : ∃ X, vcs l = X := ⟨_, rfl⟩
    rw [hX] at HX h4o
    have hbs : base ≤ (W3.alloc (.cells #[.int .i64 kind, .int .i64 no, .string (bs t), .string (bs g)] 39)).drew.heap.size := h4.le
    have hcn : ∀ j u, [Value.int .i64 kind, .int .i64 no, .string (bs t), .string (bs g)][j]? = some u → (W3.alloc (.cells #[.int .i64 kind, .int .i64 no, .string (bs t), .string (bs g)] 39)).drew.cell? ((⟨W3.heap.size, 0, none⟩ : Addr).add j) = some u := cells_new W3 #[.int .i64 kind, .int .i64 no, .string (bs t), .string (bs g)] 39
    have hne : some R ≠ (Value.slice va l.length vc).ownBlock := fun e => hR3.ne e.symm
    have hltR := h4.lt
    have q1 := h4.blk
    have hm1 := (Moved.of_below hB3 R (.slice va l.length vc)).trans (Moved.of_below (below_drew hba) R (.slice va l.length vc))
    have HM : Hid (_ ∧ _) := ⟨h4, hm1⟩
    clear hX hR3 h4 r3 hba hB3 hm1
    go_upto_region 10 with fail
    go_region_law (first | (refine step_append_lies _ (by rfl) _ _ 44 (by rfl) base 39 i9 (.agg #[.int .i64 0, .int .i64 0, .string ⟨#[]⟩, .string ⟨#[]⟩]) 4 48 Try.underlying44 hi9 hz0 hz1 hz2 rfl (by decide) _ l.length X (by rfl) h4o ⟨W3.heap.size, 0, none⟩ 1 1 [.int .i64 kind, .int .i64 no, .string (bs t), .string (bs g)] (by rfl) rfl hcn (by simp [Value.oneCell']) (by decide) hml hkb hbs _ rfl ?_; intro ga ca w6 hown7 hgrow hat hlt6; have rc6 := (hgrow.block R hltR hne).trans q1; have f0 := frozenB rc6 3; have s0 := cellB rc6 3 _ rfl))
    all_goals
      go_wp2
      refine bodyPost_ret (v := .tuple #[.bool true, .int .i64 0]) (by simp [results, Try.f12, go_sem]) rfl ⟨rfl, ?_⟩
      obtain ⟨h4, hm1⟩ := HM.out
      have hgR : ga ≠ R := by
        rcases hat with e | e
        · exact fun e2 => hne (by rw [e, e2])
        · rw [e]; exact fun e2 => by rw [← e2] at hltR; exact Nat.lt_irrefl _ hltR
      refine ⟨.slice (some ⟨ga, 0, none⟩) (l.length + 1) ca, ⟨setB rc6 3 _, ?_, fun e => hgR (Option.some.inj e), h4.base, h4.f3⟩, ?_⟩
      · show World.ownsRow _ _ _ _ _ (addL true l (kind, no, t, g)).length (vcs (addL true l (kind, no, t, g)))
        rw [show addL true l (kind, no, t, g) = l ++ [(kind, no, t, g)] from rfl, HX.out, List.length_append]
        exact owns_kept hown7 (fun k hk => set_far (by rw [← Option.some.inj hk]; exact hgR) _ _)
      · have hsz1 := hm1.size
        refine ⟨hgrow.os.trans hm1.os, hgrow.tape.trans hm1.tape, hgrow.output.trans hm1.output, by simp only [World.setCell, Array.size_modify]; exact Nat.le_trans hsz1 hgrow.size, fun k hk h1 h2 => ?_, fun k hk => ?_⟩
        · refine (set_far h1 _ _).trans ((hgrow.block k (Nat.lt_of_lt_of_le hk hsz1) (fun e => ?_)).trans (hm1.block k hk h1 h2))
          rcases hm1.own k e.symm with e2 | e2
          · exact h2 e2
          · omega
        · have hk2 : ga = k := Option.some.inj hk
          rcases hat with e | e
          · exact hm1.own k (by rw [e, hk2])
          · right
            rw [← hk2, e]; exact hsz1
  · have HZ : Hid (_) := hB3
    have HM : Hid (∃ v', RefAt base W3 R v' gr f p l ∧ Moved R v v' w W3) := ⟨v, hR3, Moved.of_below hB3 R v⟩
    clear hR3 hB3 r3
    go_wp2
    exact bodyPost_ret (v := .tuple #[.bool false, .int .i64 0]) (by simp [results, Try.f12, go_sem]) rfl ⟨rfl, HM.out⟩
end Go.Proofs.Ytoehmpcfmpkbnaa
