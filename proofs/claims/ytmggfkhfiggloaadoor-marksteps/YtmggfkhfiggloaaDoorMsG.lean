/- The program's marks beside the plain ones. -/
import Derived.Test.YtmggfkhfiggloaaDoorMsD
import Derived.Test.YtmggfkhfiggloaaDoorMsF
namespace Go.Proofs.YtmggfkhfiggloaaDoor
open Go.RowKit
attribute [local go_sem ↓] Go.wp_at_zero Go.wp_at_succ

/-- The program's marks at B, the plain ones at R. -/
structure Bes (w0 w : World) (B R : Nat) (g : Int) (f : Nat) (s : St) (r : Rs) : Prop where
  ne : B ≠ R
  lB : w0.heap.size ≤ B
  lR : w0.heap.size ≤ R
  bel : Below w0.heap.size w0 w
  at2 : ∃ cv lv rv, MarkAt w B g f s cv ∧ RefAt w R g f r lv rv ∧ (∀ k, cv.ownBlock = some k → k ≠ R) ∧ (∀ k, lv.ownBlock = some k → k ≠ B) ∧ (∀ k, rv.ownBlock = some k → k ≠ B)
theorem Bes.next {w0 w w' : World} {B R : Nat} {g : Int} {f : Nat} {s : St} {r : Rs} (h : Bes w0 w B R g f s r) (hb : Below w.heap.size w w') : Bes w0 w' B R g f s r := by
  obtain ⟨cv, lv, rv, h1, h2, h3⟩ := h.at2
  exact ⟨h.ne, h.lB, h.lR, h.bel.trans (hb.mono h.bel.size), cv, lv, rv, h1.on hb, h2.on hb, h3⟩
theorem Bes.ltB {w0 w : World} {B R : Nat} {g : Int} {f : Nat} {s : St} {r : Rs} (h : Bes w0 w B R g f s r) : B < w.heap.size := by
  obtain ⟨cv, lv, rv, h1, h2, h3⟩ := h.at2
  exact h1.lt
theorem Bes.ltR {w0 w : World} {B R : Nat} {g : Int} {f : Nat} {s : St} {r : Rs} (h : Bes w0 w B R g f s r) : R < w.heap.size := by
  obtain ⟨cv, lv, rv, h1, h2, h3⟩ := h.at2
  exact h2.lt
theorem Bes.f3 {w0 w : World} {B R : Nat} {g : Int} {f : Nat} {s : St} {r : Rs} (h : Bes w0 w B R g f s r) : f ≤ 3 := by
  obtain ⟨cv, lv, rv, h1, h2, h3⟩ := h.at2
  exact h1.f3
theorem rVote_any {w : World} {R : Nat} {g : Int} {f : Nat} {r : Rs} {lv cv : Value} (h : RefAt w R g f r lv cv) (no n : Int) (st tg : List UInt8) (hl : r.L.length ≤ 900) (b : Bool) (E : Int) (r' : Rs) (hR : rvoteR g f r no n st tg = (b, E, r')) :
    Calls Tryd.prog 16 #[.pointer (some ⟨R, 0, none⟩), .agg #[.int .i64 no, .int .i64 n, .string (bs st), .string (bs tg)]] w fun e W' => e = .returned (.tuple #[.bool b, .int .i64 E]) ∧ RvPost R g f r' lv cv w W' := by
  cases hno : inR no 0 (3 * (f : Int))
  · have hE : tofE g f no n st = 1 := by rw [tofE, if_neg (by simp [hno])]
    unfold rvoteR at hR
    rw [hE, if_pos (by decide)] at hR
    simp only [Prod.mk.injEq] at hR
    obtain ⟨rfl, rfl, rfl⟩ := hR
    refine (rVote_bad h no n st tg hno).mono ?_
    rintro e W' ⟨rfl, hb⟩
    exact ⟨rfl, RvPost.same h hb⟩
  · exact rVote_in h no n st tg hno hl b E r' hR
theorem Bes.pvote {w0 w : World} {B R : Nat} {g : Int} {f : Nat} {s : St} {r : Rs} (h : Bes w0 w B R g f s r) (he : EnvP w0) (no n : Int) (st tg : List UInt8) (hs : st.length ≤ 140737488351232) {b : Bool} {E : Int} {s' : St} (hR : voteR g f s no n st tg = (b, E, s')) :
    Calls Tryd.prog 15 #[.pointer (some ⟨B, 0, none⟩), .int .i64 no, .int .i64 n, .string (bs st), .string (bs tg)] w fun e W' => e = .returned (.tuple #[.bool b, .int .i64 E]) ∧ Bes w0 W' B R g f s' r ∧ Mv B w W' := by
  obtain ⟨cv, lv, rv, h1, h2, h3, h4, h5⟩ := h.at2
  refine (Vote_any h1 no n st tg hs (he.next h.bel) b E s' hR).mono ?_
  rintro e W' ⟨rfl, cv', k1, k2, k3⟩
  refine ⟨rfl, ⟨h.ne, h.lB, h.lR, h.bel.trans (k2.below h.lB h.bel.size), cv', lv, rv, k1, h2.moved k2 (Ne.symm h.ne) (fun k hk _ => h4 k hk) (fun k hk _ => h5 k hk), fun k hk => ?_, h4, h5⟩, k2⟩
  rcases k3 k hk with e | e
  · exact h3 k e
  · have := h2.lt; omega
theorem Bes.padopt {w0 w : World} {B R : Nat} {g : Int} {f : Nat} {s : St} {r : Rs} (h : Bes w0 w B R g f s r) (he : Env w0) (ct : List UInt8) (cg : Int) (T : List Tg) (v : Value) (hv : Tp w v T) (hT : T.length * 24 ≤ 140737488355328) {b : Bool} {E : Int} {s' : St} (hR : adoptR g s ct cg T = (b, E, s')) :
    Calls Tryd.prog 17 #[.pointer (some ⟨B, 0, none⟩), .agg #[.string (bs ct), .int .i64 cg, v]] w fun e W' => e = .returned (.tuple #[.bool b, .int .i64 E]) ∧ Bes w0 W' B R g f s' r ∧ Mv B w W' := by
  obtain ⟨cv, lv, rv, h1, h2, h3, h4, h5⟩ := h.at2
  refine (Adopt_any h1 ct cg T v hv hT (he.next h.bel) b E s' hR).mono ?_
  rintro e W' ⟨rfl, cv', k1, k2, k3⟩
  refine ⟨rfl, ⟨h.ne, h.lB, h.lR, h.bel.trans (k2.below h.lB h.bel.size), cv', lv, rv, k1, h2.moved k2 (Ne.symm h.ne) (fun k hk _ => h4 k hk) (fun k hk _ => h5 k hk), fun k hk => ?_, h4, h5⟩, k2⟩
  rcases k3 k hk with e | e
  · exact h3 k e
  · have := h2.lt; omega
theorem Bes.rvote {w0 w : World} {B R : Nat} {g : Int} {f : Nat} {s : St} {r : Rs} (h : Bes w0 w B R g f s r) (no n : Int) (st tg : List UInt8) (hl : r.L.length ≤ 900) {b : Bool} {E : Int} {r' : Rs} (hR : rvoteR g f r no n st tg = (b, E, r')) :
    Calls Tryd.prog 16 #[.pointer (some ⟨R, 0, none⟩), .agg #[.int .i64 no, .int .i64 n, .string (bs st), .string (bs tg)]] w fun e W' => e = .returned (.tuple #[.bool b, .int .i64 E]) ∧ Bes w0 W' B R g f s r' ∧ Mv R w W' := by
  obtain ⟨cv, lv, rv, h1, h2, h3, h4, h5⟩ := h.at2
  refine (rVote_any h2 no n st tg hl b E r' hR).mono ?_
  rintro e W' ⟨rfl, lv', rv', k1, k2, k3, k4⟩
  refine ⟨rfl, ⟨h.ne, h.lB, h.lR, h.bel.trans (k2.below h.lR h.bel.size), cv, lv', rv', h1.moved k2 h.ne (fun k hk _ => h3 k hk), k1, h3, fun k hk => ?_, fun k hk => ?_⟩, k2⟩
  · rcases k3 k hk with e | e
    · exact h4 k e
    · have := h1.lt; omega
  · rcases k4 k hk with e | e
    · exact h5 k e
    · have := h1.lt; omega
theorem Bes.radopt {w0 w : World} {B R : Nat} {g : Int} {f : Nat} {s : St} {r : Rs} (h : Bes w0 w B R g f s r) (ct : List UInt8) (cg : Int) (T : List Tg) (u : Value) (hu : Tp w u T) (huR : ∀ k, u.ownBlock = some k → k ≠ R) (huB : ∀ k, u.ownBlock = some k → k ≠ B) (hs : ct.length ≤ 4000000) {b : Bool} {E : Int} {r' : Rs} (hR : radoptR g r ct cg T = (b, E, r')) :
    Calls Tryd.prog 18 #[.pointer (some ⟨R, 0, none⟩), .agg #[.string (bs ct), .int .i64 cg, u]] w fun e W' => e = .returned (.tuple #[.bool b, .int .i64 E]) ∧ Bes w0 W' B R g f s r' ∧ Mv R w W' := by
  obtain ⟨cv, lv, rv, h1, h2, h3, h4, h5⟩ := h.at2
  refine (rAdopt_any h2 ct cg T u hu huR hs b E r' hR).mono ?_
  rintro e W' ⟨rfl, lv', rv', k1, k2, k3, k4⟩
  refine ⟨rfl, ⟨h.ne, h.lB, h.lR, h.bel.trans (k2.below h.lR h.bel.size), cv, lv', rv', h1.moved k2 h.ne (fun k hk _ => h3 k hk), k1, h3, fun k hk => ?_, fun k hk => ?_⟩, k2⟩
  · rw [k3] at hk; exact h4 k hk
  · rcases k4 with e | e
    · rw [e] at hk; exact h5 k hk
    · rw [e] at hk; exact huB k hk
end Go.Proofs.YtmggfkhfiggloaaDoor
