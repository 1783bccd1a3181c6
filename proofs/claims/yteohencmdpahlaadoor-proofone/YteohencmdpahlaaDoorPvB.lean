/- The law ProofOne, walked: its rows. -/
import Derived.Test.YteohencmdpahlaaDoorPvA
namespace Go.Proofs.YteohencmdpahlaaDoor
open Go.RowKit Go.Maps
attribute [local go_sem ↓] Go.wp_at_zero Go.wp_at_succ

theorem err_small {kind : Int} {k v o : List UInt8} (h : chk kind k v o = 0) (l : List Rw) : 0 ≤ (doR l kind k v o).2.1 ∧ (doR l kind k v o).2.1 < 1000 := by
  have h2 : (doR l kind k v o).2.1 = (tells (val? l k) l.length kind v o).2 := by rw [doR, if_neg (by rw [h]; decide)]
  rw [h2]
  unfold tells
  repeat' split
  all_goals exact ⟨by simp, by simp⟩
theorem repl_small {l : List Opr} (hok : ∀ o ∈ l, chk o.kind o.k o.v o.o = 0) : ∀ (S : Ms), ∀ a ∈ repl S l, 0 ≤ a.2 ∧ a.2 < 1000 := by
  induction l with
  | nil => intro S a ha; cases ha
  | cons o l ih =>
    intro S a ha
    rcases List.mem_cons.1 ha with rfl | ha
    · exact err_small (hok o (by simp)) _
    · exact ih (fun o ho => hok o (List.mem_cons_of_mem _ ho)) _ a ha
theorem tell_short {kind : Int} {k v o : List UInt8} (h : chk kind k v o = 0) {m : List Rw} (hm : Ok m) : (doR m kind k v o).1.length ≤ 64 := by
  have h2 : (doR m kind k v o).1 = (tells (val? m k) m.length kind v o).1 := by rw [doR, if_neg (by rw [h]; decide)]
  have hv : v.length ≤ 64 := by
    by_cases e : isV v = false
    · exfalso
      unfold chk at h
      rw [if_neg (fun e2 => by rw [if_pos e2] at h; cases h), if_pos (.inr (.inl e))] at h
      cases h
    · simpa [isV] using e
  rw [h2]
  cases hu : val? m k with
  | none =>
    unfold tells
    simp only
    repeat' split
    all_goals first
      | exact hv
      | simp
  | some u =>
    have hul : u.length ≤ 64 := by have := (hm.row _ (val_mem hu)).2; simpa [isV] using this
    unfold tells
    simp only
    repeat' split
    all_goals first
      | exact hul
      | (simp; done)
      | (show (u ++ v).length ≤ 64; omega)
theorem repl_short : ∀ {l : List Opr} (_ : ∀ o ∈ l, chk o.kind o.k o.v o.o = 0) {L S : Ms} (_ : Alike L S), ∀ a ∈ repl S l, a.1.length ≤ 64
  | [], _, _, _, _, a, ha => by cases ha
  | o :: l, hok, L, S, hal, a, ha => by
    rcases List.mem_cons.1 ha with rfl | ha
    · exact tell_short (hok o (by simp)) (hal _ (plcK_lt _)).2
    · exact repl_short (fun o ho => hok o (List.mem_cons_of_mem _ ho)) (alike_step hal o).2 a ha
/-- The rows of calls and points so far. -/
structure OW (M : Nat) (cs : List Cl) (ps : List Pt) (x y : Value) (W : World) : Prop where
  rc : W.ownsRow M 53 10 x cs.length (cs.flatMap ccs)
  rp : W.ownsRow M 56 5 y ps.length (ps.flatMap pks)
  ne : ∀ q, x.ownBlock = some q → y.ownBlock ≠ some q
theorem OW.keep {M : Nat} {cs : List Cl} {ps : List Pt} {x y : Value} {W W' : World} (h : OW M cs ps x y W) (hk : ∀ k, x.ownBlock = some k ∨ y.ownBlock = some k → k < W.heap.size → W'.heap[k]? = W.heap[k]?) : OW M cs ps x y W' :=
  ⟨owns_keep h.rc fun k e => hk k (.inl e) (h.rc.lt k e).2, owns_keep h.rp fun k e => hk k (.inr e) (h.rp.lt k e).2, h.ne⟩
theorem OW.addC {M : Nat} {cs : List Cl} {ps : List Pt} {x y : Value} {W W2 w' : World} (h : OW M cs ps x y W) (hb : Below W.heap.size W W2) {c : Cl} {g cap : Nat} (h1 : w'.ownsRow M 53 10 (.slice (some ⟨g, 0, none⟩) (cs.length + 1) cap) (cs.length + 1) ((cs ++ [c]).flatMap ccs)) (h2 : W2.grownBy w' x.ownBlock) (h3 : x.ownBlock = some g ∨ g = W2.heap.size) : OW M (cs ++ [c]) ps (.slice (some ⟨g, 0, none⟩) (cs.length + 1) cap) y w' := by
  refine ⟨by rw [List.length_append]; exact h1, owns_keep h.rp fun k e => ?_, fun q hq e => ?_⟩
  · have hl := (h.rp.lt k e).2
    have := hb.size
    exact (h2.block k (by omega) (fun e2 => h.ne k e2.symm e)).trans (hb.block k hl)
  · have hq' : g = q := by simpa [Value.ownBlock] using hq
    subst hq'
    rcases h3 with h3 | h3
    · exact h.ne _ h3 e
    · have := (h.rp.lt _ e).2
      have := hb.size
      omega
theorem OW.addP {M : Nat} {cs : List Cl} {ps : List Pt} {x y : Value} {W W2 w' : World} (h : OW M cs ps x y W) (hb : Below W.heap.size W W2) {p : Pt} {g cap : Nat} (h1 : w'.ownsRow M 56 5 (.slice (some ⟨g, 0, none⟩) (ps.length + 1) cap) (ps.length + 1) ((ps ++ [p]).flatMap pks)) (h2 : W2.grownBy w' y.ownBlock) (h3 : y.ownBlock = some g ∨ g = W2.heap.size) : OW M cs (ps ++ [p]) x (.slice (some ⟨g, 0, none⟩) (ps.length + 1) cap) w' := by
  refine ⟨owns_keep h.rc fun k e => ?_, by rw [List.length_append]; exact h1, fun q hq e => ?_⟩
  · have hl := (h.rc.lt k e).2
    have := hb.size
    exact (h2.block k (by omega) (fun e2 => h.ne k e e2.symm)).trans (hb.block k hl)
  · have hq' : g = q := by simpa [Value.ownBlock] using e
    subst hq'
    rcases h3 with h3 | h3
    · exact h.ne _ hq h3
    · have := (h.rc.lt _ hq).2
      have := hb.size
      omega
theorem Tryd.info53 : (Tryd.prog.info? 53).map (fun i => (i.zero, i.size, i.bytes)) = some (some (.agg #[.int .i64 0, .int .i64 0, .int .i64 0, .string ⟨#[]⟩, .string ⟨#[]⟩, .string ⟨#[]⟩, .int .i64 0, .int .i64 0, .int .i64 0, .string ⟨#[]⟩]), 10, 112) := by kernel_rfl
theorem Tryd.info56 : (Tryd.prog.info? 56).map (fun i => (i.zero, i.size, i.bytes)) = some (some (.agg #[.int .i64 0, .int .i64 0, .int .i64 0, .int .i64 0, .string ⟨#[]⟩]), 5, 48) := by kernel_rfl
end Go.Proofs.YteohencmdpahlaaDoor
