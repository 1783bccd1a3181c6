/- Tables: begin, walked. -/
import Derived.Test.YtihilkdokfdoeaaDoorTbE
namespace Go.Proofs.YtihilkdokfdoeaaDoor
open Go.RowKit
attribute [local go_sem ↓] Go.wp_at_zero Go.wp_at_succ

/-- What an operation leaves: a table of these rows; its list is the former one's, or new. -/
def DoPost (w : World) (B : Nat) (v : Value) (l' : List Rw) (W' : World) : Prop :=
  ∃ v', TabAt W' B l' v' ∧ (∀ q, v'.ownBlock = some q → v.ownBlock = some q ∨ w.heap.size ≤ q) ∧ Mv B w W'
theorem DoPost.of_rep {w w1 W' : World} {B : Nat} {v : Value} {l' : List Rw} (hb : Below w.heap.size w w1) (h : RepPost w1 B v l' W') (ho : Ok l') : DoPost w B v l' W' := by
  obtain ⟨v', h1, h2, h3, h4⟩ := h
  refine ⟨v', ⟨h1, h2, fun k hk => (h3 k hk).1, ho⟩, fun q hq => ?_, (Mv.of_below hb B).trans h4⟩
  rcases (h3 q hq).2 with e | e
  · exact .inl e
  · exact .inr (Nat.le_trans hb.size e)
theorem DoPost.same {w W' : World} {B : Nat} {v : Value} {l : List Rw} (h : TabAt w B l v) (hb : Below w.heap.size w W') : DoPost w B v l W' :=
  ⟨v, h.on hb, fun _ hq => .inl hq, Mv.of_below hb B⟩
theorem DoPost.from {w w1 W' : World} {B : Nat} {v : Value} {l' : List Rw} (hb : Below w.heap.size w w1) (h : DoPost w1 B v l' W') : DoPost w B v l' W' := by
  obtain ⟨v', h1, h2, h3⟩ := h
  refine ⟨v', h1, fun q hq => ?_, (Mv.of_below hb B).trans h3⟩
  rcases h2 q hq with e | e
  · exact .inl e
  · exact .inr (Nat.le_trans hb.size e)

/-- A row that came to stand where there was none. -/
theorem put_none {l : List Rw} {k : List UInt8} (h : val? l k = none) (v : List UInt8) : putR l k v = l.take (plc l k) ++ [(k, v)] ++ l.drop (plc l k) := by
  rw [putR, h]
  simp
theorem put_some {l : List Rw} {k u : List UInt8} (h : val? l k = some u) (v : List UInt8) : putR l k v = l.take (plc l k) ++ [(k, v)] ++ l.drop (plc l k + 1) := by
  rw [putR, h]
  simp
theorem at_some {l : List Rw} (hs : l.Pairwise fun a b => lt a.1 b.1 = true) {k u : List UInt8} (h : val? l k = some u) : l[plc l k]? = some (k, u) := by
  obtain ⟨A, M, C, e1, e2, e3, e4, e5⟩ := split hs k
  rw [← e2]
  subst e1
  rw [val_split e3 e4 e5] at h
  rcases e5 with rfl | ⟨v, rfl⟩
  · cases h
  · simp at h ⊢
    exact h
theorem ok_put {l : List Rw} (h : Ok l) {k v : List UInt8} (hk : isK k = true) (hv : isV v = true) (hn : (val? l k).isSome = true ∨ l.length < 16) : Ok (putR l k v) := by
  obtain ⟨A, M, C, rfl, e2, e3, e4, e5⟩ := split h.sorted k
  rw [put_split e2 e3 e4 e5]
  refine ⟨sorted_put h.sorted e3 e4 _, ?_, fun r hr => ?_⟩
  · have hlen := h.len
    rcases e5 with rfl | ⟨u, rfl⟩
    · rw [val_split e3 e4 (.inl rfl)] at hn
      simp at hn hlen ⊢
      omega
    · simp at hlen ⊢
      omega
  · rcases List.mem_append.1 hr with hr | hr
    · exact h.row r (List.mem_append.2 (.inl hr))
    · rcases List.mem_cons.1 hr with rfl | hr
      · exact ⟨hk, hv⟩
      · exact h.row r (List.mem_append.2 (.inr (List.mem_append.2 (.inr hr))))
theorem ok_del {l : List Rw} (h : Ok l) {k u : List UInt8} (hu : val? l k = some u) : Ok (delR l k) := by
  obtain ⟨A, M, C, rfl, e2, e3, e4, e5⟩ := split h.sorted k
  rcases e5 with rfl | ⟨u', rfl⟩
  · rw [val_split e3 e4 (.inl rfl)] at hu
    cases hu
  · rw [del_split e2]
    exact ⟨sorted_del h.sorted, by have := h.len; simp at this ⊢; omega, fun r hr => h.row r (by simp at hr ⊢; rcases hr with hr | hr; exact .inl hr; exact .inr (.inr hr))⟩

/-- A row is laid, and replace is called. -/
theorem rep_put {w W : World} {B : Nat} {l l' : List Rw} {v : Value} (h : TabAt w B l v) (hB : Below w.heap.size w W) {i j : Nat} (hi : i ≤ l.length) (hj : j ≤ l.length) {k vl : List UInt8} (Q : Nat) (ob : Obj) (hQ : W.heap[Q]? = some ob) (hQB : Q ≠ B) (hok : Ok l') (hl : l.take i ++ [(k, vl)] ++ l.drop j = l') (H : Nat) (hH : W.heap.size = H) :
    Calls Tryd.prog 90 #[.pointer (some ⟨B, 0, none⟩), .int .i64 i, .int .i64 j, .slice (some ⟨H, 0, none⟩) 1 1] (W.alloc (.cells #[.string (bs k), .string (bs vl)] 178)) fun e W' => e = .returned (.tuple #[]) ∧ DoPost w B v l' W' ∧ W'.heap[Q]? = some ob := by
  subst hH
  have hB2 := hB.alloc hB.size (.cells #[.string (bs k), .string (bs vl)] 178)
  have hnew := heap_alloc_new W (.cells #[.string (bs k), .string (bs vl)] 178)
  have hlt := (Array.getElem?_eq_some_iff.1 hQ).1
  refine (replace_any (h.on hB2) hi hj (x := .slice (some ⟨W.heap.size, 0, none⟩) 1 1) (ol := [(k, vl)]) (.inr ⟨(k, vl), W.heap.size, rfl, rfl, cellB hnew 0 _ rfl, cellB hnew 1 _ rfl⟩)).mono ?_
  rintro e W' ⟨rfl, h2⟩
  rw [hl] at h2
  refine ⟨rfl, DoPost.of_rep hB2 h2 hok, ?_⟩
  obtain ⟨v', _, _, _, hm⟩ := h2
  exact (hm.block Q (by simp; omega) hQB).trans ((Below.heap_alloc W _ Q hlt).trans hQ)
theorem rep_del {w W : World} {B : Nat} {l l' : List Rw} {v : Value} (h : TabAt w B l v) (hB : Below w.heap.size w W) {i j : Nat} (hi : i ≤ l.length) (hj : j ≤ l.length) (hok : Ok l') (hl : l.take i ++ l.drop j = l') :
    Calls Tryd.prog 90 #[.pointer (some ⟨B, 0, none⟩), .int .i64 i, .int .i64 j, .slice none 0 0] W fun e W' => e = .returned (.tuple #[]) ∧ DoPost w B v l' W' := by
  refine (replace_any (h.on hB) hi hj (x := .slice none 0 0) (ol := []) (.inl ⟨rfl, rfl⟩)).mono ?_
  rintro e W' ⟨rfl, h2⟩
  rw [List.append_nil, hl] at h2
  exact ⟨rfl, DoPost.of_rep hB h2 hok⟩

/-- The rows behind begin. -/
def begR (l : List Rw) (kind : Int) (k v o : List UInt8) : List Rw := if (tells none l.length kind v o).2 ≠ 0 then l else putR l k v
set_option maxRecDepth 20000 in
set_option maxHeartbeats 1000000 in
theorem tBegin_any {w : World} {B : Nat} {l : List Rw} {v : Value} (h : TabAt w B l v) {kind : Int} {k vl o : List UInt8} (hk1 : 1 ≤ kind) (hk5 : kind ≤ 5) (hn : val? l k = none) (hk : isK k = true) (hv : isV vl = true) :
    Calls Tryd.prog 79 #[.pointer (some ⟨B, 0, none⟩), .int .i64 (plc l k), opV kind k vl o] w fun e W' =>
      e = .returned (.tuple #[.string (bs (tells none l.length kind vl o).1), .int .i64 (tells none l.length kind vl o).2]) ∧ DoPost w B v (begR l kind k vl o) W' := by
  have hb1 : Below w.heap.size w (w.alloc (.cells #[.int .i64 kind, .string (bs k), .string (bs vl), .string (bs o)] 47)) := (Below.refl _ _).alloc (Nat.le_refl _) _
  have hlen := h.ok.len
  obtain ⟨a, c, rfl, hcap⟩ := h.rows.slice
  have hcell := h.cell
  have hlt := h.lt
  by_cases h23 : kind = 2 ∨ kind = 3
  · by_cases h16 : 16 ≤ l.length
    · have ht : tells none l.length kind vl o = ([], 5) := by
        rw [tells, if_neg (by omega), if_pos h16]
      rw [begR, ht, if_pos (by decide)]
      have HD : Hid (_) := DoPost.same h hb1
      have h16' : (16 : Int) ≤ (l.length : Int) := by omega
      clear h hb1 ht
      rcases h23 with rfl | rfl
      all_goals
        go_enter Tryd.func79, Tryd.ntmps79
        go_wp2
        exact bodyPost_ret (v := .tuple #[.string (bs []), .int .i64 5]) (by simp [results, Tryd.f79, go_sem, bs]) rfl ⟨rfl, HD.out⟩
    · have hlt16 : (l.length : Int) < 16 := by omega
      have ht : tells none l.length kind vl o = (if kind = 2 then [] else vl, 0) := by
        rw [tells, if_neg (by omega), if_neg h16]
      obtain ⟨T, hT⟩ : ∃ T, (if kind = 2 then [] else vl) = T := ⟨_, rfl⟩
      rw [hT] at ht
      have hp := plc_le l k
      have hok := ok_put h.ok hk hv (.inr (by omega))
      have hR := rep_put h hb1 hp hp (w.heap.size) _ (heap_alloc_new w _) (by omega) hok (put_none hn vl).symm (w.heap.size + 1) (by simp)
      rw [begR, ht, if_neg (fun hh => hh rfl)]
      clear hok ht h hb1 hn h16 hv
      obtain ⟨P, hP⟩ : ∃ P, plc l k = P := ⟨_, rfl⟩
      obtain ⟨L, hL⟩ : ∃ L, putR l k vl = L := ⟨_, rfl⟩
      rw [hP, hL] at hR
      rw [hP, hL]
      clear hP hL
      rcases h23 with rfl | rfl
      · rw [if_pos rfl] at hT
        subst hT
        go_enter Tryd.func79, Tryd.ntmps79
        go_wp2_with (go_at_call 90; refine hR.mono ?_; rintro e w2 ⟨rfl, hD, hop⟩; have q0 := cellB hop 0 _ rfl; have q2 := cellB hop 2 _ rfl; have HD : Hid (DoPost w B (.slice a l.length c) L w2) := hD; clear hop hD)
        exact bodyPost_ret (v := .tuple #[.string (bs []), .int .i64 0]) (by simp [results, Tryd.f79, go_sem, bs]) rfl ⟨rfl, HD.out⟩
      · rw [if_neg (by decide)] at hT
        subst hT
        go_enter Tryd.func79, Tryd.ntmps79
        go_wp2_with (go_at_call 90; refine hR.mono ?_; rintro e w2 ⟨rfl, hD, hop⟩; have q0 := cellB hop 0 _ rfl; have q2 := cellB hop 2 _ rfl; have HD : Hid (DoPost w B (.slice a l.length c) L w2) := hD; clear hop hD)
        exact bodyPost_ret (v := .tuple #[.string (bs vl), .int .i64 0]) (by simp [results, Tryd.f79, go_sem]) rfl ⟨rfl, HD.out⟩
  · have ht : tells none l.length kind vl o = ([], 6) := by
      rw [tells, if_pos (by omega)]
    rw [begR, ht, if_pos (by decide)]
    have HD : Hid (_) := DoPost.same h hb1
    clear h hb1 ht
    obtain rfl | rfl | rfl : kind = 1 ∨ kind = 4 ∨ kind = 5 := by omega
    all_goals
      go_enter Tryd.func79, Tryd.ntmps79
      go_wp2
      exact bodyPost_ret (v := .tuple #[.string (bs []), .int .i64 6]) (by simp [results, Tryd.f79, go_sem, bs]) rfl ⟨rfl, HD.out⟩
end Go.Proofs.YtihilkdokfdoeaaDoor
