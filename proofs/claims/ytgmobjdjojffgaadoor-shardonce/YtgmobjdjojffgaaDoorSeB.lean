/- Shards: Content and Text of any one; building one, by laws. -/
import Derived.Test.YtgmobjdjojffgaaDoorSeA
import Derived.Test.YtgmobjdjojffgaaDoorSdN
import Derived.Test.YtgmobjdjojffgaaDoorSdS
namespace Go.Proofs.YtgmobjdjojffgaaDoor
section
open Go.RowKit
attribute [local go_sem ↓] Go.wp_at_zero Go.wp_at_succ

theorem wpList_build {P : Program} {ops : Array Oper} {rest : List Oper} {op : Oper} {a : Act} {w : World} {Q : Exit → Act → World → Prop} (hgd : op.guard = none) (t : TypeId) (parts : Array (Nat × Operand)) (ho : op.op = .build t parts)
    (vs : List (Nat × Value)) (hv : parts.toList.map (fun p => (p.1, a.eval p.2)) = vs) (u : Value) (hrun : (Instr.build t vs.toArray).run P w = .ok u w)
    (h : wpList P ops Q rest (a.put op.dst u) w) : wpList P ops Q (op :: rest) a w :=
  wpList_plain hgd fun K hK => by
    have e : parts.map (fun p => (p.1, a.eval p.2)) = vs.toArray := by
      apply Array.ext'
      rw [Array.toList_map, hv]
    unfold Oper.wp execOp
    simp only [ho, e, Sem.run_bind, hrun, Result.andThen_ok, Sem.run_pure]
    exact hK _ _ h
theorem build71a (st : Int) (w : World) : (Instr.build 71 #[(0, .int .i64 st)]).run Tryd.prog w = .ok (.agg (.int .i64 st :: (.pointer none :: ccs fun _ => la0)).toArray) w := by kernel_rfl
theorem build71b (st : Int) (p : Option Addr) (c : Nat → La) (w : World) : (Instr.build 71 #[(0, .int .i64 st), (1, .agg (.pointer p :: ccs c).toArray)]).run Tryd.prog w = .ok (.agg (.int .i64 st :: (.pointer p :: ccs c)).toArray) w := by kernel_rfl
/-- A shard's content. -/
def contS (s : Sh) : List UInt8 := if hasC s.st = true then contT s.l s.c else []
def textS (s : Sh) : List UInt8 := packL [Lib.itoa s.st, contS s]
structure OkS (s : Sh) : Prop where
  c : OkC s.c
  l : Ok s.l
  s0 : 0 ≤ s.st
  s3 : s.st ≤ 3
theorem contS_len {s : Sh} (h : OkS s) : (contS s).length ≤ 7000 := by
  unfold contS
  split
  · exact cont_len h.l h.c
  · simp
set_option maxRecDepth 20000 in
set_option maxHeartbeats 1000000 in
theorem Content_any {w : World} (he : EnvP w) {B : Nat} {s : Sh} {T : Nat} {v : Value} (h : ShAt w B s T v) (hok : OkC s.c) : Calls Tryd.prog 19 #[.pointer (some ⟨B, 0, none⟩)] w fun e W' => e = .returned (.string (bs (contS s))) ∧ Below w.heap.size w W' := by
  cases h0 : hasC s.st with
  | false =>
    rw [contS, h0, if_neg (by simp)]
    refine (Content_no h h0).mono ?_
    rintro e W' ⟨rfl, rfl⟩
    exact ⟨rfl, Below.refl _ _⟩
  | true =>
    rw [contS, h0, if_pos rfl]
    have hS := Status_any h
    have hH := holds_any s.st w
    rw [h0] at hH
    have hT := hText_any he h h0 hok
    clear h h0 he hok
    go_enter Tryd.func19, Tryd.ntmps19
    go_wp2_with (first
      | (go_at_call 21; refine hS.mono ?_; clear hS; rintro e w1 ⟨rfl, h9⟩; subst w1)
      | (go_at_call 27; refine hH.mono ?_; clear hH; rintro e w1 ⟨rfl, h9⟩; subst w1)
      | (go_at_call 38; refine hT.mono ?_; clear hT; rintro e w1 ⟨rfl, hb⟩))
    go_ret
    exact ⟨rfl, hb⟩
theorem sText_any {w : World} (he : EnvP w) {B : Nat} {s : Sh} {T : Nat} {v : Value} (h : ShAt w B s T v) (hok : OkS s) : Calls Tryd.prog 11 #[.pointer (some ⟨B, 0, none⟩)] w fun e W' => e = .returned (.string (bs (textS s))) ∧ Below w.heap.size w W' :=
  sText_of he _ s.st (contS s) hok.s0 hok.s3 (by have := contS_len hok; omega) (fun W hb => Status_any (h.on hb)) (fun W hb => (Content_any (he.next hb) (h.on hb) hok.c).mono fun e W' k => ⟨k.1, hb.trans (k.2.mono hb.size)⟩)
/-- The shard that a status' text and a content say. -/
def loadAB (a b : List UInt8) : Option Sh :=
  if (decide (tnE a = 0) && inR (tnV a) 0 3) = true then
    if hasC (tnV a) = true then (loadC b).map fun x => ⟨tnV a, x.1, x.2⟩
    else if b = [] then some ⟨tnV a, [], fun _ => la0⟩ else none
  else none
/-- The shard that a text says. -/
def loadS (s : List UInt8) : Option Sh := if good s ∧ (texts s).length = 2 then loadAB ((texts s).headD []) (((texts s).drop 1).headD []) else none
theorem texts_pair {s : List UInt8} (h : (texts s).length = 2) : ∃ a b, texts s = [a, b] := by
  match e : texts s, h with
  | [a, b], _ => exact ⟨a, b, rfl⟩
theorem text_loadS {s : List UInt8} {x : Sh} (h : loadS s = some x) : OkS x ∧ textS x = s := by
  unfold loadS at h
  split at h
  · rename_i hc
    obtain ⟨a, b, e⟩ := texts_pair hc.2
    rw [e] at h
    have h : loadAB a b = some x := h
    unfold loadAB at h
    have hp : packL [a, b] = s := by rw [← e]; exact pack_texts hc.1
    split at h
    · rename_i hf
      simp only [Bool.and_eq_true] at hf
      have hi := inR_t hf.2
      have hb := tn_back (of_decide_eq_true hf.1)
      split at h
      · rename_i hh
        cases hl : loadC b with
        | none => rw [hl] at h; cases h
        | some y =>
          rw [hl] at h
          cases h
          obtain ⟨l, c⟩ := y
          obtain ⟨o1, o2, o3⟩ := cont_load hl
          refine ⟨⟨o2, o1, hi.1, hi.2⟩, ?_⟩
          rw [textS, contS, if_pos hh, o3, hb]
          exact hp
      · rename_i hh
        split at h
        · rename_i hb0
          cases h
          refine ⟨⟨OkC.zero, Ok.nil, hi.1, hi.2⟩, ?_⟩
          rw [textS, contS, if_neg hh, hb]
          show packL [a, []] = s
          rw [← hb0]
          exact hp
        · cases h
    · cases h
  · cases h
end
section
open Go.RowKit
attribute [local go_sem ↓] Go.wp_at_zero Go.wp_at_succ

def Held (p : Prop) : Prop := p
theorem hold_goal {p : Prop} (h : Held p) : p := h
/-- What Load gives. -/
def LdPost (w : World) (x : Option Sh) (e : Ending) (W' : World) : Prop :=
  match x with
  | none => e = .returned (.tuple #[.pointer none, .int .i64 4]) ∧ Below w.heap.size w W'
  | some s => ∃ B T v, e = .returned (.tuple #[.pointer (some ⟨B, 0, none⟩), .int .i64 0]) ∧ ShAt W' B s T v ∧ w.heap.size ≤ B ∧ (hasC s.st = true → w.heap.size ≤ T) ∧ Below w.heap.size w W'
theorem Tryd.size71 : (Tryd.prog.info? 71).map (·.size) = some 26 := by kernel_rfl
theorem wpList_box {P : Program} {ops : Array Oper} {rest : List Oper} {op : Oper} {a : Act} {w : World} {Q : Exit → Act → World → Prop} (hgd : op.guard = none) (t : TypeId) (x : Operand) (ho : op.op = .box t x)
    (v : Value) (hv : a.eval x = v) (u : Value) (w' : World) (hrun : (Instr.box t v).run P w = .ok u w')
    (h : wpList P ops Q rest (a.put op.dst u) w') : wpList P ops Q (op :: rest) a w :=
  wpList_plain hgd fun K hK => by
    subst hv
    unfold Oper.wp execOp
    simp only [ho, Sem.run_bind, hrun, Result.andThen_ok, Sem.run_pure]
    exact hK _ _ h
theorem box71 (st : Int) (p : Option Addr) (c : Nat → La) (w : World) : (Instr.box 71 (.agg (.int .i64 st :: (.pointer p :: ccs c)).toArray)).run Tryd.prog w = .ok (.pointer (some ⟨w.heap.size, 0, none⟩)) (w.alloc (.cells (.int .i64 st :: (.pointer p :: ccs c)).toArray 71)) := by kernel_rfl
/-- A new block that is a shard. -/
theorem sh_new {w1 : World} {s : Sh} {T : Nat} {v : Value} (ht : hasC s.st = true → TabAt w1 T s.l v) (hz : hasC s.st = false → s.l = [] ∧ s.c = fun _ => la0) : ShAt (w1.alloc (.cells (.int .i64 s.st :: hcs s T).toArray 71)) w1.heap.size s T v := by
  have hn := heap_alloc_new w1 (.cells (.int .i64 s.st :: hcs s T).toArray 71)
  have hb : Below w1.heap.size w1 (w1.alloc (.cells (.int .i64 s.st :: hcs s T).toArray 71)) := (Below.refl _ _).alloc (Nat.le_refl _) _
  refine ⟨by simp, cellB hn 0 _ rfl, fun j x hx => cellB hn (1 + j) x ?_, fun j => frozenB hn j, fun hc => ⟨(ht hc).on hb, ?_, fun k e => ?_⟩, hz⟩
  · rw [Nat.add_comm]
    simpa using hx
  · have := (ht hc).lt
    omega
  · have := (ht hc).rows.lt k e
    omega
set_option maxRecDepth 20000 in
set_option maxHeartbeats 1000000 in
theorem sLoad_bad1 (s : List UInt8) (w : World) (hs : s.length ≤ 1000000) (he : Env w) (hbad : ¬ (good s ∧ (texts s).length = 2)) :
    Calls Tryd.prog 9 #[.string (bs s)] w fun e W' => e = .returned (.tuple #[.pointer none, .int .i64 4]) ∧ Below w.heap.size w W' := by
  have hU := Unpack_any s w hs he
  have hcase : errOf s = 4 ∨ (errOf s = 0 ∧ (((texts s).length : Int) != 2) = true) := by
    by_cases hg : good s
    · refine .inr ⟨if_pos hg, ?_⟩
      have : ¬ (texts s).length = 2 := fun h => hbad ⟨hg, h⟩
      rw [bne_iff_ne]
      omega
    · exact .inl (if_neg hg)
  clear hbad
  obtain ⟨L, hL⟩ : ∃ L, texts s = L := ⟨_, rfl⟩
  rw [hL] at hU hcase
  obtain ⟨E, hE⟩ : ∃ E, errOf s = E := ⟨_, rfl⟩
  rw [hE] at hU hcase
  clear hE hL he hs
  rcases hcase with rfl | ⟨rfl, hm⟩
  all_goals
    go_enter Tryd.func9, Tryd.ntmps9
    go_wp2_with (first
      | (go_at_call 24; refine hU.mono ?_; clear hU; rintro e w1 ⟨v, rfl, hown, hb1⟩; obtain ⟨va, vc, rfl⟩ := owns_slice hown))
    exact bodyPost_ret (v := .tuple #[.pointer none, .int .i64 4]) (by simp [results, Tryd.f9, go_sem]) rfl ⟨rfl, hb1⟩
set_option maxRecDepth 20000 in
set_option maxHeartbeats 1000000 in
theorem sLoad_bad2 (s : List UInt8) (w : World) (hs : s.length ≤ 1000000) (he : Env w) (hg : good s) {x y : List UInt8} (hL : texts s = [x, y]) (hf : (decide (tnE x = 0) && inR (tnV x) 0 3) = false) :
    Calls Tryd.prog 9 #[.string (bs s)] w fun e W' => e = .returned (.tuple #[.pointer none, .int .i64 4]) ∧ Below w.heap.size w W' := by
  have hU := Unpack_any s w hs he
  rw [show errOf s = 0 from if_pos hg, hL] at hU
  have hU : Calls Tryd.prog 24 #[.string (bs s)] w fun e W' => ∃ v, e = .returned (.tuple #[v, .int .i64 0]) ∧ W'.ownsRow w.heap.size 9 1 v [x, y].length (strs [x, y]) ∧ Below w.heap.size w W' := hU
  have hxs : x.length ≤ s.length := text_small (by rw [hL]; simp)
  have hys : y.length ≤ 1000000 := Nat.le_trans (text_small (s := s) (by rw [hL]; simp)) hs
  have HT : Hid (∀ W, Below w.heap.size w W → Calls Tryd.prog 25 #[.string (bs x)] W fun e W' => e = .returned (.tuple #[.int .i64 (tnV x), .int .i64 (tnE x)]) ∧ Below W.heap.size W W') := fun W hb => ToNum_any (bs x) W (by rw [bs_size]; omega) (he.next hb)
  have HW : Hid (∀ W, Calls Tryd.prog 26 #[.int .i64 (tnV x), .int .i64 0, .int .i64 3] W fun e W' => e = .returned (.bool (inR (tnV x) 0 3)) ∧ W' = W) := fun W => within_any _ _ _ W
  have HH : Hid (∀ W, Calls Tryd.prog 27 #[.int .i64 (tnV x)] W fun e W' => e = .returned (.bool (hasC (tnV x))) ∧ W' = W) := fun W => holds_any _ W
  have h0 : [x, y][0]? = some x := rfl
  have h1 : [x, y][1]? = some y := rfl
  have hcase : (tnE x != 0) = true ∨ (tnE x = 0 ∧ inR (tnV x) 0 3 = false) := by
    by_cases e : tnE x = 0
    · rw [e] at hf
      exact .inr ⟨e, by simpa using hf⟩
    · exact .inl (by simpa using e)
  obtain ⟨E, hE⟩ : ∃ E, tnE x = E := ⟨_, rfl⟩
  obtain ⟨V, hV⟩ : ∃ V, tnV x = V := ⟨_, rfl⟩
  rw [hE, hV] at HT hcase
  rw [hV] at HW HH
  clear hE hV he hs hg hL hf hxs hys
  rcases hcase with h2 | ⟨rfl, h2⟩
  · go_enter Tryd.func9, Tryd.ntmps9
    go_wp2_with (first
      | (go_at_call 24; refine hU.mono ?_; clear hU; rintro e w1 ⟨v, rfl, hown, hb1⟩; obtain ⟨va, vc, rfl⟩ := owns_slice hown; obtain ⟨b, o, rfl, hb0, hcc⟩ := (Sl.of_owns hown).at2 h0; have c0 := hcc 0 _ h0; rw [Nat.add_zero] at c0; have d1 := hcc 1 _ h1; have HD : Hid (b < w1.heap.size ∧ w1.cell? ⟨b, o + 1, none⟩ = some (.string (bs y))) := ⟨hb0, d1⟩; have ht := HT.out _ hb1; clear hown hcc HT d1)
      | (go_at_call 25; refine ht.mono ?_; clear ht; rintro e w2 ⟨rfl, hb2⟩; have hb12 := hb1.trans (hb2.mono hb1.size); have c1 := (hb2.cell (p := ⟨b, o + 1, none⟩) HD.out.1).trans HD.out.2; have hg2 := Nat.lt_of_lt_of_le HD.out.1 hb2.size; clear HD)
      | (go_at_call 26; refine (HW.out _).mono ?_; clear HW; rintro e w3 ⟨rfl, h9⟩; subst w3)
      | (go_at_call 27; refine (HH.out _).mono ?_; clear HH; rintro e w3 ⟨rfl, h9⟩; subst w3))
    exact bodyPost_ret (v := .tuple #[.pointer none, .int .i64 4]) (by simp [results, Tryd.f9, go_sem]) rfl ⟨rfl, hb12⟩
  · rw [h2] at HW
    go_enter Tryd.func9, Tryd.ntmps9
    go_wp2_with (first
      | (go_at_call 24; refine hU.mono ?_; clear hU; rintro e w1 ⟨v, rfl, hown, hb1⟩; obtain ⟨va, vc, rfl⟩ := owns_slice hown; obtain ⟨b, o, rfl, hb0, hcc⟩ := (Sl.of_owns hown).at2 h0; have c0 := hcc 0 _ h0; rw [Nat.add_zero] at c0; have d1 := hcc 1 _ h1; have HD : Hid (b < w1.heap.size ∧ w1.cell? ⟨b, o + 1, none⟩ = some (.string (bs y))) := ⟨hb0, d1⟩; have ht := HT.out _ hb1; clear hown hcc HT d1)
      | (go_at_call 25; refine ht.mono ?_; clear ht; rintro e w2 ⟨rfl, hb2⟩; have hb12 := hb1.trans (hb2.mono hb1.size); have c1 := (hb2.cell (p := ⟨b, o + 1, none⟩) HD.out.1).trans HD.out.2; have hg2 := Nat.lt_of_lt_of_le HD.out.1 hb2.size; clear HD)
      | (go_at_call 26; refine (HW.out _).mono ?_; clear HW; rintro e w3 ⟨rfl, h9⟩; subst w3)
      | (go_at_call 27; refine (HH.out _).mono ?_; clear HH; rintro e w3 ⟨rfl, h9⟩; subst w3))
    exact bodyPost_ret (v := .tuple #[.pointer none, .int .i64 4]) (by simp [results, Tryd.f9, go_sem]) rfl ⟨rfl, hb12⟩
set_option maxRecDepth 20000 in
set_option maxHeartbeats 1000000 in
theorem sLoad_no (s : List UInt8) (w : World) (hs : s.length ≤ 1000000) (he : Env w) (hg : good s) {x y : List UInt8} (hL : texts s = [x, y]) (hf : (decide (tnE x = 0) && inR (tnV x) 0 3) = true) (hh : hasC (tnV x) = false) :
    Calls Tryd.prog 9 #[.string (bs s)] w fun e W' => LdPost w (if y = [] then some ⟨tnV x, [], fun _ => la0⟩ else none) e W' := by
  have hU := Unpack_any s w hs he
  rw [show errOf s = 0 from if_pos hg, hL] at hU
  have hU : Calls Tryd.prog 24 #[.string (bs s)] w fun e W' => ∃ v, e = .returned (.tuple #[v, .int .i64 0]) ∧ W'.ownsRow w.heap.size 9 1 v [x, y].length (strs [x, y]) ∧ Below w.heap.size w W' := hU
  have hxs : x.length ≤ s.length := text_small (by rw [hL]; simp)
  have hys : y.length ≤ 1000000 := Nat.le_trans (text_small (s := s) (by rw [hL]; simp)) hs
  have HT : Hid (∀ W, Below w.heap.size w W → Calls Tryd.prog 25 #[.string (bs x)] W fun e W' => e = .returned (.tuple #[.int .i64 (tnV x), .int .i64 (tnE x)]) ∧ Below W.heap.size W W') := fun W hb => ToNum_any (bs x) W (by rw [bs_size]; omega) (he.next hb)
  have HW : Hid (∀ W, Calls Tryd.prog 26 #[.int .i64 (tnV x), .int .i64 0, .int .i64 3] W fun e W' => e = .returned (.bool (inR (tnV x) 0 3)) ∧ W' = W) := fun W => within_any _ _ _ W
  have HH : Hid (∀ W, Calls Tryd.prog 27 #[.int .i64 (tnV x)] W fun e W' => e = .returned (.bool (hasC (tnV x))) ∧ W' = W) := fun W => holds_any _ W
  have h0 : [x, y][0]? = some x := rfl
  have h1 : [x, y][1]? = some y := rfl
  simp only [Bool.and_eq_true] at hf
  have hE := of_decide_eq_true hf.1
  have hR := hf.2
  rw [hE] at HT
  rw [hR] at HW
  rw [hh] at HH
  obtain ⟨V, hV⟩ : ∃ V, tnV x = V := ⟨_, rfl⟩
  rw [hV] at HT HW HH hh
  rw [hV]
  have HHH : Hid (hasC V = false) := hh
  clear hE hV he hs hg hL hf hxs hys hR hh
  by_cases hy : y = []
  · have hem := emp_t hy
    rw [if_pos hy]
    clear hy
    have HN : Hid (∀ w2 : World, Below w.heap.size w w2 → ShAt (w2.alloc (.cells (.int .i64 V :: (.pointer none :: ccs fun _ => la0)).toArray 71)) w2.heap.size ⟨V, [], fun _ => la0⟩ 0 (.slice none 0 0)) := fun w2 _ => by
      have := sh_new (w1 := w2) (s := ⟨V, [], fun _ => la0⟩) (T := 0) (v := .slice none 0 0) (fun e => by rw [show hasC V = false from HHH.out] at e; cases e) (fun _ => ⟨rfl, rfl⟩)
      rw [hcs] at this
      simp only [HHH.out] at this
      exact this
    go_enter Tryd.func9, Tryd.ntmps9
    go_wp2_with (first
      | (go_at_call 24; refine hU.mono ?_; clear hU; rintro e w1 ⟨v, rfl, hown, hb1⟩; obtain ⟨va, vc, rfl⟩ := owns_slice hown; obtain ⟨b, o, rfl, hb0, hcc⟩ := (Sl.of_owns hown).at2 h0; have c0 := hcc 0 _ h0; rw [Nat.add_zero] at c0; have d1 := hcc 1 _ h1; have HD : Hid (b < w1.heap.size ∧ w1.cell? ⟨b, o + 1, none⟩ = some (.string (bs y))) := ⟨hb0, d1⟩; have ht := HT.out _ hb1; clear hown hcc HT d1)
      | (go_at_call 25; refine ht.mono ?_; clear ht; rintro e w2 ⟨rfl, hb2⟩; have hb12 := hb1.trans (hb2.mono hb1.size); have c1 := (hb2.cell (p := ⟨b, o + 1, none⟩) HD.out.1).trans HD.out.2; have hg2 := Nat.lt_of_lt_of_le HD.out.1 hb2.size; clear HD)
      | (go_at_call 26; refine (HW.out _).mono ?_; clear HW; rintro e w3 ⟨rfl, h9⟩; subst w3)
      | (go_at_call 27; refine (HH.out _).mono ?_; clear HH; rintro e w3 ⟨rfl, h9⟩; subst w3))
    exact bodyPost_ret (v := .tuple #[.pointer (some ⟨w2.heap.size, 0, none⟩), .int .i64 0]) (by simp [results, Tryd.f9, go_sem]) rfl ⟨_, _, _, rfl, HN.out w2 hb12, hb12.size, (fun e => by rw [show hasC V = false from HHH.out] at e; cases e), hb12.alloc hb12.size _⟩
  · have hem := emp_f hy
    rw [if_neg hy]
    go_enter Tryd.func9, Tryd.ntmps9
    go_wp2_with (first
      | (go_at_call 24; refine hU.mono ?_; clear hU; rintro e w1 ⟨v, rfl, hown, hb1⟩; obtain ⟨va, vc, rfl⟩ := owns_slice hown; obtain ⟨b, o, rfl, hb0, hcc⟩ := (Sl.of_owns hown).at2 h0; have c0 := hcc 0 _ h0; rw [Nat.add_zero] at c0; have d1 := hcc 1 _ h1; have HD : Hid (b < w1.heap.size ∧ w1.cell? ⟨b, o + 1, none⟩ = some (.string (bs y))) := ⟨hb0, d1⟩; have ht := HT.out _ hb1; clear hown hcc HT d1)
      | (go_at_call 25; refine ht.mono ?_; clear ht; rintro e w2 ⟨rfl, hb2⟩; have hb12 := hb1.trans (hb2.mono hb1.size); have c1 := (hb2.cell (p := ⟨b, o + 1, none⟩) HD.out.1).trans HD.out.2; have hg2 := Nat.lt_of_lt_of_le HD.out.1 hb2.size; clear HD)
      | (go_at_call 26; refine (HW.out _).mono ?_; clear HW; rintro e w3 ⟨rfl, h9⟩; subst w3)
      | (go_at_call 27; refine (HH.out _).mono ?_; clear HH; rintro e w3 ⟨rfl, h9⟩; subst w3))
    exact bodyPost_ret (v := .tuple #[.pointer none, .int .i64 4]) (by simp [results, Tryd.f9, go_sem]) rfl ⟨rfl, hb12⟩
set_option maxRecDepth 20000 in
set_option maxHeartbeats 1000000 in
theorem sLoad_yes (s : List UInt8) (w : World) (hs : s.length ≤ 1000000) (he : Env w) (hg : good s) {x y : List UInt8} (hL : texts s = [x, y]) (hf : (decide (tnE x = 0) && inR (tnV x) 0 3) = true) (hh : hasC (tnV x) = true) :
    Calls Tryd.prog 9 #[.string (bs s)] w fun e W' => LdPost w ((loadC y).map fun z => ⟨tnV x, z.1, z.2⟩) e W' := by
  have hU := Unpack_any s w hs he
  rw [show errOf s = 0 from if_pos hg, hL] at hU
  have hU : Calls Tryd.prog 24 #[.string (bs s)] w fun e W' => ∃ v, e = .returned (.tuple #[v, .int .i64 0]) ∧ W'.ownsRow w.heap.size 9 1 v [x, y].length (strs [x, y]) ∧ Below w.heap.size w W' := hU
  have hxs : x.length ≤ s.length := text_small (by rw [hL]; simp)
  have hys : y.length ≤ 1000000 := Nat.le_trans (text_small (s := s) (by rw [hL]; simp)) hs
  have HT : Hid (∀ W, Below w.heap.size w W → Calls Tryd.prog 25 #[.string (bs x)] W fun e W' => e = .returned (.tuple #[.int .i64 (tnV x), .int .i64 (tnE x)]) ∧ Below W.heap.size W W') := fun W hb => ToNum_any (bs x) W (by rw [bs_size]; omega) (he.next hb)
  have HW : Hid (∀ W, Calls Tryd.prog 26 #[.int .i64 (tnV x), .int .i64 0, .int .i64 3] W fun e W' => e = .returned (.bool (inR (tnV x) 0 3)) ∧ W' = W) := fun W => within_any _ _ _ W
  have HH : Hid (∀ W, Calls Tryd.prog 27 #[.int .i64 (tnV x)] W fun e W' => e = .returned (.bool (hasC (tnV x))) ∧ W' = W) := fun W => holds_any _ W
  have h0 : [x, y][0]? = some x := rfl
  have h1 : [x, y][1]? = some y := rfl
  simp only [Bool.and_eq_true] at hf
  have hE := of_decide_eq_true hf.1
  have hR := hf.2
  rw [hE] at HT
  rw [hR] at HW
  rw [hh] at HH
  have HD2 : Hid (∀ W, Below w.heap.size w W → Calls Tryd.prog 28 #[.string (bs y)] W fun e W' => LcPost W (loadC y) e W') := fun W hb => loadC_any y W hys (he.next hb)
  have hz := Tryd.zero69
  have hZ : (Value.pointer none :: C24).length = 25 := by rw [List.length_cons, C24_len]
  have HA : Hid ((Value.pointer none :: C24).toArray.all (·.oneCell') = true) := all_oneCell_toArray (hcs_one sh0 0)
  have HS : Hid ((Tryd.prog.info? 69).map (·.size) = some (Value.pointer none :: C24).toArray.size) := by show _ = _; rw [List.size_toArray, hZ]; exact Tryd.size69
  obtain ⟨V, hV⟩ : ∃ V, tnV x = V := ⟨_, rfl⟩
  rw [hV] at HT HW HH hh
  rw [hV]
  have HHH : Hid (hasC V = true) := hh
  clear hE hV he hs hg hL hf hxs hys hR hh
  cases hl : loadC y with
  | none =>
    rw [hl] at HD2
    have HV : Hid (∀ w1 : World, (w1.alloc (.cells (Value.pointer none :: C24).toArray 69)).there w1.heap.size 0 (Value.pointer none :: C24).toArray.size ∧ ((w1.alloc (.cells (Value.pointer none :: C24).toArray 69)).setCells w1.heap.size 0 (Value.pointer none :: C24)).rangeAt w1.heap.size 0 (Value.pointer none :: C24) ∧ Below w1.heap.size w1 ((w1.alloc (.cells (Value.pointer none :: C24).toArray 69)).setCells w1.heap.size 0 (Value.pointer none :: C24))) := fun w1 => by
      obtain ⟨a, b, c⟩ := res_lay (w := w1) (W := w1.alloc (.cells (Value.pointer none :: C24).toArray 69)) hZ (Below.refl _ _) _ hZ
      exact ⟨a, b, c⟩
    have HD3 : Hid (∀ W, Below w.heap.size w W → Calls Tryd.prog 28 #[.string (bs y)] W fun e W' => e = .returned (.tuple #[.agg (.pointer none :: C24).toArray, .int .i64 4]) ∧ Below W.heap.size W W') := HD2
    obtain ⟨C, hC⟩ : ∃ C, C24 = C := ⟨_, rfl⟩
    rw [hC] at hz HA HS HV HD3
    clear hC HD2 hZ hl
    go_enter Tryd.func9, Tryd.ntmps9
    go_wp2_with (first
      | (go_at_call 24; refine hU.mono ?_; clear hU; rintro e w1 ⟨v, rfl, hown, hb1⟩; obtain ⟨va, vc, rfl⟩ := owns_slice hown; obtain ⟨b, o, rfl, hb0, hcc⟩ := (Sl.of_owns hown).at2 h0; have c0 := hcc 0 _ h0; rw [Nat.add_zero] at c0; have d1 := hcc 1 _ h1; have HD : Hid (b < w1.heap.size ∧ w1.cell? ⟨b, o + 1, none⟩ = some (.string (bs y))) := ⟨hb0, d1⟩; have ht := HT.out _ hb1; clear hown hcc HT d1)
      | (go_at_call 25; refine ht.mono ?_; clear ht; rintro e w2 ⟨rfl, hb2⟩; have hb12 := hb1.trans (hb2.mono hb1.size); have c1 := (hb2.cell (p := ⟨b, o + 1, none⟩) HD.out.1).trans HD.out.2; have hg2 := Nat.lt_of_lt_of_le HD.out.1 hb2.size; clear HD)
      | (go_at_call 26; refine (HW.out _).mono ?_; clear HW; rintro e w3 ⟨rfl, h9⟩; subst w3)
      | (go_at_call 27; refine (HH.out _).mono ?_; clear HH; rintro e w3 ⟨rfl, h9⟩; subst w3)
      | (go_at_call 28; refine (HD3.out _ hb12).mono ?_; clear HD3; rintro e w4 ⟨rfl, hb4⟩; have hv := HV.out w4)
      | (refine wpList_store_mid rfl 69 _ _ rfl w4.heap.size 0 (Value.pointer none :: C).toArray rfl rfl hv.1 HS.out HA.out ?_))
    exact bodyPost_ret (v := .tuple #[.pointer none, .int .i64 4]) (by simp [results, Tryd.f9, go_sem]) rfl ⟨rfl, (hb12.trans (hb4.mono hb12.size)).trans (hv.2.2.mono (Nat.le_trans hb12.size hb4.size))⟩
  | some lc =>
    obtain ⟨l, c⟩ := lc
    rw [hl] at HD2
    have HD3 : Hid (∀ W, Below w.heap.size w W → Calls Tryd.prog 28 #[.string (bs y)] W fun e W' => ∃ T v, e = .returned (.tuple #[.agg (.pointer (some ⟨T, 0, none⟩) :: ccs c).toArray, .int .i64 0]) ∧ W.heap.size ≤ T ∧ TabAt W' T l v ∧ (∀ k, v.ownBlock = some k → W.heap.size ≤ k) ∧ Below W.heap.size W W') := HD2
    have HA2 : Hid (∀ T, (Value.pointer (some ⟨T, 0, none⟩) :: ccs c).toArray.all (·.oneCell') = true) := fun T => all_oneCell_toArray (hcs_one ⟨1, [], c⟩ T)
    have HS2 : Hid (∀ T, (Tryd.prog.info? 69).map (·.size) = some (Value.pointer (some ⟨T, 0, none⟩) :: ccs c).toArray.size) := fun T => by rw [List.size_toArray, List.length_cons, ccs_len]; exact Tryd.size69
    have HSl : Hid (∀ T, (Tryd.prog.info? 69).map (·.size) = some (Value.pointer (some ⟨T, 0, none⟩) :: ccs c).length) := fun T => by rw [List.length_cons, ccs_len]; exact Tryd.size69
    have HV : Hid (∀ (w1 : World) (T : Nat), (w1.alloc (.cells (Value.pointer none :: C24).toArray 69)).there w1.heap.size 0 (Value.pointer (some ⟨T, 0, none⟩) :: ccs c).toArray.size ∧ ((w1.alloc (.cells (Value.pointer none :: C24).toArray 69)).setCells w1.heap.size 0 (Value.pointer (some ⟨T, 0, none⟩) :: ccs c)).rangeAt w1.heap.size 0 (Value.pointer (some ⟨T, 0, none⟩) :: ccs c) ∧ Below w1.heap.size w1 ((w1.alloc (.cells (Value.pointer none :: C24).toArray 69)).setCells w1.heap.size 0 (Value.pointer (some ⟨T, 0, none⟩) :: ccs c))) := fun w1 T => by
      obtain ⟨a, b, c⟩ := res_lay (w := w1) (W := w1.alloc (.cells (Value.pointer none :: C24).toArray 69)) hZ (Below.refl _ _) (Value.pointer (some ⟨T, 0, none⟩) :: ccs c) (by rw [List.length_cons, ccs_len])
      exact ⟨a, b, c⟩
    have HBu : Hid (∀ T w, (Instr.build 71 #[(0, .int .i64 V), (1, .agg (.pointer (some ⟨T, 0, none⟩) :: ccs c).toArray)]).run Tryd.prog w = .ok (.agg (.int .i64 V :: (.pointer (some ⟨T, 0, none⟩) :: ccs c)).toArray) w) := fun T w => build71b V _ c w
    have HN : Hid (∀ (w2 : World) (T : Nat) (v : Value), TabAt w2 T l v → ShAt (w2.alloc (.cells (.int .i64 V :: (.pointer (some ⟨T, 0, none⟩) :: ccs c)).toArray 71)) w2.heap.size ⟨V, l, c⟩ T v) := fun w2 T v ht => by
      have := sh_new (w1 := w2) (s := ⟨V, l, c⟩) (T := T) (v := v) (fun _ => ht) (fun e => by rw [show hasC V = true from HHH.out] at e; cases e)
      rw [hcs] at this
      simp only [HHH.out, if_true] at this
      exact this
    obtain ⟨C, hC⟩ : ∃ C, C24 = C := ⟨_, rfl⟩
    rw [hC] at hz HV
    obtain ⟨K, hK⟩ : ∃ K, ccs c = K := ⟨_, rfl⟩
    have HKl : Hid (K.length = 24) := by show _ = _; rw [← hK]; exact ccs_len c
    rw [hK] at HD3 HA2 HS2 HSl HV HBu HN
    have HB71 : Hid (∀ (T : Nat) (w : World), (Instr.box 71 (.agg (.int .i64 V :: (.pointer (some ⟨T, 0, none⟩) :: K)).toArray)).run Tryd.prog w = .ok (.pointer (some ⟨w.heap.size, 0, none⟩)) (w.alloc (.cells (.int .i64 V :: (.pointer (some ⟨T, 0, none⟩) :: K)).toArray 71))) := fun T w => by
      rw [← hK]
      exact box71 V _ c w
    clear hC HD2 hZ hl hK HA HS
    go_enter Tryd.func9, Tryd.ntmps9
    go_upto_region 12 with (first
      | (go_at_call 24; refine hU.mono ?_; clear hU; rintro e w1 ⟨v, rfl, hown, hb1⟩; obtain ⟨va, vc, rfl⟩ := owns_slice hown; obtain ⟨b, o, rfl, hb0, hcc⟩ := (Sl.of_owns hown).at2 h0; have c0 := hcc 0 _ h0; rw [Nat.add_zero] at c0; have d1 := hcc 1 _ h1; have HD : Hid (b < w1.heap.size ∧ w1.cell? ⟨b, o + 1, none⟩ = some (.string (bs y))) := ⟨hb0, d1⟩; have ht := HT.out _ hb1; clear hown hcc HT d1)
      | (go_at_call 25; refine ht.mono ?_; clear ht; rintro e w2 ⟨rfl, hb2⟩; have hb12 := hb1.trans (hb2.mono hb1.size); have c1 := (hb2.cell (p := ⟨b, o + 1, none⟩) HD.out.1).trans HD.out.2; have hg2 := Nat.lt_of_lt_of_le HD.out.1 hb2.size; clear HD)
      | (go_at_call 26; refine (HW.out _).mono ?_; clear HW; rintro e w3 ⟨rfl, h9⟩; subst w3)
      | (go_at_call 27; refine (HH.out _).mono ?_; clear HH; rintro e w3 ⟨rfl, h9⟩; subst w3)
      | (go_at_call 28; refine (HD3.out _ hb12).mono ?_; clear HD3; rintro e w4 ⟨T, tv, rfl, hTB, hTab, hOwn, hb4⟩; have hv := HV.out w4 T)
      | (refine wpList_store_mid rfl 69 _ _ rfl w4.heap.size 0 (Value.pointer (some ⟨T, 0, none⟩) :: K).toArray rfl rfl hv.1 (HS2.out T) (HA2.out T) ?_))
    have hrg := hv.2.1
    have hTab5 := hTab.on hv.2.2
    have hb5 := (hb12.trans (hb4.mono hb12.size)).trans (hv.2.2.mono (Nat.le_trans hb12.size hb4.size))
    obtain ⟨w5, hw5⟩ : ∃ W, (w4.alloc (.cells (Value.pointer none :: C).toArray 69)).setCells w4.heap.size 0 (Value.pointer (some ⟨T, 0, none⟩) :: K) = W := ⟨_, rfl⟩
    rw [hw5] at hrg hTab5 hb5
    rw [hw5]
    have HSh := HN.out w5 T tv hTab5
    have HSH : Hid (_) := HSh
    have HTB : Hid (w.heap.size ≤ T) := Nat.le_trans hb12.size hTB
    have HB5 : Hid (Below w.heap.size w w5) := hb5
    clear hw5 hv HV HN HSh hTab5 hTab hOwn hb5
    go_upto_region 14 with fail
    go_wp2_with (first
      | (refine wpList_load_mid rfl 69 _ rfl w4.heap.size 0 rfl (Value.pointer (some ⟨T, 0, none⟩) :: K) _ hrg Tryd.underlying69 rfl (HSl.out T) ?_; apply hold_goal))
    unfold Held
    refine wpList_build rfl 71 _ rfl [(0, .int .i64 V), (1, .agg (.pointer (some ⟨T, 0, none⟩) :: K).toArray)] ?hv (.agg (.int .i64 V :: (.pointer (some ⟨T, 0, none⟩) :: K)).toArray) ?hr ?_
    case hv => rfl
    case hr => exact HBu.out T _
    refine wpList_box rfl 71 _ rfl (.agg (.int .i64 V :: (.pointer (some ⟨T, 0, none⟩) :: K)).toArray) ?hv (.pointer (some ⟨w5.heap.size, 0, none⟩)) (w5.alloc (.cells (.int .i64 V :: (.pointer (some ⟨T, 0, none⟩) :: K)).toArray 71)) ?hr ?_
    case hv => rfl
    case hr => exact HB71.out T _
    go_wp2
    exact bodyPost_ret (v := .tuple #[.pointer (some ⟨w5.heap.size, 0, none⟩), .int .i64 0]) (by simp [results, Tryd.f9, go_sem]) rfl ⟨_, _, _, rfl, HSH.out, HB5.out.size, fun _ => HTB.out, HB5.out.alloc HB5.out.size _⟩
theorem sLoad_any (s : List UInt8) (w : World) (hs : s.length ≤ 1000000) (he : Env w) : Calls Tryd.prog 9 #[.string (bs s)] w fun e W' => LdPost w (loadS s) e W' := by
  unfold loadS
  by_cases hg : good s ∧ (texts s).length = 2
  · rw [if_pos hg]
    obtain ⟨x, y, e⟩ := texts_pair hg.2
    rw [e]
    show Calls Tryd.prog 9 #[.string (bs s)] w fun e W' => LdPost w (loadAB x y) e W'
    unfold loadAB
    cases hf : (decide (tnE x = 0) && inR (tnV x) 0 3)
    · rw [if_neg (by simp)]
      exact sLoad_bad2 s w hs he hg.1 e hf
    · rw [if_pos rfl]
      cases hh : hasC (tnV x)
      · rw [if_neg (by simp)]
        exact sLoad_no s w hs he hg.1 e hf hh
      · rw [if_pos rfl]
        exact sLoad_yes s w hs he hg.1 e hf hh
  · rw [if_neg hg]
    exact sLoad_bad1 s w hs he hg
end
end Go.Proofs.YtgmobjdjojffgaaDoor
