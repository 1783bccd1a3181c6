/- Shards: Content and Text of any one; building one, by laws. -/
import Derived.Test.YtgmobjdjojffgaaDoorSeA
import Derived.Test.YtgmobjdjojffgaaDoorSdN
namespace Go.Proofs.YtgmobjdjojffgaaDoor
open Go.RowKit
attribute [local go_sem ↓] Go.wp_at_zero Go.wp_at_succ

theorem wpList_build {P : Program} {ops : Array Oper} {rest : List Oper} {op : Oper} {a : Act} {w : World} {Q : Exit → Act → World → Prop} (hgd : op.guard = none) (t : TypeId) (parts : Array (Nat × Operand)) (ho : op.op = .build t parts)
    (vs : List (Nat × Value)) (hv : parts.toList.map (fun p => (p.1, a.eval p.2)) = vs) (u : Value) (hrun : (Instr.build t vs.toArray).run P w = .ok u w)
    (h : wpList P ops Q rest (a.put op.dst u) w) : wpList P ops Q (op :: rest) a w :=
  wpList_plain hgd fun K hK => by
    have e : parts.map (fun p => (p.1, a.eval p.2)) = vs.toArray := by
      apply Array.ext'
      rw [Array.toList_map, hv]
    unfold Oper.wp execOp
    simp only [ho, e, Sem.run_bind, hrun, Result.andThen_ok, Sem.run_pure]
    exact hK _ _ h
theorem build71a (st : Int) (w : World) : (Instr.build 71 #[(0, .int .i64 st)]).run Tryd.prog w = .ok (.agg (.int .i64 st :: (.pointer none :: ccs fun _ => la0)).toArray) w := by kernel_rfl
theorem build71b (st : Int) (p : Option Addr) (c : Nat → La) (w : World) : (Instr.build 71 #[(0, .int .i64 st), (1, .agg (.pointer p :: ccs c).toArray)]).run Tryd.prog w = .ok (.agg (.int .i64 st :: (.pointer p :: ccs c)).toArray) w := by kernel_rfl
/-- A shard's content. -/
def contS (s : Sh) : List UInt8 := if hasC s.st = true then contT s.l s.c else []
def textS (s : Sh) : List UInt8 := packL [Lib.itoa s.st, contS s]
structure OkS (s : Sh) : Prop where
  c : OkC s.c
  l : Ok s.l
  s0 : 0 ≤ s.st
  s3 : s.st ≤ 3
theorem contS_len {s : Sh} (h : OkS s) : (contS s).length ≤ 7000 := by
  unfold contS
  split
  · exact cont_len h.l h.c
  · simp
set_option maxRecDepth 20000 in
set_option maxHeartbeats 1000000 in
theorem Content_any {w : World} (he : EnvP w) {B : Nat} {s : Sh} {T : Nat} {v : Value} (h : ShAt w B s T v) (hok : OkC s.c) : Calls Tryd.prog 19 #[.pointer (some ⟨B, 0, none⟩)] w fun e W' => e = .returned (.string (bs (contS s))) ∧ Below w.heap.size w W' := by
  cases h0 : hasC s.st with
  | false =>
    rw [contS, h0, if_neg (by simp)]
    refine (Content_no h h0).mono ?_
    rintro e W' ⟨rfl, rfl⟩
    exact ⟨rfl, Below.refl _ _⟩
  | true =>
    rw [contS, h0, if_pos rfl]
    have hS := Status_any h
    have hH := holds_any s.st w
    rw [h0] at hH
    have hT := hText_any he h h0 hok
    clear h h0 he hok
    go_enter Tryd.func19, Tryd.ntmps19
    go_wp2_with (first
      | (go_at_call 21; refine hS.mono ?_; clear hS; rintro e w1 ⟨rfl, h9⟩; subst w1)
      | (go_at_call 27; refine hH.mono ?_; clear hH; rintro e w1 ⟨rfl, h9⟩; subst w1)
      | (go_at_call 38; refine hT.mono ?_; clear hT; rintro e w1 ⟨rfl, hb⟩))
    go_ret
    exact ⟨rfl, hb⟩
theorem sText_any {w : World} (he : EnvP w) {B : Nat} {s : Sh} {T : Nat} {v : Value} (h : ShAt w B s T v) (hok : OkS s) : Calls Tryd.prog 11 #[.pointer (some ⟨B, 0, none⟩)] w fun e W' => e = .returned (.string (bs (textS s))) ∧ Below w.heap.size w W' :=
  sText_of he _ s.st (contS s) hok.s0 hok.s3 (by have := contS_len hok; omega) (fun W hb => Status_any (h.on hb)) (fun W hb => (Content_any (he.next hb) (h.on hb) hok.c).mono fun e W' k => ⟨k.1, hb.trans (k.2.mono hb.size)⟩)
/-- The shard that a status' text and a content say. -/
def loadAB (a b : List UInt8) : Option Sh :=
  if (decide (tnE a = 0) && inR (tnV a) 0 3) = true then
    if hasC (tnV a) = true then (loadC b).map fun x => ⟨tnV a, x.1, x.2⟩
    else if b = [] then some ⟨tnV a, [], fun _ => la0⟩ else none
  else none
/-- The shard that a text says. -/
def loadS (s : List UInt8) : Option Sh := if good s ∧ (texts s).length = 2 then loadAB ((texts s).headD []) (((texts s).drop 1).headD []) else none
theorem texts_pair {s : List UInt8} (h : (texts s).length = 2) : ∃ a b, texts s = [a, b] := by
  match e : texts s, h with
  | [a, b], _ => exact ⟨a, b, rfl⟩
theorem text_loadS {s : List UInt8} {x : Sh} (h : loadS s = some x) : OkS x ∧ textS x = s := by
  unfold loadS at h
  split at h
  · rename_i hc
    obtain ⟨a, b, e⟩ := texts_pair hc.2
    rw [e] at h
    have h : loadAB a b = some x := h
    unfold loadAB at h
    have hp : packL [a, b] = s := by rw [← e]; exact pack_texts hc.1
    split at h
    · rename_i hf
      simp only [Bool.and_eq_true] at hf
      have hi := inR_t hf.2
      have hb := tn_back (of_decide_eq_true hf.1)
      split at h
      · rename_i hh
        cases hl : loadC b with
        | none => rw [hl] at h; cases h
        | some y =>
          rw [hl] at h
          cases h
          obtain ⟨l, c⟩ := y
          obtain ⟨o1, o2, o3⟩ := cont_load hl
          refine ⟨⟨o2, o1, hi.1, hi.2⟩, ?_⟩
          rw [textS, contS, if_pos hh, o3, hb]
          exact hp
      · rename_i hh
        split at h
        · rename_i hb0
          cases h
          refine ⟨⟨OkC.zero, Ok.nil, hi.1, hi.2⟩, ?_⟩
          rw [textS, contS, if_neg hh, hb]
          show packL [a, []] = s
          rw [← hb0]
          exact hp
        · cases h
    · cases h
  · cases h
end Go.Proofs.YtgmobjdjojffgaaDoor
