/- The slot's Cert, walked. -/
import Derived.Test.YtoehmpcfmpkbnaaSoH
namespace Go.Proofs.Ytoehmpcfmpkbnaa
open Go.RowKit
attribute [local go_sem ↓] Go.wp_at_zero Go.wp_at_succ

/-- The first text of which there are enough votes of the kind Settle. -/
def firstE (V : Vs) (f : Nat) : Nat → Option (List UInt8)
  | 0 => none
  | m + 1 => match firstE V f m with
    | some t => some t
    | none => if enough V f 1 (V 1 m).1 = true then some (V 1 m).1 else none
/-- The certificate: its text, its tags. -/
def certR (V : Vs) (f p : Nat) (kind : Int) : Option (List UInt8 × List Tg) :=
  if kind = 1 then if isV (V 0 p).2 = true ∧ enough V f 0 (V 0 p).1 = true then some ((V 0 p).1, tagsTo V 0 (V 0 p).1 (3 * f + 1)) else none
  else if kind = 2 then (firstE V f (3 * f + 1)).map fun t => (t, tagsTo V 1 t (3 * f + 1)) else none
def cT (r : Option (List UInt8 × List Tg)) : List UInt8 := match r with | some x => x.1 | none => []
def cL (r : Option (List UInt8 × List Tg)) : List Tg := match r with | some x => x.2 | none => []
def cG (r : Option (List UInt8 × List Tg)) (gr : Int) : Int := if r.isSome = true then gr else 0
/-- What Cert answers. -/
def CertRet (gr : Int) (r : Option (List UInt8 × List Tg)) (w : World) (e : Ending) (W' : World) : Prop :=
  (∃ v, e = .returned (.tuple #[.agg #[.string (bs (cT r)), .int .i64 (cG r gr), v], .bool r.isSome]) ∧ W'.ownsRow w.heap.size 70 2 v (cL r).length (tcs (cL r))) ∧ Below w.heap.size w W'
theorem CertRet.none {gr : Int} {w W' : World} (h : Below w.heap.size w W') : CertRet gr none w (.returned (.tuple #[.agg #[.string ⟨#[]⟩, .int .i64 0, .slice none 0 0], .bool false])) W' :=
  ⟨⟨_, rfl, World.ownsRow_nil _ _ _ _⟩, h⟩
theorem CertRet.some {gr : Int} {w W' : World} {t : List UInt8} {L : List Tg} {v : Value} (ho : W'.ownsRow w.heap.size 70 2 v L.length (tcs L)) (h : Below w.heap.size w W') : CertRet gr (some (t, L)) w (.returned (.tuple #[.agg #[.string (bs t), .int .i64 gr, v], .bool true])) W' :=
  ⟨⟨_, rfl, ho⟩, h⟩
theorem certOf_yes {w : World} {B : Nat} {gr : Int} {f p : Nat} {V : Vs} (h : SlotAt w B gr f p V) {k : Nat} (hk : k < 2) (t : List UInt8) (he : enough V f k t = true) : Calls Try.prog 26 #[.pointer (some ⟨B, 0, none⟩), .int .i64 ((k : Int) + 1), .string (bs t)] w fun e W' =>
    (∃ v, e = .returned (.tuple #[.agg #[.string (bs t), .int .i64 gr, v], .bool true]) ∧ W'.ownsRow w.heap.size 70 2 v (tagsTo V k t (3 * f + 1)).length (tcs (tagsTo V k t (3 * f + 1)))) ∧ Below w.heap.size w W' := by
  refine (certOf_any h hk t).mono ?_
  rintro e W' ⟨⟨_, h1⟩ | ⟨h1, _⟩, h2⟩
  · exact ⟨h1, h2⟩
  · rw [he] at h1; cases h1
theorem certOf_no {w : World} {B : Nat} {gr : Int} {f p : Nat} {V : Vs} (h : SlotAt w B gr f p V) {k : Nat} (hk : k < 2) (t : List UInt8) (he : enough V f k t = false) : Calls Try.prog 26 #[.pointer (some ⟨B, 0, none⟩), .int .i64 ((k : Int) + 1), .string (bs t)] w fun e W' =>
    e = .returned (.tuple #[.agg #[.string ⟨#[]⟩, .int .i64 0, .slice none 0 0], .bool false]) ∧ Below w.heap.size w W' := by
  refine (certOf_any h hk t).mono ?_
  rintro e W' ⟨⟨h1, _⟩ | ⟨_, h1⟩, h2⟩
  · rw [he] at h1; cases h1
  · exact ⟨h1, h2⟩
set_option maxHeartbeats 2000000 in
theorem Cert_nil (kind : Int) (w : World) : Calls Try.prog 15 #[.pointer none, .int .i64 kind] w fun e W' => e = .returned (.tuple #[.agg #[.string ⟨#[]⟩, .int .i64 0, .slice none 0 0], .bool false]) ∧ Below w.heap.size w W' := by
  by_cases hk : kind = 1
  · subst hk
    go_enter Try.func15, Try.ntmps15
    go_wp2_with (first | (go_at_call 13; refine (Proposal_nil _).mono ?_; rintro e w1 ⟨rfl, h9⟩; subst h9))
    exact bodyPost_ret (v := .tuple #[.agg #[.string ⟨#[]⟩, .int .i64 0, .slice none 0 0], .bool false]) (by simp [results, Try.f15, go_sem]) rfl ⟨rfl, (Below.refl _ w).alloc (Nat.le_refl _) _⟩
  · have hk1 : (kind == 1) = false := by simp [hk]
    go_enter Try.func15, Try.ntmps15
    go_wp2_with (first | (go_at_call 25; refine (told_nil _ _).mono ?_; rintro e w1 ⟨rfl, h9⟩; subst h9))
    go_loop [32] (fun i => i = .int .i64 0) (fun _ => 0)
    case atStart => rfl
    case round =>
      subst hrel
      go_wp2
      exact bodyPost_ret (v := .tuple #[.agg #[.string ⟨#[]⟩, .int .i64 0, .slice none 0 0], .bool false]) (by simp [results, Try.f15, go_sem]) rfl ⟨rfl, (Below.refl _ w).alloc (Nat.le_refl _) _⟩
set_option maxHeartbeats 2000000 in
theorem Cert_no (B : Nat) {kind : Int} (h : isK kind = false) (w : World) : Calls Try.prog 15 #[.pointer (some ⟨B, 0, none⟩), .int .i64 kind] w fun e W' => e = .returned (.tuple #[.agg #[.string ⟨#[]⟩, .int .i64 0, .slice none 0 0], .bool false]) ∧ Below w.heap.size w W' := by
  have hT := told_no B h
  have hk1 : (kind == 1) = false := by simp [(isK_f h).1]
  clear h
  go_enter Try.func15, Try.ntmps15
  go_wp2_with (first | (go_at_call 25; refine (hT _).mono ?_; rintro e w1 ⟨rfl, h9⟩; subst h9))
  go_loop [32] (fun i => i = .int .i64 0) (fun _ => 0)
  case atStart => rfl
  case round =>
    subst hrel
    go_wp2
    exact bodyPost_ret (v := .tuple #[.agg #[.string ⟨#[]⟩, .int .i64 0, .slice none 0 0], .bool false]) (by simp [results, Try.f15, go_sem]) rfl ⟨rfl, (Below.refl _ w).alloc (Nat.le_refl _) _⟩
set_option maxHeartbeats 2000000 in
theorem Cert_1 {w : World} {B : Nat} {gr : Int} {f p : Nat} {V : Vs} (h : SlotAt w B gr f p V) : Calls Try.prog 15 #[.pointer (some ⟨B, 0, none⟩), .int .i64 1] w (CertRet gr (certR V f p 1) w) := by
  have hba : Below w.heap.size w (w.alloc (.cells #[.string ⟨#[]⟩, .int .i64 0, .slice none 0 0] 49)) := (Below.refl _ w).alloc (Nat.le_refl _) _
  have rR := heap_alloc_new w (.cells #[.string ⟨#[]⟩, .int .i64 0, .slice none 0 0] 49)
  have hP := Proposal_any (h.on hba)
  unfold certR
  rw [if_pos rfl]
  obtain ⟨⟨vt, vg⟩, hV⟩ : ∃ v, V 0 p = v := ⟨_, rfl⟩
  rw [hV] at hP ⊢
  simp only at hP ⊢
  cases hv : isV vg
  · rw [if_neg (by simp)]
    rw [hv] at hP
    have HX : Hid (_ ∧ _) := ⟨hba, rR⟩
    clear h hv hV hba rR
    go_enter Try.func15, Try.ntmps15
    go_wp2_with (first | (go_at_call 13; refine hP.mono ?_; rintro e w1 ⟨rfl, hb1⟩; have r1 := (hb1.block _ (Array.getElem?_eq_some_iff.1 HX.out.2).1).trans HX.out.2; have q0 := cellB r1 0 _ rfl; have q1 := cellB r1 1 _ rfl; have q2 := cellB r1 2 _ rfl; have p0 := frozenB r1 0; have p1 := frozenB r1 1; have p2 := frozenB r1 2))
    have hB := HX.out.1.trans (hb1.mono HX.out.1.size)
    have hr := put3_blk r1 (.string ⟨#[]⟩) (.int .i64 0) (.slice none 0 0)
    have z1 := cellB hr 0 _ rfl
    have z2 := cellB hr 1 _ rfl
    have z3 := cellB hr 2 _ rfl
    unfold put3 at z1 z2 z3
    exact bodyPost_ret (v := .tuple #[.agg #[.string ⟨#[]⟩, .int .i64 0, .slice none 0 0], .bool false]) (by simp [results, Try.f15, go_sem, z1, z2, z3]) rfl (CertRet.none (put3_below hB (Nat.le_refl _) (.string ⟨#[]⟩) (.int .i64 0) (.slice none 0 0)))
  · rw [hv] at hP
    cases he : enough V f 0 vt
    · rw [if_neg (by simp)]
      have HC : Hid (∀ W, Below w.heap.size w W → _) := fun W hW => certOf_no (h.on hW) (k := 0) (by decide) vt he
      have HX : Hid (_ ∧ _) := ⟨hba, rR⟩
      clear h hv hV hba rR he
      go_enter Try.func15, Try.ntmps15
      go_upto_region 5 with (first | (go_at_call 13; refine hP.mono ?_; rintro e w1 ⟨rfl, hb1⟩; have r1 := (hb1.block _ (Array.getElem?_eq_some_iff.1 HX.out.2).1).trans HX.out.2; have hB := HX.out.1.trans (hb1.mono HX.out.1.size)))
      have hC := HC.out _ hB
      clear hP HX HC
      go_wp2_with (first | (go_at_call 26; refine hC.mono ?_; rintro e w2 ⟨rfl, hb2⟩; have r2 := (hb2.block _ (Array.getElem?_eq_some_iff.1 r1).1).trans r1; have q0 := cellB r2 0 _ rfl; have q1 := cellB r2 1 _ rfl; have q2 := cellB r2 2 _ rfl; have p0 := frozenB r2 0; have p1 := frozenB r2 1; have p2 := frozenB r2 2))
      have hr := put3_blk r2 (.string ⟨#[]⟩) (.int .i64 0) (.slice none 0 0)
      have z1 := cellB hr 0 _ rfl
      have z2 := cellB hr 1 _ rfl
      have z3 := cellB hr 2 _ rfl
      unfold put3 at z1 z2 z3
      exact bodyPost_ret (v := .tuple #[.agg #[.string ⟨#[]⟩, .int .i64 0, .slice none 0 0], .bool false]) (by simp [results, Try.f15, go_sem, z1, z2, z3]) rfl (CertRet.none (put3_below (hB.trans (hb2.mono hB.size)) (Nat.le_refl _) (.string ⟨#[]⟩) (.int .i64 0) (.slice none 0 0)))
    · rw [if_pos ⟨rfl, rfl⟩]
      have HC : Hid (∀ W, Below w.heap.size w W → _) := fun W hW => certOf_yes (h.on hW) (k := 0) (by decide) vt he
      obtain ⟨L, hL⟩ : ∃ L, tagsTo V 0 vt (3 * f + 1) = L := ⟨_, rfl⟩
      rw [hL] at HC ⊢
      have HX : Hid (_ ∧ _) := ⟨hba, rR⟩
      clear h hv hV hba rR he hL
      go_enter Try.func15, Try.ntmps15
      go_upto_region 5 with (first | (go_at_call 13; refine hP.mono ?_; rintro e w1 ⟨rfl, hb1⟩; have r1 := (hb1.block _ (Array.getElem?_eq_some_iff.1 HX.out.2).1).trans HX.out.2; have hB := HX.out.1.trans (hb1.mono HX.out.1.size); have hs1 : w.heap.size + 1 ≤ w1.heap.size := by have := hb1.size; simpa using this))
      have hC := HC.out _ hB
      clear hP HX HC
      go_wp2_with (first | (go_at_call 26; refine hC.mono ?_; rintro e w2 ⟨⟨v, rfl, ho⟩, hb2⟩; have r2 := (hb2.block _ (Array.getElem?_eq_some_iff.1 r1).1).trans r1; have q0 := cellB r2 0 _ rfl; have q1 := cellB r2 1 _ rfl; have q2 := cellB r2 2 _ rfl; have p0 := frozenB r2 0; have p1 := frozenB r2 1; have p2 := frozenB r2 2; obtain ⟨ua, uc, hu⟩ := owns_slice ho; subst hu))
      have hr := put3_blk r2 (.string (bs vt)) (.int .i64 gr) (.slice ua L.length uc)
      have z1 := cellB hr 0 _ rfl
      have z2 := cellB hr 1 _ rfl
      have z3 := cellB hr 2 _ rfl
      unfold put3 at z1 z2 z3
      exact bodyPost_ret (v := .tuple #[.agg #[.string (bs vt), .int .i64 gr, .slice ua L.length uc], .bool true]) (by simp [results, Try.f15, go_sem, z1, z2, z3]) rfl (CertRet.some (owns_base (put3_owns ho (by omega) (.string (bs vt)) (.int .i64 gr) (.slice ua L.length uc)) hB.size) (put3_below (hB.trans (hb2.mono hB.size)) (Nat.le_refl _) (.string (bs vt)) (.int .i64 gr) (.slice ua L.length uc)))
end Go.Proofs.Ytoehmpcfmpkbnaa
