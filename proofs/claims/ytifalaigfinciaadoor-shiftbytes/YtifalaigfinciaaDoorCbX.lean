import Derived.Test.YtifalaigfinciaaDoorCtJ
import Derived.Test.YtifalaigfinciaaDoorCtI
import Derived.Test.YtifalaigfinciaaDoorNsN
import Derived.Test.YtifalaigfinciaaDoorNsP
import Derived.Test.YtifalaigfinciaaDoorNsR
import Derived.Deep.AppendLies
import Derived.Deep.RegionLaw
import Derived.Deep.LoopGhost
import Derived.Deep.DeepCutAuto
import Derived.Deep.RegionHeld3
namespace Go.Proofs.YtifalaigfinciaaDoor
open Go.RowKit
theorem strs_same (a : List UInt8) : ((bs a).toList == (bs a).toList) = true := by simp
theorem wrap_id8 (x : Int) (h0 : -9223372036854775808 ≤ x) (h1 : x ≤ 9223372036854775807) : IntKind.i64.wrap x = x := by
  simp [IntKind.wrap, IntKind.bits, IntKind.signed]; omega
end Go.Proofs.YtifalaigfinciaaDoor
/- The certificate that bytes are: plain, there and back. -/
namespace Go.Proofs.YtifalaigfinciaaDoor
open Go.RowKit

def tg2 : Option Int → List UInt8 → Option (List Tg) → Option (List Tg)
  | some n, t, some l => some ((n, t) :: l)
  | _, _, _ => none
/-- The tags that texts are, two by two. -/
def tgsL : List (List UInt8) → Option (List Tg)
  | [] => some []
  | [_] => none
  | a :: t :: r => tg2 (toNumL a) t (tgsL r)
def cd3 (x : List UInt8) : Option Int → Option (List Tg) → Option (List UInt8 × Int × List Tg)
  | some g, some l => if faultL g l = 0 then some (x, g, l) else none
  | _, _ => none
def cDecT : List (List UInt8) → Option (List UInt8 × Int × List Tg)
  | x :: a :: r => cd3 x (toNumL a) (tgsL r)
  | _ => none
/-- The certificate that bytes are. -/
def cDecL (s : List UInt8) : Option (List UInt8 × Int × List Tg) := cDecT (texts s)
def cDecV (s : List UInt8) : List UInt8 × Int × List Tg := (cDecL s).getD ([], 0, [])
def cDecE (s : List UInt8) : Int := if (cDecL s).isSome then 0 else 4
theorem tg2_some {o : Option Int} {t : List UInt8} {p : Option (List Tg)} {l : List Tg} (h : tg2 o t p = some l) : ∃ n r, o = some n ∧ p = some r ∧ l = (n, t) :: r := by
  match o, p with
  | some n, some r => exact ⟨n, r, rfl, rfl, (Option.some.inj h).symm⟩
  | none, _ => cases h
  | some _, none => cases h
theorem cd3_some {x : List UInt8} {o : Option Int} {p : Option (List Tg)} {y : List UInt8 × Int × List Tg} (h : cd3 x o p = some y) : ∃ g l, o = some g ∧ p = some l ∧ faultL g l = 0 ∧ y = (x, g, l) := by
  match o, p with
  | some g, some l =>
    simp only [cd3] at h
    split at h
    · rename_i hf; exact ⟨g, l, rfl, rfl, hf, (Option.some.inj h).symm⟩
    · cases h
  | none, _ => cases h
  | some _, none => cases h
theorem tgs_back : ∀ {r : List (List UInt8)} {l : List Tg}, tgsL r = some l → tagL l = r
  | [], l, h => by injection h with h; subst h; rfl
  | [_], l, h => by cases h
  | a :: t :: r, l, h => by
    obtain ⟨n, q, h1, h2, rfl⟩ := tg2_some h
    have ih := tgs_back h2
    show Lib.itoa n :: t :: tagL q = a :: t :: r
    rw [toNum_back h1, ih]
theorem tgs_there : ∀ {l : List Tg}, (∀ t ∈ l, 0 ≤ t.1 ∧ t.1 < 16) → tgsL (tagL l) = some l
  | [], _ => rfl
  | (n, t) :: l, h => by
    have h0 := h (n, t) (by simp)
    simp only at h0
    show tg2 (toNumL (Lib.itoa n)) t (tgsL (tagL l)) = _
    rw [toNum_itoa n (by omega) (by omega), tgs_there (fun u hu => h u (by simp [hu]))]
    rfl
theorem enc_lens {x : List UInt8} {g : Int} {l : List Tg} (h : faultL g l = 0) (hx : x.length ≤ 1000000) : ∀ t ∈ encL x g l, t.length ≤ 1000000000 := by
  obtain ⟨g1, g2, _, hm⟩ := fault_zero h
  have hg := itoa_len2 g (by omega) (by omega)
  intro t ht
  simp only [encL, tagL, List.cons_append, List.nil_append, List.mem_cons, List.mem_flatMap] at ht
  rcases ht with rfl | rfl | ⟨u, hu, ht⟩
  · omega
  · omega
  · have h0 := hm u hu
    have hn := itoa_len2 u.1 (by omega) (by omega)
    simp only [List.not_mem_nil, or_false] at ht
    rcases ht with rfl | rfl <;> omega
theorem cDec_enc {x : List UInt8} {g : Int} {l : List Tg} (h : faultL g l = 0) (hx : x.length ≤ 1000000) : cDecL (encV x g l) = some (x, g, l) := by
  obtain ⟨g1, g2, _, hm⟩ := fault_zero h
  rw [encV, if_pos h, cDecL, texts_pack _ (enc_lens h hx)]
  show cd3 x (toNumL (Lib.itoa g)) (tgsL (tagL l)) = _
  rw [toNum_itoa g (by omega) (by omega), tgs_there (fun t ht => ⟨(hm t ht).1, (hm t ht).2.1⟩)]
  exact if_pos h
theorem cDec_some {s x : List UInt8} {g : Int} {l : List Tg} (h : cDecL s = some (x, g, l)) : faultL g l = 0 ∧ encV x g l = s ∧ texts s = encL x g l := by
  unfold cDecL cDecT at h
  split at h
  · rename_i y a r hT
    obtain ⟨g', l', h1, h2, hf, he⟩ := cd3_some h
    simp only [Prod.mk.injEq] at he
    obtain ⟨rfl, rfl, rfl⟩ := he
    have hs : texts s = encL x g l := by rw [hT, encL, toNum_back h1, tgs_back h2]; rfl
    have hg : good s := by
      by_cases hg : good s
      · exact hg
      · rw [texts, if_neg hg] at hT; cases hT
    exact ⟨hf, by rw [encV, if_pos hf, ← hs, pack_texts hg], hs⟩
  · cases h
theorem cDecT_short {l : List (List UInt8)} (h : l.length < 2) : cDecT l = none := by
  match l with
  | [] => rfl
  | [_] => rfl
  | _ :: _ :: _ => simp only [List.length_cons] at h; omega
theorem tgs_odd : ∀ {r : List (List UInt8)}, r.length % 2 = 1 → tgsL r = none
  | [], h => by simp at h
  | [_], _ => rfl
  | a :: t :: r, h => by
    have ih : tgsL r = none := tgs_odd (by simp only [List.length_cons] at h; omega)
    show tg2 (toNumL a) t (tgsL r) = none
    rw [ih]
    cases toNumL a <;> rfl
theorem cDecT_odd {l : List (List UInt8)} (h : l.length % 2 = 1) : cDecT l = none := by
  match l with
  | [] => rfl
  | [_] => rfl
  | x :: a :: r =>
    have ih : tgsL r = none := tgs_odd (by simp only [List.length_cons] at h; omega)
    show cd3 x (toNumL a) (tgsL r) = none
    rw [ih]
    cases toNumL a <;> rfl
/-- What is told of the rest, and of what was read. -/
def catT (a : List Tg) : Option (List Tg) → Option (List Tg)
  | some l => some (a ++ l)
  | none => none
theorem tgs_step {P : List Tg} {a t : List UInt8} {r : List (List UInt8)} {n : Int} (h : toNumL a = some n) : catT P (tgsL (a :: t :: r)) = catT (P ++ [(n, t)]) (tgsL r) := by
  show catT P (tg2 (toNumL a) t (tgsL r)) = _
  rw [h]
  cases tgsL r with
  | none => rfl
  | some l => simp [tg2, catT]
theorem tgs_stop {P : List Tg} {a t : List UInt8} {r : List (List UInt8)} (h : toNumL a = none) : catT P (tgsL (a :: t :: r)) = none := by
  show catT P (tg2 (toNumL a) t (tgsL r)) = _
  rw [h]; rfl
theorem catT_nil (o : Option (List Tg)) : catT [] o = o := by cases o <;> rfl
end Go.Proofs.YtifalaigfinciaaDoor
/- A certificate's bytes by the plain text. -/
namespace Go.Proofs.YtifalaigfinciaaDoor
open Go.RowKit
attribute [local go_sem ↓] Go.wp_at_zero Go.wp_at_succ
set_option maxRecDepth 20000 in
set_option maxHeartbeats 2000000 in
theorem rEncode4_any (x : List UInt8) (g : Int) (l : List Tg) (v : Value) (w : World) (hx : x.length ≤ 500000) (hll : l.length ≤ 140737488355328) (he : EnvP w) (hv : Tl w v l) :
    Calls Tryd.prog 21 #[.agg #[.string (bs x), .int .i64 g, v]] w fun e W' => e = .returned (.tuple #[.string (bs (encV x g l)), .int .i64 (faultL g l)]) ∧ Below w.heap.size w W' := by
  obtain ⟨va, vc, rfl⟩ := hv.slice
  have hB0 : Below w.heap.size w (w.alloc (.cells #[.string (bs x), .int .i64 g, .slice va l.length vc] 37)) := (Below.refl _ w).alloc (Nat.le_refl _) _
  have hc0 := cells_new w #[.string (bs x), .int .i64 g, .slice va l.length vc] 37
  have c0 : (w.alloc (.cells #[.string (bs x), .int .i64 g, .slice va l.length vc] 37)).cell? ⟨w.heap.size, 0, none⟩ = _ := hc0 0 _ rfl
  have c1 : (w.alloc (.cells #[.string (bs x), .int .i64 g, .slice va l.length vc] 37)).cell? ⟨w.heap.size, 1, none⟩ = _ := hc0 1 _ rfl
  have c2 : (w.alloc (.cells #[.string (bs x), .int .i64 g, .slice va l.length vc] 37)).cell? ⟨w.heap.size, 2, none⟩ = _ := hc0 2 _ rfl
  have hsz0 : w.heap.size < (w.alloc (.cells #[.string (bs x), .int .i64 g, .slice va l.length vc] 37)).heap.size := by simp
  have hvB0 := hv.below hB0 (Nat.le_refl _)
  have he0 := he.next hB0
  have hfa := form_any (bs x) g l _ _ hll hvB0
  by_cases hf : faultL g l = 0
  · have e1 : encV x g l = packL (encL x g l) := if_pos hf
    obtain ⟨ht1, ht2⟩ := enc_tot x g l hx hf
    obtain ⟨g0, g4, hl16, hmem⟩ := fault_zero hf
    rw [hf] at hfa
    rw [e1, hf]
    clear e1 hf hc0
    go_enter Tryd.func21, Tryd.ntmps21
    go_wp2_with fail
    refine hfa.mono ?_
    rintro e w1 ⟨rfl, hb1⟩
    have hB1 := hB0.trans (hb1.mono hB0.size)
    have k0 := (hb1.cell (p := ⟨w.heap.size, 0, none⟩) hsz0).trans c0
    have k1 := (hb1.cell (p := ⟨w.heap.size, 1, none⟩) hsz0).trans c1
    have k2 := (hb1.cell (p := ⟨w.heap.size, 2, none⟩) hsz0).trans c2
    have he1 := he0.next hb1
    have hv1 := hvB0.below hb1 (Nat.le_refl _)
    have hs1 := Nat.lt_of_lt_of_le hsz0 hb1.size
    clear c0 c1 c2 hB0 hvB0 he0 hb1 hsz0 hfa
    have he1d : EnvP w1.drew := ⟨he1.pow, he1.size⟩
    go_wp2_with fail
    go_region_held3 (fun w' => w'.cell? ⟨w.heap.size, 0, none⟩ = some (.string (bs x)) ∧ w'.cell? ⟨w.heap.size, 1, none⟩ = some (.int .i64 g)) (go_keep)
      (first | (go_at_call 22; refine (rNum_any g _ (by omega) (by omega)).mono ?_; rintro e w2 ⟨rfl, hb2⟩; have m0 := (hb2.cell (p := ⟨w.heap.size, 0, none⟩) hs1).trans k0; have m1 := (hb2.cell (p := ⟨w.heap.size, 1, none⟩) hs1).trans k1; have m2 := (hb2.cell (p := ⟨w.heap.size, 2, none⟩) hs1).trans k2))
    all_goals
      have hb2' : Below w1.heap.size w1 w2 := ⟨hb2.os, hb2.tape, hb2.output, hb2.size, hb2.block⟩
      have hsB : Below w1.heap.size w1 (w2.alloc (.cells #[.string (bs x), .string (bs (Lib.itoa g))] 9)) := hb2'.alloc hb2'.size _
      have hown0 := owns_new w2 #[.string (bs x), .string (bs (Lib.itoa g))] 9 1 2 rfl (by decide)
      have he3 := he1.next hsB
      have hv3 := hv1.below hsB (Nat.le_refl _)
      have hB3 := hB1.trans (hsB.mono hB1.size)
      have hs3 : w.heap.size < (w2.alloc (.cells #[.string (bs x), .string (bs (Lib.itoa g))] 9)).heap.size := Nat.lt_of_lt_of_le hs1 hsB.size
      have j2 : (w2.alloc (.cells #[.string (bs x), .string (bs (Lib.itoa g))] 9)).cell? ⟨w.heap.size, 2, none⟩ = some (.slice va l.length vc) := (hsB.cell (p := ⟨w.heap.size, 2, none⟩) hs1).trans k2
      have hBo : w1.heap.size ≤ w2.heap.size := hb2'.size
      have hown1 := owns_below hown0 hBo
      obtain ⟨W3, hW3⟩ : ∃ W, w2.alloc (.cells #[.string (bs x), .string (bs (Lib.itoa g))] 9) = W := ⟨_, rfl⟩
      rw [hW3] at hs3 j2 hown1 hsB he3 hv3 hB3 ⊢
      clear hW3 hown0 hb2 hb2' m0 m1 m2 k0 k1 k2 he1d hv3 he3
      go_wp2_with fail
      obtain ⟨O, hO⟩ : ∃ O, w2.heap.size = O := ⟨_, rfl⟩
      rw [hO] at hown1 ⊢
      have hw1s := hs1
      have h1s := hsB.size
      go_loopw [5, 22] (fun d i wr => ∃ (k : Nat), i = .int .i64 k ∧ k ≤ l.length ∧ wr.ownsRow w1.heap.size 9 1 d (2 + 2 * k) (strs ([x, Lib.itoa g] ++ tagL (l.take k))) ∧ Below w1.heap.size w1 wr)
        (fun _ i _ => l.length - (intOf i).toNat)
      case atStart => exact ⟨0, rfl, Nat.zero_le _, by simpa [strs, tagL] using hown1, hsB⟩
      case round =>
        obtain ⟨k, rfl, hk, hown, hB⟩ := hrel
        obtain ⟨sa, sc, rfl⟩ := owns_slice hown
        by_cases hk1 : k = l.length
        · subst hk1
          rw [List.take_length] at hown
          have hel : (encL x g l).length = 2 + 2 * l.length := by rw [encL, List.length_append, tagL_len]; rfl
          have hSl : Sl wr (.slice sa (2 + 2 * l.length) sc) (encL x g l) := Sl.of_owns (by rw [hel]; exact hown)
          have hBw := hB1.trans (hB.mono hB1.size)
          go_wp2_with fail
          refine (rPack_any (encL x g l) _ wr ht1 (by omega) hSl).mono ?_
          rintro e w5 ⟨rfl, hb5⟩
          go_wp2
          go_ret2
          exact ⟨rfl, hBw.trans (hb5.mono hBw.size)⟩
        · have hk2 : k < l.length := by omega
          obtain ⟨b, o, rfl, hlt⟩ := hv1.some (by omega)
          obtain ⟨t, ht⟩ : ∃ t, l[k]? = some t := ⟨_, List.getElem?_eq_getElem hk2⟩
          have hvB := hv1.below hB (Nat.le_refl _)
          obtain ⟨hc1, hc2⟩ := hvB.cells ht
          have htk := tagL_take l k t ht
          have htm := hmem t (List.mem_of_getElem? ht)
          obtain ⟨n, s⟩ := t
          obtain ⟨n0, n1, n2⟩ := htm
          simp only at hc1 hc2 n0 n1 n2
          have hst : strs ([x, Lib.itoa g] ++ tagL (l.take (k + 1))) = strs ([x, Lib.itoa g] ++ tagL (l.take k)) ++ [.string (bs (Lib.itoa n)), .string (bs s)] := by rw [htk]; simp [strs]
          have HST : Hid (strs ([x, Lib.itoa g] ++ tagL (l.take (k + 1))) = strs ([x, Lib.itoa g] ++ tagL (l.take k)) ++ [.string (bs (Lib.itoa n)), .string (bs s)]) := hst
          obtain ⟨X, hX⟩ : ∃ X, strs ([x, Lib.itoa g] ++ tagL (l.take k)) = X := ⟨_, rfl⟩
          rw [hX] at hown HST
          have hrs := hB.size
          have hB4 := hB.alloc hB.size (.cells #[.int .i64 n, .string (bs s)] 104)
          have hown4 := hown.alloc (.cells #[.int .i64 n, .string (bs s)] 104)
          have he4 := he1.next hB4
          have he4d : EnvP (wr.alloc (.cells #[.int .i64 n, .string (bs s)] 104)).drew := ⟨he4.pow, he4.size⟩
          have hc4 := cells_new wr #[.int .i64 n, .string (bs s)] 104
          have d0 : (wr.alloc (.cells #[.int .i64 n, .string (bs s)] 104)).cell? ⟨wr.heap.size, 0, none⟩ = some (.int .i64 n) := hc4 0 _ rfl
          have d1 : (wr.alloc (.cells #[.int .i64 n, .string (bs s)] 104)).cell? ⟨wr.heap.size, 1, none⟩ = some (.string (bs s)) := hc4 1 _ rfl
          have hs4 : wr.heap.size < (wr.alloc (.cells #[.int .i64 n, .string (bs s)] 104)).drew.heap.size := by show _ < (wr.alloc _).heap.size; simp
          obtain ⟨i0, hi, hz0, hz1, hz2⟩ := info_parts Tryd.info9
          have hml : 2 + 2 * k + 2 ≤ maxLen := by unfold maxLen; omega
          have hne : some wr.heap.size ≠ (Value.slice sa (2 + 2 * k) sc).ownBlock := fun h => absurd (hown.lt _ h.symm).2 (Nat.lt_irrefl _)
          clear ht htk hst hX hvB hc4
          go_wp2_with fail
          go_region_held3 (fun w' => w'.cell? ⟨wr.heap.size, 0, none⟩ = some (.int .i64 n) ∧ w'.cell? ⟨wr.heap.size, 1, none⟩ = some (.string (bs s))) (go_keep)
            (first
              | (go_at_call 22; refine (rNum_any n _ (by omega) (by omega)).mono ?_; rintro e w4 ⟨rfl, hb4⟩; have m0 := (hb4.cell (p := ⟨wr.heap.size, 0, none⟩) hs4).trans d0; have m1 := (hb4.cell (p := ⟨wr.heap.size, 1, none⟩) hs4).trans d1; have hown5 := own_kept (show (wr.alloc (.cells #[.int .i64 n, .string (bs s)] 104)).drew.ownsRow _ _ _ _ _ _ from hown4) hb4; have hown6 := hown5.alloc (.cells #[.string (bs (Lib.itoa n)), .string (bs s)] 9); have hB5 : Below w1.heap.size w1 w4 := hB4.trans (Below.mono ⟨hb4.os, hb4.tape, hb4.output, hb4.size, hb4.block⟩ hB4.size); have hB6 := hB5.alloc hB5.size (.cells #[.string (bs (Lib.itoa n)), .string (bs s)] 9); have hb6s := hB6.size; have hs5 : wr.heap.size < w4.heap.size := Nat.lt_of_lt_of_le hs4 hb4.size; have hB7 := (Below.refl w4.heap.size w4).alloc (Nat.le_refl _) (.cells #[.string (bs (Lib.itoa n)), .string (bs s)] 9); have q0 := (hB7.cell (p := ⟨wr.heap.size, 0, none⟩) hs5).trans m0; have q1 := (hB7.cell (p := ⟨wr.heap.size, 1, none⟩) hs5).trans m1; have hs6 : wr.heap.size < (w4.alloc (.cells #[.string (bs (Lib.itoa n)), .string (bs s)] 9)).heap.size := Nat.lt_of_lt_of_le hs5 hB7.size)
              | (refine step_append_lies _ (by rfl) _ _ 64 (by rfl) w1.heap.size 9 i0 (.string ⟨#[]⟩) 1 16 Tryd.underlying64 hi hz0 hz1 hz2 rfl (by decide) _ (2 + 2 * k) X (by rfl) hown6 ⟨w4.heap.size, 0, none⟩ 2 2 [.string (bs (Lib.itoa n)), .string (bs s)] (by rfl) rfl (cells_new w4 #[.string (bs (Lib.itoa n)), .string (bs s)] 9) (by simp [Value.oneCell']) (by decide) hml (by omega) hb6s _ rfl ?_; intro ga ca w6 hown7 hgrow hat hlt6; have r0 := (hgrow.cell_far ⟨wr.heap.size, 0, none⟩ hs6 hne).trans q0; have r1 := (hgrow.cell_far ⟨wr.heap.size, 1, none⟩ hs6 hne).trans q1))
          all_goals
            have hB8 := hB6.grown hgrow hb6s (fun q hq => (hown.lt q hq).1)
            go_wp2
            go_roundw
            case rel => exact ⟨k + 1, by go_num, hk2, by rw [HST.out, show 2 + 2 * (k + 1) = 2 + 2 * k + 2 from by omega]; exact hown7, hB8⟩
            case measure => simp [intOf]; omega
  · have e1 : encV x g l = [] := if_neg hf
    have hq : (faultL g l != 0) = true := by simpa using hf
    rw [e1]
    obtain ⟨E, hE⟩ : ∃ E, faultL g l = E := ⟨_, rfl⟩
    rw [hE] at hq hfa ⊢
    clear hE hf e1 hc0
    go_enter Tryd.func21, Tryd.ntmps21
    go_wp2_with fail
    refine hfa.mono ?_
    rintro e w1 ⟨rfl, hb1⟩
    have hB1 := hB0.trans (hb1.mono hB0.size)
    go_wp2
    go_ret2
    exact ⟨rfl, hB1⟩
end Go.Proofs.YtifalaigfinciaaDoor
/- The certificate that bytes are, walked: the program's Decode. -/
namespace Go.Proofs.YtifalaigfinciaaDoor
open Go.RowKit
attribute [local go_sem ↓] Go.wp_at_zero Go.wp_at_succ

theorem cell_other2 {w : World} {B : Nat} {p : Addr} (h : p.block ≠ B) (j : Nat) (u : Value) : (w.setCell ⟨B, j, none⟩ u).cell? p = w.cell? p := World.cell?_of_block (w := w) (Below.heap_setCell _ _ _ _ h)
theorem Tp.setB {w : World} {v : Value} {l : List Tg} (h : Tp w v l) {B : Nat} (hB : ∀ k, v.ownBlock = some k → l ≠ [] → k ≠ B) (j : Nat) (u : Value) : Tp (w.setCell ⟨B, j, none⟩ u) v l := by
  rcases h with h | h | ⟨b, o, cap, rfl, hc, hlt, h⟩
  · exact .inl h
  · exact .inr (.inl h)
  · refine .inr <| .inr ⟨b, o, cap, rfl, hc, by simpa [World.setCell] using hlt, fun i t ht => ?_⟩
    have hne : b ≠ B := hB b rfl (by rintro rfl; cases ht)
    exact ⟨(cell_other2 (p := ⟨b, o + i * 2, none⟩) hne j u).trans (h i t ht).1, (cell_other2 (p := ⟨b, o + i * 2 + 1, none⟩) hne j u).trans (h i t ht).2⟩
theorem drop2 {r : List (List UInt8)} {k : Nat} (h : 2 * k + 1 < r.length) : ∃ a t, r[2 * k]? = some a ∧ r[2 * k + 1]? = some t ∧ r.drop (2 * k) = a :: t :: r.drop (2 * (k + 1)) := by
  refine ⟨r[2 * k], r[2 * k + 1], List.getElem?_eq_getElem _, List.getElem?_eq_getElem _, ?_⟩
  rw [show 2 * (k + 1) = 2 * k + 1 + 1 by omega, List.drop_eq_getElem_cons (by omega), List.drop_eq_getElem_cons (by omega)]
/-- What is asked first of the list that bytes are. -/
theorem cDec_first (s : List UInt8) : (cDecV s = ([], 0, []) ∧ cDecE s = 4 ∧ (errOf s = 4 ∨ errOf s = 0 ∧ ((texts s).length < 2 ∨ 2 ≤ (texts s).length ∧ (texts s).length % 2 = 1))) ∨
    (∃ x a r m, texts s = x :: a :: r ∧ errOf s = 0 ∧ r.length = 2 * m ∧ cDecL s = cd3 x (toNumL a) (tgsL r)) := by
  by_cases h2 : (texts s).length < 2
  · have hn : cDecL s = none := cDecT_short h2
    refine .inl ⟨by rw [cDecV, hn]; rfl, by rw [cDecE, hn]; rfl, ?_⟩
    rcases err_cases s with h | ⟨h, _⟩
    · exact .inr ⟨h, .inl h2⟩
    · exact .inl h
  · have h0 : errOf s = 0 := by
      rcases err_cases s with h | ⟨_, h⟩
      · exact h
      · rw [h] at h2; simp at h2
    by_cases ho : (texts s).length % 2 = 1
    · have hn : cDecL s = none := cDecT_odd ho
      exact .inl ⟨by rw [cDecV, hn]; rfl, by rw [cDecE, hn]; rfl, .inr ⟨h0, .inr ⟨by omega, ho⟩⟩⟩
    · match hT : texts s with
      | [] => rw [hT] at h2; simp at h2
      | [_] => rw [hT] at h2; simp at h2
      | x :: a :: r =>
        rw [hT] at ho
        simp only [List.length_cons] at ho
        exact .inr ⟨x, a, r, r.length / 2, rfl, h0, by omega, by rw [cDecL, hT]; rfl⟩
theorem cd3_none1 (x : List UInt8) (p : Option (List Tg)) : cd3 x none p = none := rfl
theorem cd3_none2 (x : List UInt8) (o : Option Int) : cd3 x o none = none := by cases o <;> rfl

set_option maxRecDepth 20000 in
set_option maxHeartbeats 4000000 in
theorem cDecode_any (s : List UInt8) (w : World) (hs : s.length ≤ 1000000) (he : Env w) :
    Calls Tryd.prog 42 #[.string (bs s)] w fun e W' => ∃ u, e = .returned (.tuple #[.agg #[.string (bs (cDecV s).1), .int .i64 (cDecV s).2.1, u], .int .i64 (cDecE s)]) ∧ Tp W' u (cDecV s).2.2 ∧ Fr w.heap.size u ∧ Below w.heap.size w W' := by
  have hb0 : Below w.heap.size w (w.alloc (.cells #[.string ⟨#[]⟩, .int .i64 0, .slice none 0 0] 24)) := (Below.refl _ w).alloc (Nat.le_refl _) _
  have r0 : (w.alloc (.cells #[.string ⟨#[]⟩, .int .i64 0, .slice none 0 0] 24)).heap[w.heap.size]? = some (.cells #[.string ⟨#[]⟩, .int .i64 0, .slice none 0 0] 24) := heap_alloc_new _ _
  have hlp : w.heap.size < (w.alloc (.cells #[.string ⟨#[]⟩, .int .i64 0, .slice none 0 0] 24)).heap.size := by simp
  have hU := Unpack_any s (w.alloc (.cells #[.string ⟨#[]⟩, .int .i64 0, .slice none 0 0] 24)) hs (he.next hb0)
  have fin : ∀ W, W.heap[w.heap.size]? = some (.cells #[.string ⟨#[]⟩, .int .i64 0, .slice none 0 0] 24) → Below w.heap.size w W → ∀ (X : ByteArray) (G : Int) (U : Value), (((W.setCell ⟨w.heap.size, 0, none⟩ (.string X)).setCell ⟨w.heap.size, 1, none⟩ (.int .i64 G)).setCell ⟨w.heap.size, 2, none⟩ U).cell? ⟨w.heap.size, 0, none⟩ = some (.string X) ∧ (((W.setCell ⟨w.heap.size, 0, none⟩ (.string X)).setCell ⟨w.heap.size, 1, none⟩ (.int .i64 G)).setCell ⟨w.heap.size, 2, none⟩ U).cell? ⟨w.heap.size, 1, none⟩ = some (.int .i64 G) ∧ (((W.setCell ⟨w.heap.size, 0, none⟩ (.string X)).setCell ⟨w.heap.size, 1, none⟩ (.int .i64 G)).setCell ⟨w.heap.size, 2, none⟩ U).cell? ⟨w.heap.size, 2, none⟩ = some U ∧ Below w.heap.size w (((W.setCell ⟨w.heap.size, 0, none⟩ (.string X)).setCell ⟨w.heap.size, 1, none⟩ (.int .i64 G)).setCell ⟨w.heap.size, 2, none⟩ U) := by
    intro W h1 h2 X G U
    have hr := set3 h1 (.string X) (.int .i64 G) U
    exact ⟨cell_block hr 0 _ rfl, cell_block hr 1 _ rfl, cell_block hr 2 _ rfl, ((h2.setCell (p := ⟨w.heap.size, 0, none⟩) (Nat.le_refl _) _).setCell (p := ⟨w.heap.size, 1, none⟩) (Nat.le_refl _) _).setCell (p := ⟨w.heap.size, 2, none⟩) (Nat.le_refl _) _⟩
  rcases cDec_first s with ⟨hV, hE, hcase⟩ | ⟨x, a, r, m, hT, h0, hrm, hD⟩
  · rw [hV, hE]
    obtain ⟨ES, hES⟩ : ∃ x, errOf s = x := ⟨_, rfl⟩
    obtain ⟨L, hL⟩ : ∃ L, texts s = L := ⟨_, rfl⟩
    rw [hES, hL] at hU hcase
    clear hES hL hV hE
    go_enter Tryd.func42, Tryd.ntmps42
    go_wp2_with fail
    refine hU.mono ?_
    clear hU
    rintro e w1 ⟨v, rfl, hv, hb1⟩
    obtain ⟨va, vc, rfl⟩ := (Sl.of_owns hv).slice
    have hB1 := hb0.trans (hb1.mono hb0.size)
    have r1 := (hb1.block w.heap.size hlp).trans r0
    have f0 := frozen_block r1 0
    have f1 := frozen_block r1 1
    have f2 := frozen_block r1 2
    have s0 := cell_block r1 0 _ rfl
    have s1 := cell_block r1 1 _ rfl
    have s2 := cell_block r1 2 _ rfl
    obtain ⟨z0, z1, z2, hBz⟩ := fin w1 r1 hB1 ⟨#[]⟩ 0 (.slice none 0 0)
    clear fin hv hb1 r0 hb0 r1
    have hcase2 : ES = 4 ∨ ES = 0 ∧ decide ((L.length : Int) < 2) = true ∨ ES = 0 ∧ decide ((L.length : Int) < 2) = false ∧ (((L.length : Int) % 2) != 0) = true := by
      rcases hcase with h | ⟨h, h2 | ⟨h2, h3⟩⟩
      · exact .inl h
      · exact .inr (.inl ⟨h, by simp; omega⟩)
      · exact .inr (.inr ⟨h, by simp; omega, by simp; omega⟩)
    clear hcase
    rcases hcase2 with rfl | ⟨rfl, hq⟩ | ⟨rfl, hq, hq2⟩
    all_goals
      go_wp2
      exact bodyPost_ret (v := .tuple #[.agg #[.string ⟨#[]⟩, .int .i64 0, .slice none 0 0], .int .i64 4]) (by simp [results, Tryd.f42, go_sem, z0, z1, z2]) rfl ⟨_, rfl, Tp.nil _, Fr.nil _, hBz⟩
  · have hla := texts_mem (s := s) (t := a) (by rw [hT]; simp)
    have hlt : ∀ t ∈ r, t.length ≤ 1000000 := fun t ht => Nat.le_trans (texts_mem (s := s) (by rw [hT]; simp [ht])) hs
    have hcnt : (texts s).length ≤ 1000000 := by
      refine Nat.le_trans ?_ hs
      unfold texts
      split
      · rw [List.length_map]; exact items_count
      · exact Nat.zero_le _
    rw [hT] at hcnt
    rw [h0, hT] at hU
    obtain ⟨DX, hDX⟩ : ∃ y, (cDecV s).1 = y := ⟨_, rfl⟩
    obtain ⟨DG, hDG⟩ : ∃ y, (cDecV s).2.1 = y := ⟨_, rfl⟩
    obtain ⟨DL, hDL⟩ : ∃ y, (cDecV s).2.2 = y := ⟨_, rfl⟩
    obtain ⟨DE, hDE⟩ : ∃ y, cDecE s = y := ⟨_, rfl⟩
    have HN : Hid (cd3 x (toNumL a) (tgsL r) = none → DX = [] ∧ DG = 0 ∧ DL = [] ∧ DE = 4) := by
      intro h
      rw [← hDX, ← hDG, ← hDL, ← hDE, cDecV, cDecE, hD, h]
      exact ⟨rfl, rfl, rfl, rfl⟩
    have HY : Hid (∀ g l, cd3 x (toNumL a) (tgsL r) = some (x, g, l) → DX = x ∧ DG = g ∧ DL = l ∧ DE = 0) := by
      intro g l h
      rw [← hDX, ← hDG, ← hDL, ← hDE, cDecV, cDecE, hD, h]
      exact ⟨rfl, rfl, rfl, rfl⟩
    rw [hDX, hDG, hDL, hDE]
    clear hDX hDG hDL hDE hD h0 hT
    have hLm : (x :: a :: r).length = 2 + 2 * m := by simp only [List.length_cons]; omega
    have hSl : ∀ (W : World) (v : Value), W.ownsRow (w.alloc (.cells #[.string ⟨#[]⟩, .int .i64 0, .slice none 0 0] 24)).heap.size 9 1 v (x :: a :: r).length (strs (x :: a :: r)) → ∃ vb vo vc, v = .slice (some ⟨vb, vo, none⟩) (2 + 2 * m) vc ∧ vb < W.heap.size ∧ ∀ (i : Nat) t, (x :: a :: r)[i]? = some t → W.cell? ⟨vb, vo + i, none⟩ = some (.string (bs t)) := by
      intro W v h
      rcases Sl.of_owns h with ⟨h, _⟩ | ⟨vb, vo, vc, h1, h2, h3⟩
      · cases h
      · exact ⟨vb, vo, vc, by rw [← hLm]; exact h1, h2, h3⟩
    have hTa := fun W (h : Env W) => ToNum_any (bs a) W (by rw [bs_size]; omega) h
    rw [bs_list] at hTa
    have hcA : (toNumL a = none ∧ tnE a = 4) ∨ ∃ g, toNumL a = some g ∧ tnE a = 0 ∧ tnV a = g := by
      rcases h : toNumL a with _ | g
      · exact .inl ⟨rfl, (tnV_none h).2⟩
      · exact .inr ⟨g, rfl, (tnV_some h).2, (tnV_some h).1⟩
    obtain ⟨A, hA⟩ : ∃ y, tnV a = y := ⟨_, rfl⟩
    obtain ⟨EA, hEA⟩ : ∃ y, tnE a = y := ⟨_, rfl⟩
    rw [hA, hEA] at hTa hcA
    clear hA hEA
    obtain ⟨M, hM⟩ : ∃ M, 2 + 2 * m = M := ⟨_, rfl⟩
    have HM : Hid (2 + 2 * m = M) := hM
    have hM6 : M ≤ 1000000 := by omega
    have hM2 : 2 ≤ M := by omega
    have hM3 : (1 : Int) < (M : Int) := by omega
    have hM4 : (0 : Int) < (M : Int) := by omega
    have q1 : decide ((M : Int) < 2) = false := by simp; omega
    have q2 : (((M : Int) % 2) != 0) = false := by simp; omega
    rw [hM] at hSl
    clear hM hLm
    have HC : Hid ((toNumL a = none ∧ EA = 4) ∨ ∃ g, toNumL a = some g ∧ EA = 0 ∧ A = g) := hcA
    clear hcA
    have HRM : Hid (r.length = 2 * m) := hrm
    clear hrm
    go_enter Tryd.func42, Tryd.ntmps42
    go_wp2_with fail
    refine hU.mono ?_
    clear hU
    rintro e w1 ⟨v, rfl, hv, hb1⟩
    obtain ⟨vb, vo, vc, rfl, hvl, hvc⟩ := hSl w1 v hv
    have c0 := hvc 0 x rfl
    have c1 := hvc 1 a rfl
    rw [Nat.add_zero] at c0
    have HV : Hid (∀ (i : Nat) t, (x :: a :: r)[i]? = some t → w1.cell? ⟨vb, vo + i, none⟩ = some (.string (bs t))) := hvc
    have hB1 := hb0.trans (hb1.mono hb0.size)
    have r1 := (hb1.block w.heap.size hlp).trans r0
    have hl1 : w.heap.size < w1.heap.size := (Array.getElem?_eq_some_iff.1 r1).1
    have he1 := he.next hB1
    clear hv hvc hb1 r0 hb0 hlp hSl
    go_wp2_with fail
    refine (hTa w1 he1).mono ?_
    clear hTa
    rintro e w2 ⟨rfl, hb2⟩
    have hB2 := hB1.trans (hb2.mono hB1.size)
    have r2 := (hb2.block w.heap.size hl1).trans r1
    have hl2 : w.heap.size < w2.heap.size := (Array.getElem?_eq_some_iff.1 r2).1
    have d0 := (hb2.cell (p := ⟨vb, vo, none⟩) hvl).trans c0
    have hvl2 : vb < w2.heap.size := Nat.lt_of_lt_of_le hvl hb2.size
    have HV2 : Hid (∀ (i : Nat) t, (x :: a :: r)[i]? = some t → w2.cell? ⟨vb, vo + i, none⟩ = some (.string (bs t))) := fun i t h => (hb2.cell (p := ⟨vb, vo + i, none⟩) hvl).trans (HV.out i t h)
    clear HV c0 c1 r1 hl1 hvl
    rcases HC.out with ⟨hno, rfl⟩ | ⟨g, hyes, rfl, rfl⟩
    · have HZ : Hid (DX = [] ∧ DG = 0 ∧ DL = [] ∧ DE = 4) := HN.out (by rw [hno]; rfl)
      have f0 := frozen_block r2 0
      have f1 := frozen_block r2 1
      have f2 := frozen_block r2 2
      have s0 := cell_block r2 0 _ rfl
      have s1 := cell_block r2 1 _ rfl
      have s2 := cell_block r2 2 _ rfl
      obtain ⟨z0, z1, z2, hBz⟩ := fin w2 r2 hB2 ⟨#[]⟩ 0 (.slice none 0 0)
      clear fin r2 hno HC HN HY
      go_wp2
      obtain ⟨rfl, rfl, rfl, rfl⟩ := HZ.out
      exact bodyPost_ret (v := .tuple #[.agg #[.string ⟨#[]⟩, .int .i64 0, .slice none 0 0], .int .i64 4]) (by simp [results, Tryd.f42, go_sem, z0, z1, z2]) rfl ⟨_, rfl, Tp.nil _, Fr.nil _, hBz⟩
    · have HG : Hid (toNumL a = some A) := hyes
      clear hyes HC
      go_wp2
      have hb3 : Below w2.heap.size w2 (w2.alloc (.cells #[.string (bs x), .int .i64 A, .slice none 0 0] 24)) := (Below.refl _ _).alloc (Nat.le_refl _) _
      have rc : (w2.alloc (.cells #[.string (bs x), .int .i64 A, .slice none 0 0] 24)).heap[w2.heap.size]? = some (.cells #[.string (bs x), .int .i64 A, .slice none 0 0] 24) := heap_alloc_new _ _
      have hz3 : w2.heap.size + 1 ≤ (w2.alloc (.cells #[.string (bs x), .int .i64 A, .slice none 0 0] 24)).heap.size := by simp
      obtain ⟨W3, hW3⟩ : ∃ W, w2.alloc (.cells #[.string (bs x), .int .i64 A, .slice none 0 0] 24) = W := ⟨_, rfl⟩
      rw [hW3] at hb3 rc hz3 ⊢
      clear hW3 d0 q1 q2
      go_loopg [8] m (fun gk i wr => ∃ k q : Nat, Hid (q = 2 + 2 * k) ∧ i = .int .i64 q ∧ k + gk = m ∧ ∃ u P, Hid (P.length = k) ∧ Hid (catT P (tgsL (r.drop (2 * k))) = tgsL r) ∧ wr.heap[w2.heap.size]? = some (.cells #[.string (bs x), .int .i64 A, u] 24) ∧ wr.ownsRow (w2.heap.size + 1) 105 2 u k (tcs P) ∧ Below w2.heap.size w2 wr ∧ w2.heap.size + 1 ≤ wr.heap.size)
      case atStart => exact ⟨0, 2, rfl, rfl, Nat.zero_add _, .slice none 0 0, [], rfl, (by show catT [] (tgsL r) = tgsL r; exact catT_nil _), rc, World.ownsRow_nil _ _ _ _, hb3, hz3⟩
      case round =>
        obtain ⟨k, q, HQ, rfl, hgk, u, P, HP, HR, rc4, hown, hB4, hz4⟩ := hrel
        clear rc hb3 hz3
        obtain ⟨ua, uc, rfl⟩ := owns_slice hown
        have r4 := (hB4.block w.heap.size hl2).trans r2
        have hB4w := hB2.trans (hB4.mono hB2.size)
        have he4 := he.next hB4w
        have hzr : w.heap.size < wr.heap.size := (Array.getElem?_eq_some_iff.1 r4).1
        by_cases hkm : k = m
        · subst hkm
          have hqM : q = M := by have := HQ.out; have := HM.out; omega
          have HTP : Hid (tgsL r = some P) := by
            show tgsL r = some P
            rw [← HR.out, ← HRM.out, List.drop_length]
            show some (P ++ []) = some P
            rw [List.append_nil]
          subst hqM
          have hTp : Tp wr (.slice ua P.length uc) P := by rw [HP.out]; exact Tp.of_owns (e := 105) (by rw [HP.out]; exact hown)
          have hPk : P.length = k := HP.out
          have hF := fault_any (bs x) A P _ wr (by have h1 := HP.out; have h2 := HM.out; omega) hTp.tl
          rw [hPk] at hF hTp
          have x0 := cell_block rc4 0 _ rfl
          have x1 := cell_block rc4 1 _ rfl
          have x2 := cell_block rc4 2 _ rfl
          clear HR HQ HV2 hPk
          go_wp2_with fail
          refine hF.mono ?_
          clear hF
          rintro e w5 ⟨rfl, hb5⟩
          have r5 := (hb5.block w.heap.size hzr).trans r4
          have rc5 := (hb5.block w2.heap.size (by omega)).trans rc4
          have hB5 := hB4w.trans (hb5.mono hB4w.size)
          have hT5 := hTp.below hb5 (Nat.le_refl _)
          have y0 := cell_block rc5 0 _ rfl
          have y1 := cell_block rc5 1 _ rfl
          have y2 := cell_block rc5 2 _ rfl
          have f0 := frozen_block r5 0
          have f1 := frozen_block r5 1
          have f2 := frozen_block r5 2
          have s0 := cell_block r5 0 _ rfl
          have s1 := cell_block r5 1 _ rfl
          have s2 := cell_block r5 2 _ rfl
          by_cases hf0 : faultL A P = 0
          · have HZ : Hid (DX = x ∧ DG = A ∧ DL = P ∧ DE = 0) := HY.out A P (by rw [HG.out, HTP.out]; exact if_pos hf0)
            obtain ⟨z0, z1, z2, hBz⟩ := fin w5 r5 hB5 (bs x) A (.slice ua k uc)
            have hTz : Tp (((w5.setCell ⟨w.heap.size, 0, none⟩ (.string (bs x))).setCell ⟨w.heap.size, 1, none⟩ (.int .i64 A)).setCell ⟨w.heap.size, 2, none⟩ (.slice ua k uc)) (.slice ua k uc) P := by
              have hne : ∀ j, (Value.slice ua k uc).ownBlock = some j → P ≠ [] → j ≠ w.heap.size := fun j hj _ => by have := (hown.lt j hj).1; omega
              exact ((hT5.setB hne 0 _).setB hne 1 _).setB hne 2 _
            have hFr : Fr w.heap.size (.slice ua k uc) := fun j hj => by have := (hown.lt j hj).1; omega
            rw [hf0]
            clear hf0 fin HN HY HG HTP
            go_wp2
            obtain ⟨rfl, rfl, rfl, rfl⟩ := HZ.out
            exact bodyPost_ret (v := .tuple #[.agg #[.string (bs DX), .int .i64 DG, .slice ua k uc], .int .i64 0]) (by simp [results, Tryd.f42, go_sem, z0, z1, z2]) rfl ⟨_, rfl, hTz, hFr, hBz⟩
          · have HZ : Hid (DX = [] ∧ DG = 0 ∧ DL = [] ∧ DE = 4) := HN.out (by rw [HG.out, HTP.out]; exact if_neg hf0)
            have hq : (faultL A P != 0) = true := by simpa using hf0
            obtain ⟨F, hF⟩ : ∃ F, faultL A P = F := ⟨_, rfl⟩
            rw [hF] at hq ⊢
            obtain ⟨z0, z1, z2, hBz⟩ := fin w5 r5 hB5 ⟨#[]⟩ 0 (.slice none 0 0)
            clear hf0 fin HN HY HG HTP hF
            go_wp2
            obtain ⟨rfl, rfl, rfl, rfl⟩ := HZ.out
            exact bodyPost_ret (v := .tuple #[.agg #[.string ⟨#[]⟩, .int .i64 0, .slice none 0 0], .int .i64 4]) (by simp [results, Tryd.f42, go_sem, z0, z1, z2]) rfl ⟨_, rfl, Tp.nil _, Fr.nil _, hBz⟩
        · have hkl : k < m := by omega
          have hql : (q : Int) < (M : Int) := by have := HQ.out; have := HM.out; omega
          have hql1 : (q : Int) + 1 < (M : Int) := by have := HQ.out; have := HM.out; omega
          have hq0 : (0 : Int) ≤ (q : Int) := by omega
          have hq6 : (q : Int) ≤ 1000000 := by omega
          have hq7 : q ≤ 1000000 := by omega
          obtain ⟨ak, tk, ha, htk, hdr⟩ := drop2 (r := r) (k := k) (by have := HRM.out; omega)
          have hak := hlt ak (List.mem_of_getElem? ha)
          have ca := (hB4.cell (p := ⟨vb, vo + q, none⟩) hvl2).trans (HV2.out q ak (by rw [HQ.out, show 2 + 2 * k = 2 * k + 1 + 1 by omega]; exact ha))
          have ct := (hB4.cell (p := ⟨vb, vo + (q + 1), none⟩) hvl2).trans (HV2.out (q + 1) tk (by rw [HQ.out, show 2 + 2 * k + 1 = 2 * k + 1 + 1 + 1 by omega]; exact htk))
          have hTk := ToNum_any (bs ak) wr (by rw [bs_size]; omega) he4
          rw [bs_list] at hTk
          have hcK : (toNumL ak = none ∧ tnE ak = 4) ∨ ∃ g, toNumL ak = some g ∧ tnE ak = 0 ∧ tnV ak = g := by
            rcases h : toNumL ak with _ | g
            · exact .inl ⟨rfl, (tnV_none h).2⟩
            · exact .inr ⟨g, rfl, (tnV_some h).2, (tnV_some h).1⟩
          obtain ⟨N, hN⟩ : ∃ y, tnV ak = y := ⟨_, rfl⟩
          obtain ⟨EK, hEK⟩ : ∃ y, tnE ak = y := ⟨_, rfl⟩
          rw [hN, hEK] at hTk hcK
          have HCK : Hid ((toNumL ak = none ∧ EK = 4) ∨ ∃ g, toNumL ak = some g ∧ EK = 0 ∧ N = g) := hcK
          have HDR : Hid (r.drop (2 * k) = ak :: tk :: r.drop (2 * (k + 1))) := hdr
          clear hN hEK hcK ha htk hdr hak
          go_wp2_with fail
          refine hTk.mono ?_
          clear hTk
          rintro e w5 ⟨rfl, hb5⟩
          have r5 := (hb5.block w.heap.size hzr).trans r4
          have rc5 := (hb5.block w2.heap.size (by omega)).trans rc4
          have hB5 := hB4w.trans (hb5.mono hB4w.size)
          have hB52 := hB4.trans (hb5.mono hB4.size)
          have ct5 := (hb5.cell (p := ⟨vb, vo + (q + 1), none⟩) (by show vb < wr.heap.size; omega)).trans ct
          have hown5 := own_kept hown hb5
          have hz5 := Nat.le_trans hz4 hb5.size
          have x2 := cell_block rc5 2 _ rfl
          rcases HCK.out with ⟨hno, rfl⟩ | ⟨gk', hyes, rfl, rfl⟩
          · have HZ : Hid (DX = [] ∧ DG = 0 ∧ DL = [] ∧ DE = 4) := HN.out (by rw [← HR.out, HDR.out, tgs_stop hno, cd3_none2])
            have f0 := frozen_block r5 0
            have f1 := frozen_block r5 1
            have f2 := frozen_block r5 2
            have s0 := cell_block r5 0 _ rfl
            have s1 := cell_block r5 1 _ rfl
            have s2 := cell_block r5 2 _ rfl
            obtain ⟨z0, z1, z2, hBz⟩ := fin w5 r5 hB5 ⟨#[]⟩ 0 (.slice none 0 0)
            clear fin hno HCK HN HY ca ct HR
            go_wp2
            obtain ⟨rfl, rfl, rfl, rfl⟩ := HZ.out
            exact bodyPost_ret (v := .tuple #[.agg #[.string ⟨#[]⟩, .int .i64 0, .slice none 0 0], .int .i64 4]) (by simp [results, Tryd.f42, go_sem, z0, z1, z2]) rfl ⟨_, rfl, Tp.nil _, Fr.nil _, hBz⟩
          · have HR2 : Hid (catT (P ++ [(N, tk)]) (tgsL (r.drop (2 * (k + 1)))) = tgsL r) := by
              show catT (P ++ [(N, tk)]) (tgsL (r.drop (2 * (k + 1)))) = tgsL r
              rw [← HR.out, HDR.out, tgs_step hyes]
            clear hyes HCK HR ca ct
            go_wp2_with fail
            have HQ2 : Hid (q + 2 = 2 + 2 * (k + 1)) := by show q + 2 = 2 + 2 * (k + 1); have := HQ.out; omega
            have HPl : Hid ((P ++ [(N, tk)]).length = k + 1) := by show (P ++ [(N, tk)]).length = k + 1; rw [List.length_append, HP.out]; rfl
            obtain ⟨q1, hq1⟩ : ∃ n, q + 1 = n := ⟨_, rfl⟩
            have hwr : IntKind.i64.wrap ((q : Int) + 1) = (q1 : Int) := by rw [wrap_id8 _ (by omega) (by omega), ← hq1]; rfl
            have hq10 : (0 : Int) ≤ (q1 : Int) := by omega
            have hq1M : (q1 : Int) < (M : Int) := by omega
            rw [hq1] at ct5
            clear hq1
            obtain ⟨i0, hi, hz0, hz1, hz2⟩ := info_parts Tryd.info105
            have hml : k + 1 ≤ maxLen := by have h2 := HM.out; unfold maxLen; omega
            have hkb : (k + 1) * 24 ≤ 140737488355328 := by have h2 := HM.out; omega
            obtain ⟨X, hX⟩ : ∃ X, tcs P = X := ⟨_, rfl⟩
            have HX : Hid (tcs (P ++ [(N, tk)]) = X ++ [.int .i64 N, .string (bs tk)]) := by show tcs (P ++ [(N, tk)]) = _; rw [tcs_append, hX]; rfl
            rw [hX] at hown5
            have hown6 : (w5.alloc (.cells #[.int .i64 N, .string (bs tk)] 105)).drew.ownsRow (w2.heap.size + 1) 105 2 (.slice ua k uc) k X := hown5.alloc (.cells #[.int .i64 N, .string (bs tk)] 105)
            have hbs : w2.heap.size + 1 ≤ (w5.alloc (.cells #[.int .i64 N, .string (bs tk)] 105)).drew.heap.size := by show w2.heap.size + 1 ≤ (w5.alloc (.cells #[.int .i64 N, .string (bs tk)] 105)).heap.size; rw [World.size_alloc]; omega
            have hba : Below w5.heap.size w5 (w5.alloc (.cells #[.int .i64 N, .string (bs tk)] 105)) := (Below.refl _ _).alloc (Nat.le_refl _) _
            have rca : (w5.alloc (.cells #[.int .i64 N, .string (bs tk)] 105)).drew.heap[w2.heap.size]? = some (.cells #[.string (bs x), .int .i64 A, .slice ua k uc] 24) := (hba.block w2.heap.size (by omega)).trans rc5
            have x6 : (w5.alloc (.cells #[.int .i64 N, .string (bs tk)] 105)).cell? ⟨w2.heap.size, 2, none⟩ = some (.slice ua k uc) := (hba.cell (p := ⟨w2.heap.size, 2, none⟩) (by show w2.heap.size < w5.heap.size; omega)).trans x2
            have hcn : ∀ j u, [Value.int .i64 N, .string (bs tk)][j]? = some u → (w5.alloc (.cells #[.int .i64 N, .string (bs tk)] 105)).drew.cell? ((⟨w5.heap.size, 0, none⟩ : Addr).add j) = some u := cells_new w5 #[.int .i64 N, .string (bs tk)] 105
            have hne : some w2.heap.size ≠ (Value.slice ua k uc).ownBlock := fun h => by have := (hown5.lt _ h.symm).1; omega
            have hcd : w2.heap.size < (w5.alloc (.cells #[.int .i64 N, .string (bs tk)] 105)).drew.heap.size := by omega
            clear hX hown hown5
            go_region_law (first | (refine step_append_lies _ (by rfl) _ _ 22 (by rfl) (w2.heap.size + 1) 105 i0 (.agg #[.int .i64 0, .string ⟨#[]⟩]) 2 24 Tryd.underlying22 hi hz0 hz1 hz2 rfl (by decide) _ k X (by rfl) hown6 ⟨w5.heap.size, 0, none⟩ 1 1 [.int .i64 N, .string (bs tk)] (by rfl) rfl hcn (by simp [Value.oneCell']) (by decide) hml hkb hbs _ rfl ?_; intro ga ca w6 hown7 hgrow hat hlt6; have rc6 := (hgrow.block w2.heap.size hcd hne).trans rca; have f2 := frozen_block rc6 2; have s2 := cell_block rc6 2 _ rfl))
            all_goals
              have hrs := set1 rc6 2 (.slice (some ⟨ga, 0, none⟩) (k + 1) ca)
              have hgs := hgrow.size
              have hB6 : Below w2.heap.size w2 w6 := (hB52.trans ((below_drew hba).mono hB52.size)).grown hgrow (by omega) (fun z hz => by have := (hown6.lt z hz).1; omega)
              go_wp2
              go_roundg (m - (k + 1))
              case measure => omega
              case rel => exact ⟨k + 1, q + 2, HQ2, by go_num, by omega, _, P ++ [(N, tk)], HPl, HR2, hrs, by rw [HX.out]; exact owns_set hown7 (by omega) 2 _, hB6.setCell (p := ⟨w2.heap.size, 2, none⟩) (Nat.le_refl _) _, by simp only [World.setCell, Array.size_modify]; omega⟩
end Go.Proofs.YtifalaigfinciaaDoor
/- The certificate that bytes are, by the plain text. -/
namespace Go.Proofs.YtifalaigfinciaaDoor
open Go.RowKit
attribute [local go_sem ↓] Go.wp_at_zero Go.wp_at_succ

set_option maxRecDepth 20000 in
set_option maxHeartbeats 4000000 in
theorem rDecode4_any (s : List UInt8) (w : World) (hs : s.length ≤ 1000000) :
    Calls Tryd.prog 45 #[.string (bs s)] w fun e W' => ∃ u, e = .returned (.tuple #[.agg #[.string (bs (cDecV s).1), .int .i64 (cDecV s).2.1, u], .int .i64 (cDecE s)]) ∧ Tp W' u (cDecV s).2.2 ∧ Fr w.heap.size u ∧ Below w.heap.size w W' := by
  have hb0 : Below w.heap.size w (w.alloc (.cells #[.string ⟨#[]⟩, .int .i64 0, .slice none 0 0] 37)) := (Below.refl _ w).alloc (Nat.le_refl _) _
  have r0 : (w.alloc (.cells #[.string ⟨#[]⟩, .int .i64 0, .slice none 0 0] 37)).heap[w.heap.size]? = some (.cells #[.string ⟨#[]⟩, .int .i64 0, .slice none 0 0] 37) := heap_alloc_new _ _
  have hlp : w.heap.size < (w.alloc (.cells #[.string ⟨#[]⟩, .int .i64 0, .slice none 0 0] 37)).heap.size := by simp
  have hU := rUnpack_any s (w.alloc (.cells #[.string ⟨#[]⟩, .int .i64 0, .slice none 0 0] 37)) (by omega)
  have fin : ∀ W, W.heap[w.heap.size]? = some (.cells #[.string ⟨#[]⟩, .int .i64 0, .slice none 0 0] 37) → Below w.heap.size w W → ∀ (X : ByteArray) (G : Int) (U : Value), (((W.setCell ⟨w.heap.size, 0, none⟩ (.string X)).setCell ⟨w.heap.size, 1, none⟩ (.int .i64 G)).setCell ⟨w.heap.size, 2, none⟩ U).cell? ⟨w.heap.size, 0, none⟩ = some (.string X) ∧ (((W.setCell ⟨w.heap.size, 0, none⟩ (.string X)).setCell ⟨w.heap.size, 1, none⟩ (.int .i64 G)).setCell ⟨w.heap.size, 2, none⟩ U).cell? ⟨w.heap.size, 1, none⟩ = some (.int .i64 G) ∧ (((W.setCell ⟨w.heap.size, 0, none⟩ (.string X)).setCell ⟨w.heap.size, 1, none⟩ (.int .i64 G)).setCell ⟨w.heap.size, 2, none⟩ U).cell? ⟨w.heap.size, 2, none⟩ = some U ∧ Below w.heap.size w (((W.setCell ⟨w.heap.size, 0, none⟩ (.string X)).setCell ⟨w.heap.size, 1, none⟩ (.int .i64 G)).setCell ⟨w.heap.size, 2, none⟩ U) := by
    intro W h1 h2 X G U
    have hr := set3 h1 (.string X) (.int .i64 G) U
    exact ⟨cell_block hr 0 _ rfl, cell_block hr 1 _ rfl, cell_block hr 2 _ rfl, ((h2.setCell (p := ⟨w.heap.size, 0, none⟩) (Nat.le_refl _) _).setCell (p := ⟨w.heap.size, 1, none⟩) (Nat.le_refl _) _).setCell (p := ⟨w.heap.size, 2, none⟩) (Nat.le_refl _) _⟩
  rcases cDec_first s with ⟨hV, hE, hcase⟩ | ⟨x, a, r, m, hT, h0, hrm, hD⟩
  · rw [hV, hE]
    obtain ⟨ES, hES⟩ : ∃ x, errOf s = x := ⟨_, rfl⟩
    obtain ⟨L, hL⟩ : ∃ L, texts s = L := ⟨_, rfl⟩
    rw [hES, hL] at hU hcase
    clear hES hL hV hE
    go_enter Tryd.func45, Tryd.ntmps45
    go_wp2_with fail
    refine hU.mono ?_
    clear hU
    rintro e w1 ⟨v, rfl, hv, hb1⟩
    obtain ⟨va, vc, rfl⟩ := (Sl.of_owns hv).slice
    have hB1 := hb0.trans (hb1.mono hb0.size)
    have r1 := (hb1.block w.heap.size hlp).trans r0
    have f0 := frozen_block r1 0
    have f1 := frozen_block r1 1
    have f2 := frozen_block r1 2
    have s0 := cell_block r1 0 _ rfl
    have s1 := cell_block r1 1 _ rfl
    have s2 := cell_block r1 2 _ rfl
    obtain ⟨z0, z1, z2, hBz⟩ := fin w1 r1 hB1 ⟨#[]⟩ 0 (.slice none 0 0)
    clear fin hv hb1 r0 hb0 r1
    have hcase2 : ES = 4 ∨ ES = 0 ∧ decide ((L.length : Int) < 2) = true ∨ ES = 0 ∧ decide ((L.length : Int) < 2) = false ∧ (((L.length : Int) % 2) == 1) = true := by
      rcases hcase with h | ⟨h, h2 | ⟨h2, h3⟩⟩
      · exact .inl h
      · exact .inr (.inl ⟨h, by simp; omega⟩)
      · exact .inr (.inr ⟨h, by simp; omega, by simp; omega⟩)
    clear hcase
    rcases hcase2 with rfl | ⟨rfl, hq⟩ | ⟨rfl, hq, hq2⟩
    all_goals
      go_wp2
      exact bodyPost_ret (v := .tuple #[.agg #[.string ⟨#[]⟩, .int .i64 0, .slice none 0 0], .int .i64 4]) (by simp [results, Tryd.f45, go_sem, z0, z1, z2]) rfl ⟨_, rfl, Tp.nil _, Fr.nil _, hBz⟩
  · have hla := texts_mem (s := s) (t := a) (by rw [hT]; simp)
    have hlt : ∀ t ∈ r, t.length ≤ 1000000 := fun t ht => Nat.le_trans (texts_mem (s := s) (by rw [hT]; simp [ht])) hs
    have hcnt : (texts s).length ≤ 1000000 := by
      refine Nat.le_trans ?_ hs
      unfold texts
      split
      · rw [List.length_map]; exact items_count
      · exact Nat.zero_le _
    rw [hT] at hcnt
    rw [h0, hT] at hU
    obtain ⟨DX, hDX⟩ : ∃ y, (cDecV s).1 = y := ⟨_, rfl⟩
    obtain ⟨DG, hDG⟩ : ∃ y, (cDecV s).2.1 = y := ⟨_, rfl⟩
    obtain ⟨DL, hDL⟩ : ∃ y, (cDecV s).2.2 = y := ⟨_, rfl⟩
    obtain ⟨DE, hDE⟩ : ∃ y, cDecE s = y := ⟨_, rfl⟩
    have HN : Hid (cd3 x (toNumL a) (tgsL r) = none → DX = [] ∧ DG = 0 ∧ DL = [] ∧ DE = 4) := by
      intro h
      rw [← hDX, ← hDG, ← hDL, ← hDE, cDecV, cDecE, hD, h]
      exact ⟨rfl, rfl, rfl, rfl⟩
    have HY : Hid (∀ g l, cd3 x (toNumL a) (tgsL r) = some (x, g, l) → DX = x ∧ DG = g ∧ DL = l ∧ DE = 0) := by
      intro g l h
      rw [← hDX, ← hDG, ← hDL, ← hDE, cDecV, cDecE, hD, h]
      exact ⟨rfl, rfl, rfl, rfl⟩
    rw [hDX, hDG, hDL, hDE]
    clear hDX hDG hDL hDE hD h0 hT
    have hLm : (x :: a :: r).length = 2 + 2 * m := by simp only [List.length_cons]; omega
    have hSl : ∀ (W : World) (v : Value), W.ownsRow (w.alloc (.cells #[.string ⟨#[]⟩, .int .i64 0, .slice none 0 0] 37)).heap.size 9 1 v (x :: a :: r).length (strs (x :: a :: r)) → ∃ vb vo vc, v = .slice (some ⟨vb, vo, none⟩) (2 + 2 * m) vc ∧ vb < W.heap.size ∧ ∀ (i : Nat) t, (x :: a :: r)[i]? = some t → W.cell? ⟨vb, vo + i, none⟩ = some (.string (bs t)) := by
      intro W v h
      rcases Sl.of_owns h with ⟨h, _⟩ | ⟨vb, vo, vc, h1, h2, h3⟩
      · cases h
      · exact ⟨vb, vo, vc, by rw [← hLm]; exact h1, h2, h3⟩
    have hTa := fun W => rToNum_any (bs a) W (by rw [bs_size]; omega)
    rw [bs_list] at hTa
    have hcA : (toNumL a = none ∧ tnE a = 4) ∨ ∃ g, toNumL a = some g ∧ tnE a = 0 ∧ tnV a = g := by
      rcases h : toNumL a with _ | g
      · exact .inl ⟨rfl, (tnV_none h).2⟩
      · exact .inr ⟨g, rfl, (tnV_some h).2, (tnV_some h).1⟩
    obtain ⟨A, hA⟩ : ∃ y, tnV a = y := ⟨_, rfl⟩
    obtain ⟨EA, hEA⟩ : ∃ y, tnE a = y := ⟨_, rfl⟩
    rw [hA, hEA] at hTa hcA
    clear hA hEA
    obtain ⟨M, hM⟩ : ∃ M, 2 + 2 * m = M := ⟨_, rfl⟩
    have HM : Hid (2 + 2 * m = M) := hM
    have hM6 : M ≤ 1000000 := by omega
    have hM2 : 2 ≤ M := by omega
    have hM3 : (1 : Int) < (M : Int) := by omega
    have hM4 : (0 : Int) < (M : Int) := by omega
    have q1 : decide ((M : Int) < 2) = false := by simp; omega
    have q2 : (((M : Int) % 2) == 1) = false := by simp; omega
    rw [hM] at hSl
    clear hM hLm
    have HC : Hid ((toNumL a = none ∧ EA = 4) ∨ ∃ g, toNumL a = some g ∧ EA = 0 ∧ A = g) := hcA
    clear hcA
    have HRM : Hid (r.length = 2 * m) := hrm
    clear hrm
    go_enter Tryd.func45, Tryd.ntmps45
    go_wp2_with fail
    refine hU.mono ?_
    clear hU
    rintro e w1 ⟨v, rfl, hv, hb1⟩
    obtain ⟨vb, vo, vc, rfl, hvl, hvc⟩ := hSl w1 v hv
    have c0 := hvc 0 x rfl
    have c1 := hvc 1 a rfl
    rw [Nat.add_zero] at c0
    have HV : Hid (∀ (i : Nat) t, (x :: a :: r)[i]? = some t → w1.cell? ⟨vb, vo + i, none⟩ = some (.string (bs t))) := hvc
    have hB1 := hb0.trans (hb1.mono hb0.size)
    have r1 := (hb1.block w.heap.size hlp).trans r0
    have hl1 : w.heap.size < w1.heap.size := (Array.getElem?_eq_some_iff.1 r1).1
    clear hv hvc hb1 r0 hb0 hlp hSl c1
    go_wp2
    have hb3 : Below w1.heap.size w1 (w1.alloc (.cells #[.string (bs x), .int .i64 0, .slice none 0 0] 37)) := (Below.refl _ _).alloc (Nat.le_refl _) _
    have rc : (w1.alloc (.cells #[.string (bs x), .int .i64 0, .slice none 0 0] 37)).heap[w1.heap.size]? = some (.cells #[.string (bs x), .int .i64 0, .slice none 0 0] 37) := heap_alloc_new _ _
    have hz3 : w1.heap.size + 1 ≤ (w1.alloc (.cells #[.string (bs x), .int .i64 0, .slice none 0 0] 37)).heap.size := by simp
    obtain ⟨W3, hW3⟩ : ∃ W, w1.alloc (.cells #[.string (bs x), .int .i64 0, .slice none 0 0] 37) = W := ⟨_, rfl⟩
    rw [hW3] at hb3 rc hz3 ⊢
    clear hW3 c0 q1 q2
    go_loopg [7] (M - 1) (fun gk i wr => ∃ q : Nat, i = .int .i64 q ∧ q + gk = M ∧ ∃ G u P k, Hid ((q = 1 ∧ k = 0 ∧ G = 0) ∨ (toNumL a = some G ∧ (q = 2 + 2 * k ∨ 1 ≤ k ∧ q = 1 + 2 * k))) ∧ Hid (k ≤ m ∧ P.length = k) ∧ Hid (catT P (tgsL (r.drop (2 * k))) = tgsL r) ∧ wr.heap[w1.heap.size]? = some (.cells #[.string (bs x), .int .i64 G, u] 37) ∧ wr.ownsRow (w1.heap.size + 1) 104 2 u k (tcs P) ∧ Below w1.heap.size w1 wr ∧ w1.heap.size + 1 ≤ wr.heap.size)
    case atStart => exact ⟨1, rfl, by omega, 0, .slice none 0 0, [], 0, .inl ⟨rfl, rfl, rfl⟩, ⟨Nat.zero_le _, rfl⟩, (by show catT [] (tgsL r) = tgsL r; exact catT_nil _), rc, World.ownsRow_nil _ _ _ _, hb3, hz3⟩
    case round =>
      obtain ⟨q, rfl, hgk, G, u, P, k, HS, HP, HR, rc4, hown, hB4, hz4⟩ := hrel
      clear rc hb3 hz3
      obtain ⟨ua, uc, rfl⟩ := owns_slice hown
      have r4 := (hB4.block w.heap.size hl1).trans r1
      have hB4w := hB1.trans (hB4.mono hB1.size)
      have hzr : w.heap.size < wr.heap.size := (Array.getElem?_eq_some_iff.1 r4).1
      rcases HS.out with ⟨hq1, hk0, hG0⟩ | ⟨hyes, hq | ⟨hk1, hq⟩⟩
      · subst hq1 hk0 hG0
        have ca := (hB4.cell (p := ⟨vb, vo + 1, none⟩) hvl).trans (HV.out 1 a rfl)
        clear HS
        have hTw := hTa wr
        clear hTa
        go_wp2_with fail
        refine hTw.mono ?_
        clear hTw
        rintro e w5 ⟨rfl, hb5⟩
        have r5 := (hb5.block w.heap.size hzr).trans r4
        have rc5 := (hb5.block w1.heap.size (by omega)).trans rc4
        have hB5 := hB4w.trans (hb5.mono hB4w.size)
        have hB52 := hB4.trans (hb5.mono hB4.size)
        have hown5 := own_kept hown hb5
        have hz5 := Nat.le_trans hz4 hb5.size
        rcases HC.out with ⟨hno, rfl⟩ | ⟨gk', hyes, rfl, rfl⟩
        · have HZ : Hid (DX = [] ∧ DG = 0 ∧ DL = [] ∧ DE = 4) := HN.out (by rw [hno]; rfl)
          have f0 := frozen_block r5 0
          have f1 := frozen_block r5 1
          have f2 := frozen_block r5 2
          have s0 := cell_block r5 0 _ rfl
          have s1 := cell_block r5 1 _ rfl
          have s2 := cell_block r5 2 _ rfl
          obtain ⟨z0, z1, z2, hBz⟩ := fin w5 r5 hB5 ⟨#[]⟩ 0 (.slice none 0 0)
          clear fin hno HC HN HY ca HR
          go_wp2
          obtain ⟨rfl, rfl, rfl, rfl⟩ := HZ.out
          exact bodyPost_ret (v := .tuple #[.agg #[.string ⟨#[]⟩, .int .i64 0, .slice none 0 0], .int .i64 4]) (by simp [results, Tryd.f45, go_sem, z0, z1, z2]) rfl ⟨_, rfl, Tp.nil _, Fr.nil _, hBz⟩
        · have HYES : Hid (toNumL a = some A) := hyes
          have f1 := frozen_block rc5 1
          have s1 := cell_block rc5 1 _ rfl
          have hrs := set1 rc5 1 (.int .i64 A)
          clear hyes HC ca fin HN HY
          go_wp2
          go_roundg (M - 2)
          case measure => omega
          case rel => exact ⟨2, rfl, by omega, A, _, P, 0, .inr ⟨HYES.out, .inl rfl⟩, HP, HR, hrs, owns_set hown5 (by omega) 1 _, hB52.setCell (p := ⟨w1.heap.size, 1, none⟩) (Nat.le_refl _) _, by simp only [World.setCell, Array.size_modify]; omega⟩
      · have HG : Hid (toNumL a = some G) := hyes
        by_cases hkm : k = m
        · subst hkm
          have hqM : q = M := by have := HM.out; omega
          have HTP : Hid (tgsL r = some P) := by
            show tgsL r = some P
            rw [← HR.out, ← HRM.out, List.drop_length]
            show some (P ++ []) = some P
            rw [List.append_nil]
          subst hqM
          have hTp : Tp wr (.slice ua P.length uc) P := by rw [HP.out.2]; exact Tp.of_owns (e := 104) (by rw [HP.out.2]; exact hown)
          have hPk : P.length = k := HP.out.2
          have hF := form_any (bs x) G P _ wr (by have h1 := HP.out.2; have h2 := HM.out; omega) hTp.tl
          rw [hPk] at hF hTp
          have x0 := cell_block rc4 0 _ rfl
          have x1 := cell_block rc4 1 _ rfl
          have x2 := cell_block rc4 2 _ rfl
          clear HR HV hPk HS hyes hq hTa HC
          go_wp2_with fail
          refine hF.mono ?_
          clear hF
          rintro e w5 ⟨rfl, hb5⟩
          have r5 := (hb5.block w.heap.size hzr).trans r4
          have rc5 := (hb5.block w1.heap.size (by omega)).trans rc4
          have hB5 := hB4w.trans (hb5.mono hB4w.size)
          have hT5 := hTp.below hb5 (Nat.le_refl _)
          have y0 := cell_block rc5 0 _ rfl
          have y1 := cell_block rc5 1 _ rfl
          have y2 := cell_block rc5 2 _ rfl
          have f0 := frozen_block r5 0
          have f1 := frozen_block r5 1
          have f2 := frozen_block r5 2
          have s0 := cell_block r5 0 _ rfl
          have s1 := cell_block r5 1 _ rfl
          have s2 := cell_block r5 2 _ rfl
          by_cases hf0 : faultL G P = 0
          · have HZ : Hid (DX = x ∧ DG = G ∧ DL = P ∧ DE = 0) := HY.out G P (by rw [HG.out, HTP.out]; exact if_pos hf0)
            obtain ⟨z0, z1, z2, hBz⟩ := fin w5 r5 hB5 (bs x) G (.slice ua k uc)
            have hTz : Tp (((w5.setCell ⟨w.heap.size, 0, none⟩ (.string (bs x))).setCell ⟨w.heap.size, 1, none⟩ (.int .i64 G)).setCell ⟨w.heap.size, 2, none⟩ (.slice ua k uc)) (.slice ua k uc) P := by
              have hne : ∀ j, (Value.slice ua k uc).ownBlock = some j → P ≠ [] → j ≠ w.heap.size := fun j hj _ => by have := (hown.lt j hj).1; omega
              exact ((hT5.setB hne 0 _).setB hne 1 _).setB hne 2 _
            have hFr : Fr w.heap.size (.slice ua k uc) := fun j hj => by have := (hown.lt j hj).1; omega
            rw [hf0]
            clear hf0 fin HN HY HG HTP
            go_wp2
            obtain ⟨rfl, rfl, rfl, rfl⟩ := HZ.out
            exact bodyPost_ret (v := .tuple #[.agg #[.string (bs DX), .int .i64 DG, .slice ua k uc], .int .i64 0]) (by simp [results, Tryd.f45, go_sem, z0, z1, z2]) rfl ⟨_, rfl, hTz, hFr, hBz⟩
          · have HZ : Hid (DX = [] ∧ DG = 0 ∧ DL = [] ∧ DE = 4) := HN.out (by rw [HG.out, HTP.out]; exact if_neg hf0)
            have hq : (faultL G P != 0) = true := by simpa using hf0
            obtain ⟨F, hF⟩ : ∃ F, faultL G P = F := ⟨_, rfl⟩
            rw [hF] at hq ⊢
            obtain ⟨z0, z1, z2, hBz⟩ := fin w5 r5 hB5 ⟨#[]⟩ 0 (.slice none 0 0)
            clear hf0 fin HN HY HG HTP hF
            go_wp2
            obtain ⟨rfl, rfl, rfl, rfl⟩ := HZ.out
            exact bodyPost_ret (v := .tuple #[.agg #[.string ⟨#[]⟩, .int .i64 0, .slice none 0 0], .int .i64 4]) (by simp [results, Tryd.f45, go_sem, z0, z1, z2]) rfl ⟨_, rfl, Tp.nil _, Fr.nil _, hBz⟩
        · have hkl : k < m := by have := HP.out.1; omega
          have hqe : ((q : Int) % 2 == 1) = false := by simp; omega
          have hqg : decide ((1 : Int) < (q : Int)) = true := by simp; omega
          have hq11 : ((q : Int) == 1) = false := by simp; omega
          have hql : (q : Int) < (M : Int) := by have := HM.out; omega
          have hql1 : (q : Int) + 1 < (M : Int) := by have := HM.out; omega
          have hq0 : (0 : Int) ≤ (q : Int) := by omega
          have hq6 : (q : Int) ≤ 1000000 := by omega
          have hq7 : q ≤ 1000000 := by omega
          obtain ⟨ak, tk, ha, htk, hdr⟩ := drop2 (r := r) (k := k) (by have := HRM.out; omega)
          have hak := hlt ak (List.mem_of_getElem? ha)
          have ca := (hB4.cell (p := ⟨vb, vo + q, none⟩) hvl).trans (HV.out q ak (by rw [hq, show 2 + 2 * k = 2 * k + 1 + 1 by omega]; exact ha))
          have ct := (hB4.cell (p := ⟨vb, vo + (q + 1), none⟩) hvl).trans (HV.out (q + 1) tk (by rw [hq, show 2 + 2 * k + 1 = 2 * k + 1 + 1 + 1 by omega]; exact htk))
          have hTk := rToNum_any (bs ak) wr (by rw [bs_size]; omega)
          rw [bs_list] at hTk
          have hcK : (toNumL ak = none ∧ tnE ak = 4) ∨ ∃ g, toNumL ak = some g ∧ tnE ak = 0 ∧ tnV ak = g := by
            rcases h : toNumL ak with _ | g
            · exact .inl ⟨rfl, (tnV_none h).2⟩
            · exact .inr ⟨g, rfl, (tnV_some h).2, (tnV_some h).1⟩
          obtain ⟨N, hN⟩ : ∃ y, tnV ak = y := ⟨_, rfl⟩
          obtain ⟨EK, hEK⟩ : ∃ y, tnE ak = y := ⟨_, rfl⟩
          rw [hN, hEK] at hTk hcK
          have HCK : Hid ((toNumL ak = none ∧ EK = 4) ∨ ∃ g, toNumL ak = some g ∧ EK = 0 ∧ N = g) := hcK
          have HDR : Hid (r.drop (2 * k) = ak :: tk :: r.drop (2 * (k + 1))) := hdr
          have HQ : Hid (q = 2 + 2 * k) := hq
          clear hN hEK hcK ha htk hdr hak hq hyes HS hTa HC
          go_wp2_with fail
          refine hTk.mono ?_
          clear hTk
          rintro e w5 ⟨rfl, hb5⟩
          have r5 := (hb5.block w.heap.size hzr).trans r4
          have rc5 := (hb5.block w1.heap.size (by omega)).trans rc4
          have hB5 := hB4w.trans (hb5.mono hB4w.size)
          have hB52 := hB4.trans (hb5.mono hB4.size)
          have ct5 := (hb5.cell (p := ⟨vb, vo + (q + 1), none⟩) (by show vb < wr.heap.size; omega)).trans ct
          have hown5 := own_kept hown hb5
          have hz5 := Nat.le_trans hz4 hb5.size
          have x2 := cell_block rc5 2 _ rfl
          rcases HCK.out with ⟨hno, rfl⟩ | ⟨gk', hyes, rfl, rfl⟩
          · have HZ : Hid (DX = [] ∧ DG = 0 ∧ DL = [] ∧ DE = 4) := HN.out (by rw [← HR.out, HDR.out, tgs_stop hno, cd3_none2])
            have f0 := frozen_block r5 0
            have f1 := frozen_block r5 1
            have f2 := frozen_block r5 2
            have s0 := cell_block r5 0 _ rfl
            have s1 := cell_block r5 1 _ rfl
            have s2 := cell_block r5 2 _ rfl
            obtain ⟨z0, z1, z2, hBz⟩ := fin w5 r5 hB5 ⟨#[]⟩ 0 (.slice none 0 0)
            clear fin hno HCK HN HY ca ct HR
            go_wp2
            obtain ⟨rfl, rfl, rfl, rfl⟩ := HZ.out
            exact bodyPost_ret (v := .tuple #[.agg #[.string ⟨#[]⟩, .int .i64 0, .slice none 0 0], .int .i64 4]) (by simp [results, Tryd.f45, go_sem, z0, z1, z2]) rfl ⟨_, rfl, Tp.nil _, Fr.nil _, hBz⟩
          · have HR2 : Hid (catT (P ++ [(N, tk)]) (tgsL (r.drop (2 * (k + 1)))) = tgsL r) := by
              show catT (P ++ [(N, tk)]) (tgsL (r.drop (2 * (k + 1)))) = tgsL r
              rw [← HR.out, HDR.out, tgs_step hyes]
            clear hyes HCK HR ca ct
            go_wp2_with fail
            have HS2 : Hid ((q + 1 = 1 ∧ k + 1 = 0 ∧ G = 0) ∨ (toNumL a = some G ∧ (q + 1 = 2 + 2 * (k + 1) ∨ 1 ≤ k + 1 ∧ q + 1 = 1 + 2 * (k + 1)))) := .inr ⟨HG.out, .inr ⟨by omega, by have := HQ.out; omega⟩⟩
            have HPl : Hid (k + 1 ≤ m ∧ (P ++ [(N, tk)]).length = k + 1) := ⟨hkl, by rw [List.length_append, HP.out.2]; rfl⟩
            obtain ⟨q1, hq1⟩ : ∃ n, q + 1 = n := ⟨_, rfl⟩
            have hwr : IntKind.i64.wrap ((q : Int) + 1) = (q1 : Int) := by rw [wrap_id8 _ (by omega) (by omega), ← hq1]; rfl
            have hq10 : (0 : Int) ≤ (q1 : Int) := by omega
            have hq1M : (q1 : Int) < (M : Int) := by omega
            have HQ1 : Hid (q + 1 = q1) := hq1
            rw [hq1] at ct5
            clear hq1
            obtain ⟨i0, hi, hz0, hz1, hz2⟩ := info_parts Tryd.info104
            have hml : k + 1 ≤ maxLen := by have h2 := HM.out; unfold maxLen; omega
            have hkb : (k + 1) * 24 ≤ 140737488355328 := by have h2 := HM.out; omega
            obtain ⟨X, hX⟩ : ∃ X, tcs P = X := ⟨_, rfl⟩
            have HX : Hid (tcs (P ++ [(N, tk)]) = X ++ [.int .i64 N, .string (bs tk)]) := by show tcs (P ++ [(N, tk)]) = _; rw [tcs_append, hX]; rfl
            rw [hX] at hown5
            have hown6 : (w5.alloc (.cells #[.int .i64 N, .string (bs tk)] 104)).drew.ownsRow (w1.heap.size + 1) 104 2 (.slice ua k uc) k X := hown5.alloc (.cells #[.int .i64 N, .string (bs tk)] 104)
            have hbs : w1.heap.size + 1 ≤ (w5.alloc (.cells #[.int .i64 N, .string (bs tk)] 104)).drew.heap.size := by show w1.heap.size + 1 ≤ (w5.alloc (.cells #[.int .i64 N, .string (bs tk)] 104)).heap.size; rw [World.size_alloc]; omega
            have hba : Below w5.heap.size w5 (w5.alloc (.cells #[.int .i64 N, .string (bs tk)] 104)) := (Below.refl _ _).alloc (Nat.le_refl _) _
            have rca : (w5.alloc (.cells #[.int .i64 N, .string (bs tk)] 104)).drew.heap[w1.heap.size]? = some (.cells #[.string (bs x), .int .i64 G, .slice ua k uc] 37) := (hba.block w1.heap.size (by omega)).trans rc5
            have x6 : (w5.alloc (.cells #[.int .i64 N, .string (bs tk)] 104)).cell? ⟨w1.heap.size, 2, none⟩ = some (.slice ua k uc) := (hba.cell (p := ⟨w1.heap.size, 2, none⟩) (by show w1.heap.size < w5.heap.size; omega)).trans x2
            have hcn : ∀ j u, [Value.int .i64 N, .string (bs tk)][j]? = some u → (w5.alloc (.cells #[.int .i64 N, .string (bs tk)] 104)).drew.cell? ((⟨w5.heap.size, 0, none⟩ : Addr).add j) = some u := cells_new w5 #[.int .i64 N, .string (bs tk)] 104
            have hne : some w1.heap.size ≠ (Value.slice ua k uc).ownBlock := fun h => by have := (hown5.lt _ h.symm).1; omega
            have hcd : w1.heap.size < (w5.alloc (.cells #[.int .i64 N, .string (bs tk)] 104)).drew.heap.size := by omega
            clear hX hown hown5
            go_region_law (first | (refine step_append_lies _ (by rfl) _ _ 35 (by rfl) (w1.heap.size + 1) 104 i0 (.agg #[.int .i64 0, .string ⟨#[]⟩]) 2 24 Tryd.underlying35 hi hz0 hz1 hz2 rfl (by decide) _ k X (by rfl) hown6 ⟨w5.heap.size, 0, none⟩ 1 1 [.int .i64 N, .string (bs tk)] (by rfl) rfl hcn (by simp [Value.oneCell']) (by decide) hml hkb hbs _ rfl ?_; intro ga ca w6 hown7 hgrow hat hlt6; have rc6 := (hgrow.block w1.heap.size hcd hne).trans rca; have f2 := frozen_block rc6 2; have s2 := cell_block rc6 2 _ rfl))
            all_goals
              have hrs := set1 rc6 2 (.slice (some ⟨ga, 0, none⟩) (k + 1) ca)
              have hgs := hgrow.size
              have hB6 : Below w1.heap.size w1 w6 := (hB52.trans ((below_drew hba).mono hB52.size)).grown hgrow (by omega) (fun z hz => by have := (hown6.lt z hz).1; omega)
              go_wp2
              go_roundg (M - (q + 1))
              case measure => omega
              case rel => exact ⟨q + 1, by first | go_num | (rw [HQ1.out]), by omega, G, _, P ++ [(N, tk)], k + 1, HS2, HPl, HR2, hrs, by rw [HX.out]; exact owns_set hown7 (by omega) 2 _, hB6.setCell (p := ⟨w1.heap.size, 2, none⟩) (Nat.le_refl _) _, by simp only [World.setCell, Array.size_modify]; omega⟩
      · have HS2 : Hid ((q + 1 = 1 ∧ k = 0 ∧ G = 0) ∨ (toNumL a = some G ∧ (q + 1 = 2 + 2 * k ∨ 1 ≤ k ∧ q + 1 = 1 + 2 * k))) := .inr ⟨hyes, .inl (by omega)⟩
        have hqe : ((q : Int) % 2 == 1) = true := by simp; omega
        have hqg : decide ((1 : Int) < (q : Int)) = true := by simp; omega
        have hql : (q : Int) < (M : Int) := by have := HM.out; have := HP.out.1; omega
        have hq0 : (0 : Int) ≤ (q : Int) := by omega
        have hq6 : (q : Int) ≤ 1000000 := by omega
        clear hyes HS hq hTa HC
        go_wp2
        go_roundg (M - (q + 1))
        case measure => omega
        case rel => exact ⟨q + 1, by go_num, by omega, G, _, P, k, HS2, HP, HR, rc4, hown, hB4, hz4⟩
end Go.Proofs.YtifalaigfinciaaDoor
/- The law CertBytes, walked. -/
namespace Go.Proofs.YtifalaigfinciaaDoor
open Go.RowKit
attribute [local go_sem ↓] Go.wp_at_zero Go.wp_at_succ

theorem enc_len4 {x : List UInt8} {g : Int} {l : List Tg} (h : faultL g l = 0) (hx : x.length ≤ 20000) : (encV x g l).length ≤ 1000000 := by
  obtain ⟨g1, g2, hl, hm⟩ := fault_zero h
  have h1 := tagL_tot l hm
  have h2 := itoa_len2 g (by omega) (by omega)
  have h3 : tot (encL x g l) ≤ 20400 := by
    rw [encL, tot_append]
    have : tot [x, Lib.itoa g] = x.length + (Lib.itoa g).length := by simp [tot]
    omega
  have h4 := pack_len (encL x g l) (by omega)
  have h5 : (encL x g l).length ≤ 34 := by rw [encL, List.length_append, tagL_len]; simp only [List.length_cons, List.length_nil]; omega
  rw [encV, if_pos h]
  omega
theorem cDec_lens (b : List UInt8) : (cDecV b).1.length ≤ b.length ∧ (cDecV b).2.2.length ≤ 16 := by
  rcases h : cDecL b with _ | ⟨x, g, l⟩
  · rw [cDecV, h]; exact ⟨Nat.zero_le _, Nat.zero_le _⟩
  · obtain ⟨h1, _, h3⟩ := cDec_some h
    rw [cDecV, h]
    exact ⟨texts_mem (by rw [h3]; simp [encL]), (fault_zero h1).2.2.1⟩
end Go.Proofs.YtifalaigfinciaaDoor
