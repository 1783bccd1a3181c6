/- Contents, plain: their texts, and what a text says; there and back. -/
import Derived.Test.YtgmobjdjojffgaaDoorSdK
import Derived.Test.YtgmobjdjojffgaaDoorTcB
import Derived.Test.YtgmobjdjojffgaaDoorNsN
namespace Go.Proofs.YtgmobjdjojffgaaDoor
open Go.RowKit

/-- The texts of one client. -/
def cl1 (i : Nat) (x : La) : List (List UInt8) := if 0 < x.1 then [Lib.itoa i, Lib.itoa x.1, Lib.itoa x.2.1, x.2.2] else []
def clsF (c : Nat → La) (l : List Nat) : List (List UInt8) := l.flatMap fun i => cl1 i (c i)
def cls (c : Nat → La) : List (List UInt8) := clsF c (List.range' 0 8)
def contL (l : List Rw) (c : Nat → La) : List (List UInt8) := textT l :: cls c
/-- A content's text. -/
def contT (l : List Rw) (c : Nat → La) : List UInt8 := packL (contL l c)
structure OkL (x : La) : Prop where
  n0 : 0 ≤ x.1
  n1 : x.1 ≤ 1099511627776
  e0 : 0 ≤ x.2.1
  e1 : x.2.1 ≤ 999
  v : x.2.2.length ≤ 64
  z : x.1 = 0 → x = la0
structure OkC (c : Nat → La) : Prop where
  ok : ∀ i, OkL (c i)
  out : ∀ i, 8 ≤ i → c i = la0
theorem OkL.zero : OkL la0 := ⟨by decide, by decide, by decide, by decide, by decide, fun _ => rfl⟩
theorem OkC.zero : OkC fun _ => la0 := ⟨fun _ => OkL.zero, fun _ _ => rfl⟩
theorem OkC.upd {c : Nat → La} (h : OkC c) {n : Nat} (hn : n < 8) {x : La} (hx : OkL x) : OkC (updC c n x) :=
  ⟨fun i => by unfold updC; split; exact hx; exact h.ok i, fun i hi => by unfold updC; rw [if_neg (by omega)]; exact h.out i hi⟩
/-- The clients that texts say, behind others. -/
def loadL : List (List UInt8) → Nat → (Nat → La) → Option (Nat → La)
  | [], _, c => some c
  | a :: b :: x :: d :: r, least, c => if (fitA a && fitB b && fitC x d && decide ((least : Int) ≤ tnV a)) = true then loadL r ((tnV a).toNat + 1) (updC c (tnV a).toNat (tnV b, tnV x, d)) else none
  | _, _, _ => none
/-- What a content's text says. -/
def loadC (s : List UInt8) : Option (List Rw × (Nat → La)) :=
  if good s ∧ (texts s).length % 4 = 1 then
    match loadR ((texts s).headD []) with
    | none => none
    | some l => (loadL ((texts s).drop 1) 0 fun _ => la0).map fun c => (l, c)
  else none
theorem tn_itoa {n : Int} (h0 : -9223372036854775808 ≤ n) (h1 : n ≤ 9223372036854775807) : tnV (Lib.itoa n) = n ∧ tnE (Lib.itoa n) = 0 := tnV_some (toNum_itoa n h0 h1)
theorem tn_back {s : List UInt8} (h : tnE s = 0) : Lib.itoa (tnV s) = s := by
  unfold tnE at h
  cases e : toNumL s with
  | none => rw [e] at h; simp at h
  | some z => rw [(tnV_some e).1]; exact toNum_back e
theorem fit_client (n : Nat) (hn : n < 8) : fitA (Lib.itoa n) = true := by
  obtain ⟨a, b⟩ := tn_itoa (n := n) (by omega) (by omega)
  simp [fitA, a, b, inR]; omega
theorem fit_last {x : La} (h : OkL x) (h0 : 0 < x.1) : fitB (Lib.itoa x.1) = true ∧ fitC (Lib.itoa x.2.1) x.2.2 = true := by
  have := h.n1
  have := h.e0
  have := h.e1
  obtain ⟨a, b⟩ := tn_itoa (n := x.1) (by omega) (by omega)
  obtain ⟨c, d⟩ := tn_itoa (n := x.2.1) (by omega) (by omega)
  refine ⟨?_, ?_⟩
  · simp [fitB, a, b, inR]; omega
  · simp [fitC, c, d, inR, h.v]; omega
theorem updC_same (c : Nat → La) (n : Nat) (x : La) : updC c n x n = x := if_pos rfl
theorem updC_other (c : Nat → La) {n i : Nat} (h : i ≠ n) (x : La) : updC c n x i = c i := if_neg h
theorem loadL_cls {c : Nat → La} (hc : OkC c) : ∀ (m k : Nat), k + m = 8 → ∀ (least : Nat) (c0 : Nat → La), least ≤ k → (∀ i, i < k → c0 i = c i) → (∀ i, k ≤ i → c0 i = la0) → loadL (clsF c (List.range' k m)) least c0 = some c
  | 0, k, hk, least, c0, _, h1, h2 => by
    show some c0 = some c
    congr 1
    funext i
    by_cases h : i < k
    · exact h1 i h
    · rw [h2 i (by omega), hc.out i (by omega)]
  | m + 1, k, hk, least, c0, hl, h1, h2 => by
    rw [List.range'_succ, show clsF c (k :: List.range' (k + 1) m) = cl1 k (c k) ++ clsF c (List.range' (k + 1) m) by simp [clsF], cl1]
    have hx := hc.ok k
    split
    · rename_i h0
      obtain ⟨hB, hC⟩ := fit_last hx h0
      have := hx.n1
      have := hx.e0
      have := hx.e1
      obtain ⟨a, _⟩ := tn_itoa (n := k) (by omega) (by omega)
      obtain ⟨b, _⟩ := tn_itoa (n := (c k).1) (by omega) (by omega)
      obtain ⟨d, _⟩ := tn_itoa (n := (c k).2.1) (by omega) (by omega)
      show loadL (_ :: _ :: _ :: _ :: clsF c (List.range' (k + 1) m)) least c0 = _
      rw [loadL, fit_client k (by omega), hB, hC, a, b, d, decide_eq_true (by omega), if_pos (by rfl), Int.toNat_natCast]
      refine loadL_cls hc m (k + 1) (by omega) (k + 1) _ (Nat.le_refl _) (fun i hi => ?_) (fun i hi => ?_)
      · by_cases e : i = k
        · subst e
          exact updC_same _ _ _
        · rw [updC_other _ e]
          exact h1 i (by omega)
      · rw [updC_other _ (by omega)]
        exact h2 i (by omega)
    · rename_i h0
      rw [List.nil_append]
      refine loadL_cls hc m (k + 1) (by omega) least c0 (by omega) (fun i hi => ?_) (fun i hi => h2 i (by omega))
      by_cases e : i = k
      · subst e
        rw [h2 i (Nat.le_refl _), hx.z (by have := hx.n0; omega)]
      · exact h1 i (by omega)
theorem cls_none {c : Nat → La} : ∀ (m k : Nat), (∀ i, k ≤ i → i < k + m → c i = la0) → clsF c (List.range' k m) = []
  | 0, _, _ => rfl
  | m + 1, k, h => by
    rw [List.range'_succ, show clsF c (k :: List.range' (k + 1) m) = cl1 k (c k) ++ clsF c (List.range' (k + 1) m) by simp [clsF], h k (Nat.le_refl _) (by omega), cls_none m (k + 1) fun i h1 h2 => h i (by omega) (by omega)]
    rfl
theorem fit_cond {a b x d : List UInt8} {least : Nat} (h : (fitA a && fitB b && fitC x d && decide ((least : Int) ≤ tnV a)) = true) : (tnE a = 0 ∧ 0 ≤ tnV a ∧ tnV a ≤ 7) ∧ (tnE b = 0 ∧ 1 ≤ tnV b ∧ tnV b ≤ 1099511627776) ∧ (tnE x = 0 ∧ 0 ≤ tnV x ∧ tnV x ≤ 999 ∧ d.length ≤ 64) ∧ (least : Int) ≤ tnV a := by
  simp only [fitA, fitB, fitC, Bool.and_eq_true, decide_eq_true_iff] at h
  obtain ⟨⟨⟨⟨a1, a2⟩, b1, b2⟩, ⟨c1, c2⟩, c3⟩, l⟩ := h
  have := inR_t a2
  have := inR_t b2
  have := inR_t c2
  exact ⟨⟨a1, by omega, by omega⟩, ⟨b1, by omega, by omega⟩, ⟨c1, by omega, by omega, c3⟩, l⟩
theorem loadL_back : ∀ (n : Nat) (L : List (List UInt8)), L.length ≤ n → ∀ (least : Nat) (c0 c : Nat → La), loadL L least c0 = some c → OkC c0 → (∀ i, least ≤ i → c0 i = la0) → least ≤ 8 → OkC c ∧ (∀ i, i < least → c i = c0 i) ∧ L = clsF c (List.range' least (8 - least))
  | n, [], _, least, c0, c, h, hok, hz, hl => by
    cases h
    exact ⟨hok, fun _ _ => rfl, (cls_none _ _ fun i h1 _ => hz i h1).symm⟩
  | n, [_], _, _, _, _, h, _, _, _ => by cases h
  | n, [_, _], _, _, _, _, h, _, _, _ => by cases h
  | n, [_, _, _], _, _, _, _, h, _, _, _ => by cases h
  | 0, _ :: _ :: _ :: _ :: _, hn, _, _, _, _, _, _, _ => by simp at hn
  | n + 1, a :: b :: x :: d :: r, hn, least, c0, c, h, hok, hz, hl => by
    rw [loadL] at h
    split at h
    · rename_i hc
      obtain ⟨⟨a1, a2, a3⟩, ⟨b1, b2, b3⟩, ⟨x1, x2, x3, d1⟩, hle⟩ := fit_cond hc
      obtain ⟨z, hz'⟩ : ∃ z : Nat, tnV a = z := ⟨(tnV a).toNat, by omega⟩
      rw [hz'] at h a2 a3 hle
      rw [Int.toNat_natCast] at h
      have hxo : OkL (tnV b, tnV x, d) := ⟨by show 0 ≤ tnV b; omega, b3, x2, x3, d1, fun e => by have e' : tnV b = 0 := e; omega⟩
      obtain ⟨i1, i2, i3⟩ := loadL_back n r (by simp at hn; omega) (z + 1) _ c h (hok.upd (by omega) hxo) (fun i hi => by rw [updC_other _ (by omega)]; exact hz i (by omega)) (by omega)
      have hcz : c z = (tnV b, tnV x, d) := by rw [i2 z (by omega), updC_same]
      have hlt : ∀ i, i < z → c i = c0 i := fun i hi => by rw [i2 i (by omega), updC_other _ (by omega)]
      refine ⟨i1, fun i hi => hlt i (by omega), ?_⟩
      have e1 : List.range' least (8 - least) = List.range' least (z - least) ++ z :: List.range' (z + 1) (8 - (z + 1)) := by
        have := List.range'_append_1 (s := least) (m := z - least) (n := 8 - z)
        rw [show least + (z - least) = z by omega, show z - least + (8 - z) = 8 - least by omega] at this
        rw [← this, show 8 - z = (8 - (z + 1)) + 1 by omega, List.range'_succ]
      rw [e1, show clsF c (List.range' least (z - least) ++ z :: List.range' (z + 1) (8 - (z + 1))) = clsF c (List.range' least (z - least)) ++ (cl1 z (c z) ++ clsF c (List.range' (z + 1) (8 - (z + 1)))) by simp [clsF], ← i3, cls_none _ _ fun i h1 h2 => by rw [hlt i (by omega)]; exact hz i h1]
      rw [hcz, cl1, if_pos (by show 0 < tnV b; omega)]
      show _ = [Lib.itoa (z : Int), Lib.itoa (tnV b), Lib.itoa (tnV x), d] ++ r
      rw [← hz', tn_back a1, tn_back b1, tn_back x1]
      rfl
    · cases h
theorem cls_bound {c : Nat → La} (h : OkC c) : ∀ (m k : Nat), k + m = 8 → (clsF c (List.range' k m)).length ≤ 4 * m ∧ (clsF c (List.range' k m)).length % 4 = 0 ∧ ∀ t ∈ clsF c (List.range' k m), t.length ≤ 64
  | 0, _, _ => ⟨by simp [clsF], by simp [clsF], fun t ht => by simp [clsF] at ht⟩
  | m + 1, k, hk => by
    obtain ⟨a, b, d⟩ := cls_bound h m (k + 1) (by omega)
    have hx := h.ok k
    have n0 := hx.n0
    have n1 := hx.n1
    have e0 := hx.e0
    have e1 := hx.e1
    rw [List.range'_succ, show clsF c (k :: List.range' (k + 1) m) = cl1 k (c k) ++ clsF c (List.range' (k + 1) m) by simp [clsF], cl1]
    split
    · refine ⟨by simp; omega, by simp; omega, fun t ht => ?_⟩
      rcases List.mem_append.1 ht with ht | ht
      · simp only [List.mem_cons, List.not_mem_nil, or_false] at ht
        rcases ht with rfl | rfl | rfl | rfl
        · have := itoa_len k (by omega); omega
        · have := itoa_len (c k).1.toNat (by omega)
          rw [Int.toNat_of_nonneg n0] at this
          omega
        · have := itoa_len (c k).2.1.toNat (by omega)
          rw [Int.toNat_of_nonneg e0] at this
          omega
        · exact hx.v
      · exact d t ht
    · rw [List.nil_append]
      exact ⟨by omega, b, d⟩
theorem textT_len {l : List Rw} (h : Ok l) : (textT l).length ≤ 3000 := by
  obtain ⟨a, b⟩ := flat_tot h
  have := pack_len (flat l) (by omega)
  rw [textT]
  omega
theorem cont_tot {l : List Rw} {c : Nat → La} (h : Ok l) (hc : OkC c) : tot (contL l c) ≤ 6000 ∧ (contL l c).length ≤ 33 ∧ (contL l c).length % 4 = 1 ∧ ∀ t ∈ contL l c, t.length ≤ 3000 := by
  obtain ⟨a, b, d⟩ := cls_bound hc 8 0 rfl
  have h1 := textT_len h
  have h2 := tot_le d
  refine ⟨?_, ?_, ?_, fun t ht => ?_⟩
  · rw [contL, tot_cons]; unfold cls; omega
  · rw [contL, List.length_cons]; unfold cls; omega
  · rw [contL, List.length_cons]; unfold cls; omega
  · rcases List.mem_cons.1 ht with rfl | ht
    · exact h1
    · have := d t ht; omega
theorem cont_len {l : List Rw} {c : Nat → La} (h : Ok l) (hc : OkC c) : (contT l c).length ≤ 7000 := by
  obtain ⟨a, b, _⟩ := cont_tot h hc
  have := pack_len (contL l c) (by omega)
  rw [contT]
  omega
/-- What was told is read. -/
theorem load_cont {l : List Rw} {c : Nat → La} (h : Ok l) (hc : OkC c) : loadC (contT l c) = some (l, c) := by
  obtain ⟨_, _, hm, hb⟩ := cont_tot h hc
  have hb' : ∀ t ∈ contL l c, t.length ≤ 1000000000 := fun t ht => Nat.le_trans (hb t ht) (by decide)
  rw [loadC, contT, texts_pack _ hb', if_pos ⟨good_pack _ hb', hm⟩]
  show (match loadR (textT l) with | none => none | some l => (loadL (cls c) 0 fun _ => la0).map fun c => (l, c)) = _
  rw [load_text h]
  show (loadL (cls c) 0 fun _ => la0).map (fun c => (l, c)) = _
  rw [cls, loadL_cls hc 8 0 rfl 0 _ (Nat.le_refl _) (fun i hi => absurd hi (by omega)) (fun _ _ => rfl)]
  rfl
/-- What is read is told so. -/
theorem cont_load {s : List UInt8} {l : List Rw} {c : Nat → La} (h : loadC s = some (l, c)) : Ok l ∧ OkC c ∧ contT l c = s := by
  unfold loadC at h
  split at h
  · rename_i hg
    cases hl : loadR ((texts s).headD []) with
    | none => rw [hl] at h; cases h
    | some l' =>
      rw [hl] at h
      cases hL : loadL ((texts s).drop 1) 0 fun _ => la0 with
      | none => rw [hL] at h; cases h
      | some c' =>
        rw [hL] at h
        cases h
        obtain ⟨i1, _, i3⟩ := loadL_back _ _ (Nat.le_refl _) 0 _ _ hL OkC.zero (fun _ _ => rfl) (by decide)
        obtain ⟨j1, j2⟩ := ok_load hl
        refine ⟨j1, i1, ?_⟩
        rw [contT, contL, j2, cls, ← i3]
        have : (texts s).headD [] :: (texts s).drop 1 = texts s := by
          cases e : texts s with
          | nil => rw [e] at hg; simp at hg
          | cons a r => rfl
        rw [this]
        exact pack_texts hg.1
  · cases h
end Go.Proofs.YtgmobjdjojffgaaDoor
