import Derived.Test.YtnachkdclmcaiabDoorNsJ
import Derived.Laws.AppendOwnNone
import Derived.BigCall
namespace Go.Proofs.YtnachkdclmcaiabDoor
open Go.RowKit
attribute [local go_sem ↓] Go.wp_at_zero Go.wp_at_succ

theorem large_false {l : List (List UInt8)} (h : largeL l = false) : tot l ≤ 20000 ∧ l.length ≤ 2000 := by
  simp [largeL] at h
  omega
theorem mem_tot {l : List (List UInt8)} {t : List UInt8} (h : t ∈ l) : t.length ≤ tot l := by
  induction l with
  | nil => cases h
  | cons a l ih =>
    rw [tot_cons]
    rcases List.mem_cons.1 h with rfl | h
    · omega
    · have := ih h; omega
theorem pack_append (a b : List (List UInt8)) : packL a ++ packL b = packL (a ++ b) := by simp [packL]
theorem deep_one (s : List UInt8) (h : s.length ≤ 1000000000) : deepL (packL [s]) = 1 + deepL s := by
  have h1 : isL (packL [s]) = true := isL_pack _ (by simpa using h) (by simp)
  rw [deepL, if_pos h1, levels_step (by simp) (by simpa using h1), inner_of _ (by simpa using h)]
  congr 1
  cases hs : isL s with
  | true => rw [deepL, if_pos hs]; congr 1; simp [hs]
  | false => rw [deepL, if_neg (by rw [hs]; simp)]; simp [hs, levels_nil]

/-- v is a slice of just these texts, that came in. -/
def Sp (w : World) (v : Value) (l : List (List UInt8)) : Prop :=
  (l = [] ∧ v = .slice none 0 0) ∨ (l = [] ∧ ∃ a cap, v = .slice (some a) 0 cap) ∨ ∃ b o cap, v = .slice (some ⟨b, o, none⟩) l.length cap ∧ b < w.heap.size ∧ ∀ (i : Nat) t, l[i]? = some t → w.cell? ⟨b, o + i, none⟩ = some (.string (bs t))
theorem Sp.sl {w : World} {v : Value} {l : List (List UInt8)} (h : Sp w v l) : Sl w v l := by
  rcases h with ⟨rfl, rfl⟩ | ⟨rfl, a, cap, rfl⟩ | h
  · exact .inl ⟨rfl, none, 0, rfl⟩
  · exact .inl ⟨rfl, some a, cap, rfl⟩
  · exact .inr h
theorem Sp.below {w w' : World} {v : Value} {l : List (List UInt8)} (h : Sp w v l) {B : Nat} (hb : Below B w w') (hB : w.heap.size ≤ B) : Sp w' v l := by
  rcases h with h | h | ⟨b, o, cap, rfl, hlt, h⟩
  · exact .inl h
  · exact .inr (.inl h)
  · exact .inr <| .inr ⟨b, o, cap, rfl, Nat.lt_of_lt_of_le hlt hb.size, fun i t ht => (hb.cell (p := ⟨b, o + i, none⟩) (by show b < B; omega)).trans (h i t ht)⟩
theorem wpList_append_texts {w : World} {ops : Array Oper} {rest : List Oper} {o : Oper} {a : Act} {Q : Exit → Act → World → Prop} (hgd : o.guard = none) (s x : Operand)
    (ho : o.op = .call { callee := .builtin .append, args := #[s, x], argTypes := #[22, 22] }) (base : Nat) (v : Value) (n : Nat) (xs : List Value) (hs : a.eval s = v) (hown : w.ownsRow base 9 1 v n xs)
    (u : Value) (l : List (List UInt8)) (hx : a.eval x = u) (hu : Sp w u l) (hn : n + l.length ≤ 1000000) (hbase : base ≤ w.heap.size)
    (h : ∀ v' w', w'.ownsRow base 9 1 v' (n + l.length) (xs ++ strs l) → Below base w w' → wpList Tryd.prog ops Q rest (a.put o.dst v') w') : wpList Tryd.prog ops Q (o :: rest) a w := by
  obtain ⟨i0, hi, hz0, hz1, hz2⟩ := info_parts Tryd.info9
  rcases hu with ⟨rfl, rfl⟩ | ⟨rfl, ad, cap, rfl⟩ | ⟨b, off, cap, rfl, hlt, hc⟩
  · refine wpList_append_own_none hgd s x 22 ho base 9 i0 1 Tryd.underlying22 hi v n xs hs hown hx (h v w ?_ (Below.refl _ _))
    simpa [strs] using hown
  · refine wpList_append_own w hgd s x 22 ho base 9 i0 (.string ⟨#[]⟩) 1 16 Tryd.underlying22 hi hz0 hz1 hz2 rfl (by decide) v n xs hs hown ad 0 cap [] hx rfl (by simp) (by simp) (by unfold maxLen; omega) (by omega) hbase ?_
    intro v' w' h1 h2 _
    exact h v' w' h1 ((Below.refl base w).grown h2 hbase (fun q hq => (hown.lt q hq).1))
  · refine wpList_append_own w hgd s x 22 ho base 9 i0 (.string ⟨#[]⟩) 1 16 Tryd.underlying22 hi hz0 hz1 hz2 rfl (by decide) v n xs hs hown ⟨b, off, none⟩ l.length cap (strs l) hx (by simp [strs]) ?_ ?_ (by unfold maxLen; omega) (by omega) hbase ?_
    · intro j y hy
      simp only [strs, List.getElem?_map] at hy
      obtain ⟨t, ht, rfl⟩ := Option.map_eq_some_iff.1 hy
      rw [Addr.add_mid]
      exact hc j t ht
    · intro y hy
      obtain ⟨t, _, rfl⟩ := List.mem_map.1 hy
      rfl
    · intro v' w' h1 h2 _
      exact h v' w' h1 ((Below.refl base w).grown h2 hbase (fun q hq => (hown.lt q hq).1))
theorem Sl_one (w : World) (a : List UInt8) : Sl (w.alloc (.cells #[.string (bs a)] 9)) (.slice (some ⟨w.heap.size, 0, none⟩) 1 1) [a] := by
  refine .inr ⟨w.heap.size, 0, 1, rfl, by simp, fun i t ht => ?_⟩
  unfold World.cell?
  rw [World.alloc_heap_new]
  match i with
  | 0 =>
    simp only [List.getElem?_cons_zero, Option.some.injEq] at ht
    subst ht
    rfl
  | i + 1 => simp at ht

set_option maxRecDepth 20000 in
set_option maxHeartbeats 2000000 in
theorem joins_any (a b : List (List UInt8)) (u v : Value) (w : World) (ha : ∀ t ∈ a, t.length ≤ 140737488355328) (hal : a.length ≤ 140737488355328) (hb : ∀ t ∈ b, t.length ≤ 140737488355328) (hbl : b.length ≤ 140737488355328) (he : Env w) (hu : Sp w u a) (hv : Sp w v b) :
    Calls Tryd.prog 3 #[u, v] w fun e W' => e = .returned (.bool true) ∧ Below w.heap.size w W' := by
  have ha : Hid (∀ t ∈ a, t.length ≤ 140737488355328) := ha
  have hb : Hid (∀ t ∈ b, t.length ≤ 140737488355328) := hb
  go_enter Tryd.func3, Tryd.ntmps3
  go_wp2_with fail
  refine (large_any a u w ha.out hal hu.sl).mono ?_
  rintro e w' ⟨rfl, rfl⟩
  cases hL : largeL a with
  | true =>
    go_wp2_with fail
    refine (two_any w' he).mono ?_
    rintro e w1 ⟨rfl, hb⟩
    go_wp2
    go_ret
    exact ⟨rfl, hb⟩
  | false =>
    obtain ⟨a1, a2⟩ := large_false hL
    go_wp2_with fail
    refine (large_any b v w' hb.out hbl hv.sl).mono ?_
    rintro e w' ⟨rfl, rfl⟩
    cases hL2 : largeL b with
    | true =>
      go_wp2_with fail
      refine (two_any w' he).mono ?_
      rintro e w1 ⟨rfl, hb⟩
      go_wp2
      go_ret
      exact ⟨rfl, hb⟩
    | false =>
      obtain ⟨b1, b2⟩ := large_false hL2
      have hpa := pack_len a (by omega)
      have hpb := pack_len b (by omega)
      have hsh : Hid (∀ t ∈ a ++ b, t.length ≤ 1000000000) := fun t ht => by
        rcases List.mem_append.1 ht with h | h
        · have := mem_tot h; omega
        · have := mem_tot h; omega
      go_wp2_with (first
        | (at_builtin; refine wpList_append_texts rfl _ _ rfl w'.heap.size _ 0 [] rfl (World.ownsRow_nil _ _ _ _) _ a rfl hu (by omega) (Nat.le_refl _) ?_; intro v1 w1 hown1 hb1)
        | (at_builtin; refine wpList_append_texts rfl _ _ rfl w'.heap.size _ (0 + a.length) ([] ++ strs a) rfl hown1 _ b rfl (hv.below hb1 (Nat.le_refl _)) (by omega) hb1.size ?_; intro v2 w2 hown2 hb2)
        | fail)
      have hB2 := hb1.trans hb2
      have hown : w2.ownsRow w'.heap.size 9 1 v2 (a ++ b).length (strs (a ++ b)) := by
        have e1 : (a ++ b).length = 0 + a.length + b.length := by simp
        have e2 : strs (a ++ b) = [] ++ strs a ++ strs b := by simp [strs]
        rw [e1, e2]
        exact hown2
      have hS2 := Sl.of_owns hown
      have hal2 : (a ++ b).length ≤ 4000 := by rw [List.length_append]; omega
      clear hown hown1 hown2
      refine (Pack_any a u w2 (by omega) (by omega) (he.next hB2) (hu.sl.below hB2 (Nat.le_refl _))).mono ?_
      rintro e w3 ⟨rfl, hb3⟩
      have hB3 := hB2.trans (hb3.mono hB2.size)
      have hS3 := hS2.below hb3 (Nat.le_refl _)
      go_wp2_with fail
      refine (Pack_any b v w3 (by omega) (by omega) (he.next hB3) (hv.sl.below hB3 (Nat.le_refl _))).mono ?_
      rintro e w4 ⟨rfl, hb4⟩
      have hB4 := hB3.trans (hb4.mono hB3.size)
      have hS4 := hS3.below hb4 (Nat.le_refl _)
      obtain ⟨p, hp⟩ : ∃ p, packL a = p := ⟨_, rfl⟩
      obtain ⟨q, hq⟩ : ∃ q, packL b = q := ⟨_, rfl⟩
      have hpq : p ++ q = packL (a ++ b) := by rw [← hp, ← hq, pack_append]
      rw [hp] at hpa ⊢
      rw [hq] at hpb ⊢
      clear hp hq
      have hps : (bs p).size = p.length := bs_size p
      have hqs : (bs q).size = q.length := bs_size q
      have hcat : bs p ++ bs q = bs (p ++ q) := by
        apply ByteArray.ext
        simp [bs, ByteArray.data_append]
      obtain ⟨c, hc⟩ : ∃ c, a ++ b = c := ⟨_, rfl⟩
      rw [hc] at hpq hsh hal2 hS4
      have hU := Unpack_any (p ++ q) w4 (by rw [List.length_append]; omega) (he.next hB4)
      rw [hpq, texts_pack c hsh.out, err_pack c hsh.out, ← hpq, ← hcat] at hU
      clear hc hpq hcat hS2 hS3
      go_wp2_with fail
      refine hU.mono ?_
      clear hU
      rintro e w5 ⟨x, rfl, hrow, hb5⟩
      have hB5 := hB4.trans (hb5.mono hB4.size)
      have hS5 := hS4.below hb5 (Nat.le_refl _)
      have hX := Sl.of_owns hrow
      clear hS4 hrow
      go_wp2_with fail
      refine (Texts_any c c x v2 w5 (by omega) (by omega) hX hS5).mono ?_
      have hde : decide (c = c) = true := by simp
      rw [hde]
      rintro e w6 ⟨rfl, hb6⟩
      have hB6 := hB5.trans (hb6.mono hB5.size)
      clear hX hS5
      by_cases hlp : 1000 < p.length
      · go_wp2_with fail
        refine (two_any w6 (he.next hB6)).mono ?_
        rintro e w7 ⟨rfl, hb7⟩
        go_wp2
        go_ret
        exact ⟨rfl, hB6.trans (hb7.mono hB6.size)⟩
      · have hd1 := deep_one p (by omega)
        have hpl1 := pack_len [p] (by simp [tot]; omega)
        have htp : tot [p] = p.length := by simp [tot]
        have hl1 : [p].length = 1 := rfl
        have hB7 := hB6.trans (((Below.refl w6.heap.size w6).alloc (Nat.le_refl _) (.cells #[.string (bs p)] 9)).mono hB6.size)
        have hS7 := Sl_one w6 p
        have hdp : deepL p ≤ p.length := by
          unfold deepL
          split
          · have := levels_le [p]; omega
          · exact Nat.zero_le _
        obtain ⟨y, hy⟩ : ∃ y, packL [p] = y := ⟨_, rfl⟩
        rw [hy] at hd1 hpl1
        have hPk := Pack_any [p] _ _ (by omega) (by rw [hl1]; omega) (he.next hB7) hS7
        rw [hy] at hPk
        clear hy hl1 hS7
        go_wp2_with fail
        refine hPk.mono ?_
        clear hPk
        rintro e w8 ⟨rfl, hb8⟩
        have hB8 := hB7.trans (hb8.mono hB7.size)
        have hDp := Deep_any y w8 (by simp at hpl1; omega) (he.next hB8)
        rw [hd1] at hDp
        clear hd1 hpl1
        go_wp2_with fail
        refine hDp.mono ?_
        clear hDp
        rintro e w9 ⟨rfl, hb9⟩
        have hB9 := hB8.trans (hb9.mono hB8.size)
        go_wp2_with fail
        refine (Deep_any p w9 (by omega) (he.next hB9)).mono ?_
        rintro e w10 ⟨rfl, hb10⟩
        have hB10 := hB9.trans (hb10.mono hB9.size)
        obtain ⟨z, hz⟩ : ∃ z, deepL p = z := ⟨_, rfl⟩
        rw [hz] at hdp ⊢
        clear hz
        have hzz : (((1 + z : Nat) : Int) == 1 + (z : Int)) = true := by simp
        go_wp2_with fail
        refine (two_any w10 (he.next hB10)).mono ?_
        rintro e w11 ⟨rfl, hb11⟩
        go_wp2
        go_ret
        exact ⟨rfl, hB10.trans (hb11.mono hB10.size)⟩
end Go.Proofs.YtnachkdclmcaiabDoor
