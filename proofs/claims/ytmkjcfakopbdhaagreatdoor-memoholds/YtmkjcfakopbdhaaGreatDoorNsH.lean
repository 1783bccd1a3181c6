import Derived.Test.YtmkjcfakopbdhaaGreatDoorNsG
namespace Go.Proofs.YtmkjcfakopbdhaaGreatDoor
open Go.RowKit

/-- Every sign of a numeral is a digit. -/
theorem dec_digit (u : Nat) : ∀ c ∈ Lib.decDigits u, 48 ≤ c.toNat ∧ c.toNat ≤ 57 := by
  induction u using Nat.strongRecOn with
  | _ u ih =>
    intro c hc
    rw [Lib.decDigits] at hc
    have key : ∀ d : Nat, d < 10 → 48 ≤ (UInt8.ofNat (48 + d)).toNat ∧ (UInt8.ofNat (48 + d)).toNat ≤ 57 := by
      intro d hd
      rw [UInt8.toNat_ofNat']
      omega
    split at hc
    · rename_i h
      rw [List.mem_singleton.1 hc]
      exact key u h
    · rcases List.mem_append.1 hc with h | h
      · exact ih (u / 10) (by omega) c h
      · rw [List.mem_singleton.1 h]
        exact key (u % 10) (by omega)
theorem dec_ne_nil (u : Nat) : Lib.decDigits u ≠ [] := by
  intro h
  have := decDigits_len u
  rw [h] at this
  have := Lib.nDigits_pos u
  simp at *
  omega
theorem parse_snoc (c : UInt8) (hc : 48 ≤ c.toNat ∧ c.toNat ≤ 57) : ∀ (l : List UInt8) (acc v : Nat), Lib.parseUint10 acc l = .ok v → v < 1844674407370955162 → v * 10 + (c.toNat - 48) < 18446744073709551616 → Lib.parseUint10 acc (l ++ [c]) = .ok (v * 10 + (c.toNat - 48))
  | [], acc, v, h, h1, h2 => by
    simp only [Lib.parseUint10] at h
    injection h with h
    subst h
    simp only [List.nil_append, Lib.parseUint10]
    rw [if_pos hc, if_neg (by omega), if_neg (by omega)]
  | b :: l, acc, v, h, h1, h2 => by
    simp only [List.cons_append, Lib.parseUint10] at h ⊢
    split at h
    · rename_i hb
      rw [if_pos hb]
      split at h
      · cases h
      · rename_i hr
        rw [if_neg hr]
        split at h
        · cases h
        · rename_i hr2
          rw [if_neg hr2]
          exact parse_snoc c hc l _ v h h1 h2
    · cases h
theorem parse_dec (u : Nat) (h : u < 18446744073709551616) : Lib.parseUint10 0 (Lib.decDigits u) = .ok u := by
  induction u using Nat.strongRecOn with
  | _ u ih =>
    by_cases hu : u < 10
    · rw [Lib.decDigits_one hu]
      simp only [Lib.parseUint10]
      have e : (UInt8.ofNat (48 + u)).toNat = 48 + u := by rw [UInt8.toNat_ofNat']; omega
      rw [e, if_pos (by omega), if_neg (by omega), if_neg (by omega)]
      congr 1
      omega
    · rw [Lib.decDigits, dif_neg hu]
      have e : (UInt8.ofNat (48 + u % 10)).toNat = 48 + u % 10 := by rw [UInt8.toNat_ofNat']; omega
      rw [parse_snoc _ (by rw [e]; omega) _ 0 (u / 10) (ih (u / 10) (by omega) (by omega)) (by omega) (by rw [e]; omega), e]
      congr 1
      omega
theorem mag_dec (u : Nat) (h : u < 18446744073709551616) : Lib.parseMag (Lib.decDigits u) = .ok u := by
  rw [Lib.parseMag, if_neg (dec_ne_nil u), parse_dec u h]
theorem atoi_itoa (n : Int) (h0 : -9223372036854775808 ≤ n) (h1 : n ≤ 9223372036854775807) : Lib.atoiAll (Lib.itoa n) = .ok n := by
  unfold Lib.itoa
  split
  · rename_i hn
    have e := mag_dec n.natAbs (by omega)
    simp only [Lib.atoiAll]
    have e45 : (45 : UInt8).toNat = 45 := rfl
    rw [if_pos (by right; exact e45), e]
    simp only [e45]
    rw [if_neg (by simp), if_neg (by omega)]
    congr 1
    rw [if_pos trivial]
    omega
  · rename_i hn
    have e := mag_dec n.toNat (by omega)
    cases hd : Lib.decDigits n.toNat with
    | nil => exact absurd hd (dec_ne_nil _)
    | cons c r =>
      have hc := dec_digit n.toNat c (by rw [hd]; simp)
      simp only [Lib.atoiAll]
      rw [if_neg (by omega), ← hd, e]
      simp only
      rw [if_neg (by omega), if_neg (by omega)]
      congr 1
      rw [if_neg (by omega)]
      omega
theorem toNum_itoa (n : Int) (h0 : -9223372036854775808 ≤ n) (h1 : n ≤ 9223372036854775807) : toNumL (Lib.itoa n) = some n := by
  unfold toNumL
  rw [atoi_itoa n h0 h1]
  simp
theorem toNum_back {s : List UInt8} {z : Int} (h : toNumL s = some z) : Lib.itoa z = s := by
  unfold toNumL at h
  split at h
  · split at h
    · injection h with h; subst h; assumption
    · cases h
  · cases h
theorem itoa_nat (n : Nat) : Lib.itoa (n : Int) = Lib.decDigits n := by unfold Lib.itoa; rw [if_neg (by omega)]; simp
theorem itoa_nat_len (n k : Nat) (h : n < 10 ^ (k + 1)) : (Lib.itoa (n : Int)).length ≤ k + 1 := by
  rw [itoa_nat, decDigits_len]; exact nDigits_le k n h

theorem index_at {l : List UInt8} {c : UInt8} {k : Nat} (hk : l[k]? = some c) (hn : c ∉ l.take k) : Lib.indexByte l c = k := by
  rcases index_spec c l with ⟨_, hm⟩ | ⟨j, e, hj, hjn⟩
  · exact absurd (List.mem_of_getElem? hk) hm
  · rw [e]
    have h1 : ¬ j < k := fun h => hn (List.mem_of_getElem? (l := l.take k) (i := j) (by rw [List.getElem?_take_of_lt h]; exact hj))
    have h2 : ¬ k < j := fun h => hjn (List.mem_of_getElem? (l := l.take j) (i := k) (by rw [List.getElem?_take_of_lt h]; exact hk))
    congr 1
    omega

/-- A list's text begins with its first text. -/
theorem first_one (d : Nat) (t r : List UInt8) (hd : 0 < d) (ht : t.length < 10 ^ d) (h63 : t.length ≤ 9223372036854775807) : firstL d (one t ++ r) = some (t, r) := by
  have hl : (Lib.itoa (t.length : Int)).length ≤ d := by
    obtain ⟨k, rfl⟩ : ∃ k, d = k + 1 := ⟨d - 1, by omega⟩
    exact itoa_nat_len _ k ht
  have hnum := toNum_itoa (t.length : Int) (by omega) (by omega)
  have hdig : ∀ c ∈ Lib.itoa (t.length : Int), c ≠ 58 := by
    intro c hc
    rw [itoa_nat] at hc
    have := dec_digit _ c hc
    intro h
    rw [h] at this
    exact absurd this.2 (by decide)
  obtain ⟨p, hp⟩ : ∃ p, Lib.itoa (t.length : Int) = p := ⟨_, rfl⟩
  rw [hp] at hl hnum hdig
  have hs : one t ++ r = p ++ (58 :: (t ++ (44 :: r))) := by simp [one, hp]
  rw [hs]
  have hat : (p ++ (58 :: (t ++ (44 :: r))))[p.length]? = some 58 := by simp
  have hlen : (p ++ (58 :: (t ++ (44 :: r)))).length = p.length + t.length + r.length + 2 := by simp; omega
  have hix : Lib.indexByte ((p ++ (58 :: (t ++ (44 :: r)))).take (min (p ++ (58 :: (t ++ (44 :: r)))).length (d + 1))) 58 = p.length := by
    apply index_at
    · rw [List.getElem?_take_of_lt (by rw [hlen]; omega)]
      exact hat
    · rw [List.take_take, Nat.min_eq_left (by rw [hlen]; omega), List.take_left]
      intro h
      exact hdig 58 h rfl
  unfold firstL
  rw [hix]
  simp only [Int.toNat_natCast]
  rw [if_neg (by omega), List.take_left, hnum]
  have hdr : (p ++ (58 :: (t ++ (44 :: r)))).drop (p.length + 1) = t ++ (44 :: r) := by
    rw [← List.drop_drop, List.drop_left]
    rfl
  simp only [Int.toNat_natCast]
  rw [if_neg (by omega), hdr, if_pos (by simp), List.take_left]
  congr 2
  rw [← List.drop_drop, List.drop_left]
  rfl
/-- What begins with a text is that text, as one of a list, and what is behind it. -/
theorem first_back {d : Nat} {s a b : List UInt8} (h : firstL d s = some (a, b)) : s = one a ++ b := by
  unfold firstL at h
  simp only at h
  rcases index_spec 58 (s.take (min s.length (d + 1))) with ⟨e, _⟩ | ⟨k, e, hk, _⟩
  · rw [e, if_pos (by decide)] at h; cases h
  · rw [e, if_neg (by omega), Int.toNat_natCast] at h
    have hk1 : k < min s.length (d + 1) := by
      have := (List.getElem?_eq_some_iff.1 hk).1
      rw [List.length_take] at this
      omega
    rw [List.getElem?_take_of_lt hk1] at hk
    split at h
    · cases h
    · rename_i z hz
      split at h
      · cases h
      · rename_i hz0
        split at h
        · rename_i hc
          injection h with h
          injection h with ha hb
          obtain ⟨m, rfl⟩ := Int.eq_ofNat_of_zero_le (by omega : 0 ≤ z)
          rw [Int.toNat_natCast] at ha hb hc
          have hm := (List.getElem?_eq_some_iff.1 hc).1
          have hal : a.length = m := by rw [← ha, List.length_take]; omega
          have hzz := toNum_back hz
          have e1 : s = s.take k ++ (58 :: s.drop (k + 1)) := by
            obtain ⟨hlt, hke⟩ := List.getElem?_eq_some_iff.1 hk
            conv => lhs; rw [← List.take_append_drop k s, List.drop_eq_getElem_cons hlt, hke]
          have e2 : s.drop (k + 1) = a ++ (44 :: b) := by
            obtain ⟨hlt, hce⟩ := List.getElem?_eq_some_iff.1 hc
            rw [← ha, ← hb]
            conv => lhs; rw [← List.take_append_drop m (s.drop (k + 1)), List.drop_eq_getElem_cons hlt, hce]
          rw [e1, e2, ← hzz, one, hal]
          simp
        · cases h

theorem pack_cons (a : List UInt8) (l : List (List UInt8)) : packL (a :: l) = one a ++ packL l := by simp [packL]
theorem one_ne (a : List UInt8) : one a ≠ [] := by simp [one]
theorem items_pack (l : List (List UInt8)) (h : ∀ t ∈ l, t.length ≤ 1000000000) : items (packL l) = l.map fun t => (t, 0) := by
  induction l with
  | nil => exact items_nil
  | cons a l ih =>
    have ha := h a (by simp)
    rw [pack_cons, items_some (by simp [one]) (first_one 19 a (packL l) (by omega) (by omega) (by omega)), ih (fun t ht => h t (by simp [ht]))]
    rfl
theorem good_pack (l : List (List UInt8)) (h : ∀ t ∈ l, t.length ≤ 1000000000) : good (packL l) := by
  refine good_iff.2 ?_
  intro x hx
  rw [items_pack l h] at hx
  obtain ⟨t, _, rfl⟩ := List.mem_map.1 hx
  rfl
theorem texts_pack (l : List (List UInt8)) (h : ∀ t ∈ l, t.length ≤ 1000000000) : texts (packL l) = l := by
  rw [texts, if_pos (good_pack l h), items_pack l h, List.map_map]
  exact List.map_id' l
theorem err_pack (l : List (List UInt8)) (h : ∀ t ∈ l, t.length ≤ 1000000000) : errOf (packL l) = 0 := by rw [errOf, if_pos (good_pack l h)]
theorem pack_items {s : List UInt8} (h : good s) : packL ((items s).map (·.1)) = s := by
  induction hl : s.length using Nat.strongRecOn generalizing s with
  | _ k ih =>
    by_cases h0 : s = []
    · subst h0; rw [items_nil]; rfl
    · cases hf : firstL 19 s with
      | none =>
        have := good_iff.1 h ([], 4) (by rw [items_none h0 hf]; simp)
        exact absurd this (by decide)
      | some ab =>
        obtain ⟨a, b⟩ := ab
        have hlen := first_len hf
        have hb : good b := by
          refine good_iff.2 ?_
          intro x hx
          exact good_iff.1 h x (by rw [items_some h0 hf]; simp [hx])
        rw [items_some h0 hf, List.map_cons, pack_cons, ih b.length (by omega) hb rfl]
        exact (first_back hf).symm
theorem pack_texts {s : List UInt8} (h : good s) : packL (texts s) = s := by rw [texts, if_pos h]; exact pack_items h
end Go.Proofs.YtmkjcfakopbdhaaGreatDoor
