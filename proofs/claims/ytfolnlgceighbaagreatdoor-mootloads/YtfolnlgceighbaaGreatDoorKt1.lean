/- Configurations as texts, plain: there and back. -/
import Derived.Test.YtfolnlgceighbaaGreatDoorNs1
import Derived.Test.YtfolnlgceighbaaGreatDoorNsN
import Derived.Test.YtfolnlgceighbaaGreatDoorNsG
import Derived.Test.YtfolnlgceighbaaGreatDoorCh2
import Derived.BigCall
import Derived.Test.YtfolnlgceighbaaGreatDoorNsM
namespace Go.Proofs.YtfolnlgceighbaaGreatDoor
section
open Go.RowKit

def numsT (ns : List Int) : List (List UInt8) := ns.map Lib.itoa
def numsL (ns : List Int) : List UInt8 := packL (numsT ns)
def cfgW : List UInt8 := [99, 111, 110, 102, 105, 103]
def cfgTs (num : Int) (ns os : List Int) : List (List UInt8) := [cfgW, Lib.itoa num, numsL ns, numsL os]
/-- A configuration's text. -/
def cfgT (num : Int) (ns os : List Int) : List UInt8 := packL (cfgTs num ns os)
/-- The numbers that texts are. -/
def numsOf : List (List UInt8) → Option (List Int)
  | [] => some []
  | t :: l => if tnE t = 0 then (numsOf l).map (tnV t :: ·) else none
/-- The numbers that a list's text says. -/
def unN (s : List UInt8) : Option (List Int) := if errOf s = 0 then numsOf (texts s) else none
def readB (b c d : List UInt8) : Option (Int × List Int × List Int) :=
  if tnE b = 0 then
    match unN c, unN d with
    | some gs, some os => if os.length = 4 ∧ okC (tnV b) gs os = true then some (tnV b, gs, os) else none
    | _, _ => none
  else none
/-- The configuration that a text says. -/
def readC (s : List UInt8) : Option (Int × List Int × List Int) :=
  match texts s with
  | [a, b, c, d] => if a = cfgW then readB b c d else none
  | _ => none
theorem tn_itoa {n : Int} (h0 : -9223372036854775808 ≤ n) (h1 : n ≤ 9223372036854775807) : tnV (Lib.itoa n) = n ∧ tnE (Lib.itoa n) = 0 := tnV_some (toNum_itoa n h0 h1)
theorem tn_back {s : List UInt8} (h : tnE s = 0) : Lib.itoa (tnV s) = s := by
  unfold tnE at h
  cases e : toNumL s with
  | none => rw [e] at h; simp at h
  | some z => rw [(tnV_some e).1]; exact toNum_back e
theorem tn_cases (s : List UInt8) : tnE s = 0 ∨ tnE s = 4 := by
  unfold tnE
  split
  · exact .inl rfl
  · exact .inr rfl
theorem err_cases (s : List UInt8) : errOf s = 0 ∨ errOf s = 4 := by
  unfold errOf
  split
  · exact .inl rfl
  · exact .inr rfl
theorem good_err {s : List UInt8} : errOf s = 0 ↔ good s := by
  unfold errOf
  by_cases h : good s
  · rw [if_pos h]; exact ⟨fun _ => h, fun _ => rfl⟩
  · rw [if_neg h]; exact ⟨fun e => (by cases e), fun e => absurd e h⟩
theorem texts_bad {s : List UInt8} (h : errOf s ≠ 0) : texts s = [] := by
  unfold texts
  rw [if_neg (fun g => h (good_err.2 g))]
theorem numsOf_T : ∀ (ns : List Int), (∀ n ∈ ns, -9223372036854775808 ≤ n ∧ n ≤ 9223372036854775807) → numsOf (numsT ns) = some ns
  | [], _ => rfl
  | n :: l, h => by
    obtain ⟨h0, h1⟩ := h n (List.mem_cons_self ..)
    obtain ⟨a, b⟩ := tn_itoa h0 h1
    show (if tnE (Lib.itoa n) = 0 then (numsOf (numsT l)).map (tnV (Lib.itoa n) :: ·) else none) = _
    rw [if_pos b, a, numsOf_T l fun m hm => h m (List.mem_cons_of_mem _ hm)]
    rfl
theorem numsOf_back : ∀ (l : List (List UInt8)) (ns : List Int), numsOf l = some ns → numsT ns = l ∧ ns.length = l.length
  | [], ns, h => by
    injection h with h
    subst h
    exact ⟨rfl, rfl⟩
  | t :: l, ns, h => by
    unfold numsOf at h
    by_cases e : tnE t = 0
    · rw [if_pos e] at h
      cases h2 : numsOf l with
      | none => rw [h2] at h; cases h
      | some ms =>
        rw [h2] at h
        injection h with h
        subst h
        obtain ⟨a, b⟩ := numsOf_back l ms h2
        refine ⟨?_, by simp [b]⟩
        show Lib.itoa (tnV t) :: numsT ms = _
        rw [tn_back e, a]
    · rw [if_neg e] at h; cases h
/-- What is not a number among the first ones. -/
theorem numsOf_at {l : List (List UInt8)} {n : Nat} {t : List UInt8} (h : l[n]? = some t) (he : tnE t ≠ 0) : numsOf l = none := by
  induction l generalizing n with
  | nil => cases h
  | cons a l ih =>
    unfold numsOf
    cases n with
    | zero =>
      have : a = t := by simpa using h
      subst this
      rw [if_neg he]
    | succ n =>
      rw [ih (n := n) (by simpa using h)]
      split <;> rfl
theorem numsOf_take {l : List (List UInt8)} {n : Nat} {t : List UInt8} {ns : List Int} (h : l[n]? = some t) (he : tnE t = 0) (hp : numsOf (l.take n) = some ns) : numsOf (l.take (n + 1)) = some (ns ++ [tnV t]) := by
  induction l generalizing n ns with
  | nil => cases h
  | cons a l ih =>
    cases n with
    | zero =>
      have : a = t := by simpa using h
      subst this
      simp only [List.take_zero, numsOf] at hp
      injection hp with hp
      subst hp
      show (if tnE a = 0 then (numsOf ([] : List (List UInt8))).map (tnV a :: ·) else none) = _
      rw [if_pos he]
      rfl
    | succ n =>
      have h' : l[n]? = some t := by simpa using h
      simp only [List.take_succ_cons, numsOf] at hp ⊢
      by_cases e : tnE a = 0
      · rw [if_pos e] at hp ⊢
        cases h2 : numsOf (l.take n) with
        | none => rw [h2] at hp; cases hp
        | some ms =>
          rw [h2] at hp
          injection hp with hp
          subst hp
          rw [ih h' h2]
          rfl
      · rw [if_neg e] at hp; cases hp
theorem numsL_bounds {ns : List Int} (h : ∀ n ∈ ns, 0 ≤ n ∧ n < 100000000000000000000) : (∀ t ∈ numsT ns, t.length ≤ 20) ∧ tot (numsT ns) ≤ 20 * ns.length ∧ (numsT ns).length = ns.length := by
  refine ⟨fun t ht => ?_, ?_, by simp [numsT]⟩
  · simp only [numsT, List.mem_map] at ht
    obtain ⟨n, hn, rfl⟩ := ht
    obtain ⟨a, b⟩ := h n hn
    obtain ⟨m, rfl⟩ := Int.eq_ofNat_of_zero_le a
    exact itoa_len m (by omega)
  · induction ns with
    | nil => simp [numsT, tot]
    | cons n l ih =>
      have := ih fun m hm => h m (List.mem_cons_of_mem _ hm)
      obtain ⟨a, b⟩ := h n (List.mem_cons_self ..)
      obtain ⟨m, rfl⟩ := Int.eq_ofNat_of_zero_le a
      have := itoa_len m (by omega)
      show tot (Lib.itoa (m : Int) :: numsT l) ≤ _
      rw [tot_cons, List.length_cons]
      omega
theorem numsL_len {ns : List Int} (h : ∀ n ∈ ns, 0 ≤ n ∧ n < 100000000000000000000) (hl : ns.length ≤ 1000) : (numsL ns).length ≤ 42 * ns.length := by
  obtain ⟨_, h2, h3⟩ := numsL_bounds h
  have := pack_len (numsT ns) (by omega)
  unfold numsL
  omega
theorem okC_small {num : Int} {ns os : List Int} (h : okC num ns os = true) (h4 : os.length = 4) : 0 ≤ num ∧ num ≤ 1099511627776 ∧ ns.length ≤ 4 ∧ (∀ n ∈ ns, 0 ≤ n ∧ n ≤ 4) ∧ ∀ n ∈ os, 0 ≤ n ∧ n ≤ 4 := by
  obtain ⟨a, b, c, d, rfl⟩ : ∃ a b c d, os = [a, b, c, d] := by
    match os, h4 with
    | [a, b, c, d], _ => exact ⟨a, b, c, d, rfl⟩
  obtain ⟨gs, hg, rfl, o, ho, h5, n0, n1⟩ := okC_all h
  obtain ⟨c1, c2, c3⟩ := conf_of hg
  obtain ⟨c4, c5⟩ := c3 o ho
  refine ⟨n0, n1, by rw [zi_len]; exact c1, fun n hn => ?_, fun n hn => ?_⟩
  · simp only [zi, List.mem_map] at hn
    obtain ⟨x, hx, rfl⟩ := hn
    have := c2 x hx
    omega
  · rw [h5] at hn
    simp only [zi, List.mem_map] at hn
    obtain ⟨x, hx, rfl⟩ := hn
    have := c5 x hx
    omega
theorem cfg_tot {num : Int} {ns os : List Int} (h : okC num ns os = true) (h4 : os.length = 4) : tot (cfgTs num ns os) ≤ 400 ∧ (cfgTs num ns os).length = 4 ∧ ∀ t ∈ cfgTs num ns os, t.length ≤ 400 := by
  obtain ⟨n0, n1, hl, hs, ho⟩ := okC_small h h4
  have a := numsL_len (ns := ns) (fun n hn => by have := hs n hn; omega) (by omega)
  have b := numsL_len (ns := os) (fun n hn => by have := ho n hn; omega) (by omega)
  obtain ⟨m, rfl⟩ := Int.eq_ofNat_of_zero_le n0
  have c := itoa_len m (by omega)
  have d : cfgW.length = 6 := rfl
  refine ⟨?_, rfl, fun t ht => ?_⟩
  · show tot [cfgW, Lib.itoa (m : Int), numsL ns, numsL os] ≤ 400
    rw [tot_cons, tot_cons, tot_cons, tot_cons]
    have : tot [] = 0 := rfl
    omega
  · simp only [cfgTs, List.mem_cons, List.not_mem_nil, or_false] at ht
    rcases ht with rfl | rfl | rfl | rfl <;> omega
theorem unN_numsL {ns : List Int} (h : ∀ n ∈ ns, 0 ≤ n ∧ n ≤ 4) : unN (numsL ns) = some ns := by
  obtain ⟨h1, _, _⟩ := numsL_bounds (ns := ns) fun n hn => by have := h n hn; omega
  have hm : ∀ t ∈ numsT ns, t.length ≤ 1000000000 := fun t ht => Nat.le_trans (h1 t ht) (by decide)
  unfold unN numsL
  rw [if_pos (good_err.2 (good_pack _ hm)), texts_pack _ hm]
  exact numsOf_T ns fun n hn => by have := h n hn; omega
/-- THERE AND BACK. -/
theorem read_cfg {num : Int} {ns os : List Int} (h : okC num ns os = true) (h4 : os.length = 4) : readC (cfgT num ns os) = some (num, ns, os) := by
  obtain ⟨_, _, ht⟩ := cfg_tot h h4
  obtain ⟨n0, n1, hl, hs, ho⟩ := okC_small h h4
  have hm : ∀ t ∈ cfgTs num ns os, t.length ≤ 1000000000 := fun t h => Nat.le_trans (ht t h) (by decide)
  obtain ⟨a, b⟩ := tn_itoa (n := num) (by omega) (by omega)
  unfold readC cfgT
  rw [texts_pack _ hm]
  show (if cfgW = cfgW then readB (Lib.itoa num) (numsL ns) (numsL os) else none) = _
  rw [if_pos rfl]
  unfold readB
  rw [if_pos b, unN_numsL hs, unN_numsL ho, a]
  show (if os.length = 4 ∧ okC num ns os = true then some (num, ns, os) else none) = _
  rw [if_pos ⟨h4, h⟩]
theorem unN_back {s : List UInt8} {ns : List Int} (h : unN s = some ns) : numsL ns = s := by
  unfold unN at h
  by_cases e : errOf s = 0
  · rw [if_pos e] at h
    unfold numsL
    rw [(numsOf_back _ _ h).1]
    exact pack_texts (good_err.1 e)
  · rw [if_neg e] at h; cases h
theorem cfg_read {s : List UInt8} {num : Int} {ns os : List Int} (h : readC s = some (num, ns, os)) : okC num ns os = true ∧ os.length = 4 ∧ cfgT num ns os = s := by
  unfold readC at h
  match hT : texts s, h with
  | [a, b, c, d], h =>
    have hg : errOf s = 0 := by
      by_cases e : errOf s = 0
      · exact e
      · rw [texts_bad e] at hT; cases hT
    replace h : (if a = cfgW then readB b c d else none) = some (num, ns, os) := h
    by_cases ea : a = cfgW
    · rw [if_pos ea] at h
      subst ea
      unfold readB at h
      by_cases eb : tnE b = 0
      · rw [if_pos eb] at h
        cases h1 : unN c with
        | none => rw [h1] at h; cases h
        | some gs =>
          cases h2 : unN d with
          | none => rw [h1, h2] at h; cases h
          | some os' =>
            rw [h1, h2] at h
            replace h : (if os'.length = 4 ∧ okC (tnV b) gs os' = true then some (tnV b, gs, os') else none) = some (num, ns, os) := h
            by_cases e3 : os'.length = 4 ∧ okC (tnV b) gs os' = true
            · rw [if_pos e3] at h
              injection h with h
              injection h with q1 h
              injection h with q2 q3
              subst q1 q2 q3
              refine ⟨e3.2, e3.1, ?_⟩
              unfold cfgT cfgTs
              rw [tn_back eb, unN_back h1, unN_back h2, ← hT]
              exact pack_texts (good_err.1 hg)
            · rw [if_neg e3] at h; cases h
      · rw [if_neg eb] at h; cases h
    · rw [if_neg ea] at h; cases h
end
section
open Go.RowKit
attribute [local go_sem ↓] Go.wp_at_zero Go.wp_at_succ

set_option maxRecDepth 20000 in
set_option maxHeartbeats 1000000 in
theorem rPack_any (l : List (List UInt8)) (v : Value) (w : World) (hl : tot l ≤ 1000000) (hll : l.length ≤ 1000000) (hv : Sl w v l) :
    Calls Tryz.prog 33 #[v] w fun e W' => e = .returned (.string (bs (packL l))) ∧ Below w.heap.size w W' := by
  obtain ⟨va, vc, rfl⟩ := hv.slice
  go_enter Tryz.func33, Tryz.ntmps33
  go_wp2
  go_loopw [3, 8] (fun o i wr => ∃ (k : Nat), o = .string (bs (packL (l.take k))) ∧ i = .int .i64 k ∧ k ≤ l.length ∧ Below w.heap.size w wr)
    (fun _ i _ => l.length - lenOf i)
  case atStart => exact ⟨0, rfl, rfl, Nat.zero_le _, Below.refl _ _⟩
  case round =>
    obtain ⟨k, rfl, rfl, hk, hB⟩ := hrel
    by_cases hk1 : k = l.length
    · subst hk1
      go_wp2
      go_ret
      exact ⟨by rw [List.take_length]; rfl, hB⟩
    · have hk2 : k < l.length := by omega
      obtain ⟨t, ht⟩ : ∃ t, l[k]? = some t := ⟨_, List.getElem?_eq_getElem hk2⟩
      have hsum := sum_take l k t ht
      have htake := pack_take l k t ht
      have hpl : (packL (l.take k)).length ≤ 100000000 := by
        have h1 : tot (l.take k) + t.length ≤ tot l := hsum
        have := pack_len (l.take k) (by omega)
        rw [List.length_take] at this
        omega
      have htl : t.length ≤ 1000000 := by
        have h1 : tot (l.take k) + t.length ≤ tot l := hsum
        omega
      rcases hv.below hB (Nat.le_refl _) with ⟨rfl, _⟩ | ⟨vb, vo, vcap, hve, _, hvc⟩
      · cases ht
      injection hve with hva _ hvcap
      subst hva hvcap
      have hct := hvc k t ht
      clear ht hvc
      have hts : (bs t).size = t.length := bs_size t
      have hit := itoa_len t.length (by omega)
      go_wp2_with fail
      refine (rNum_any t.length wr (by omega) (by omega)).mono ?_
      rintro e w1 ⟨rfl, hb1⟩
      have hB1 := hB.trans (hb1.mono hB.size)
      clear hct
      obtain ⟨p, hp⟩ : ∃ p, Lib.itoa (t.length : Int) = p := ⟨_, rfl⟩
      rw [hp] at hit ⊢
      have hps : (bs p).size = p.length := bs_size p
      obtain ⟨q, hq⟩ : ∃ q, packL (l.take k) = q := ⟨_, rfl⟩
      rw [hq] at hpl htake ⊢
      rw [one, hp] at htake
      have hqs : (bs q).size = q.length := bs_size q
      have htk : Hid (packL (l.take (k + 1)) = q ++ (p ++ ([58] ++ (t ++ [44])))) := htake
      clear hp htake hq
      go_wp2
      go_roundw
      case rel =>
        refine ⟨k + 1, ?_, by rw [Int.natCast_succ], hk2, hB1⟩
        rw [htk.out]
        have e : bs q ++ bs p ++ bs [58] ++ bs t ++ bs [44] = bs (q ++ (p ++ ([58] ++ (t ++ [44])))) := by simp only [bs_append, List.append_assoc]
        exact congrArg Value.string e
      case measure => simp only [lenOf]; omega

end
section
open Go.RowKit
attribute [local go_sem ↓] Go.wp_at_zero Go.wp_at_succ

/-- Of the first ten bytes none before the place k is a colon. -/
theorem index_none {l : List UInt8} {c : UInt8} (h : c ∉ l) : Lib.indexByte l c = -1 := by
  rcases index_spec c l with ⟨e, _⟩ | ⟨k, _, hk, _⟩
  · exact e
  · exact absurd (List.mem_of_getElem? hk) h
theorem first_none {d : Nat} {s : List UInt8} (h : (58 : UInt8) ∉ s.take (d + 1)) : firstL d s = none := by
  have e : s.take (min s.length (d + 1)) = s.take (d + 1) := by
    by_cases hs : d + 1 ≤ s.length
    · rw [Nat.min_eq_right hs]
    · rw [Nat.min_eq_left (by omega), List.take_length, List.take_of_length_le (by omega)]
  rw [firstL, e, index_none h]
  rfl
theorem first_at {d : Nat} {s : List UInt8} {k : Nat} (hk : k ≤ d) (hc : s[k]? = some 58) (hn : (58 : UInt8) ∉ s.take k) :
    firstL d s = match toNumL (s.take k) with
      | none => none
      | some z => if z < 0 then none else if ((s.drop (k + 1))[z.toNat]?) = some 44 then some ((s.drop (k + 1)).take z.toNat, (s.drop (k + 1)).drop (z.toNat + 1)) else none := by
  have hlt : k < s.length := (List.getElem?_eq_some_iff.1 hc).1
  have e : s.take (min s.length (d + 1)) = s.take (d + 1) := by
    by_cases hs : d + 1 ≤ s.length
    · rw [Nat.min_eq_right hs]
    · rw [Nat.min_eq_left (by omega), List.take_length, List.take_of_length_le (by omega)]
  have hi : Lib.indexByte (s.take (d + 1)) 58 = k := by
    refine index_at ?_ ?_
    · rw [List.getElem?_take_of_lt (by omega)]; exact hc
    · rw [List.take_take, Nat.min_eq_left (by omega)]; exact hn
  rw [firstL, e, hi]
  simp only [Int.toNat_natCast]
  rw [if_neg (by omega)]
  cases toNumL (s.take k) <;> rfl
theorem not_take_succ {s : List UInt8} {k : Nat} {c b : UInt8} (hn : c ∉ s.take k) (hb : s[k]? = some b) (hne : b ≠ c) : c ∉ s.take (k + 1) := by
  rw [List.take_add_one, hb, List.mem_append]
  rintro (h | h)
  · exact hn h
  · simp at h; exact hne h.symm

set_option maxRecDepth 20000 in
set_option maxHeartbeats 2000000 in
theorem rTake_any (s : ByteArray) (w : World) (hs : s.size ≤ 140737488355328) :
    Calls Tryz.prog 62 #[.string s] w fun e w' => e = .returned (firstV (firstL 9 s.data.toList)) ∧ Below w.heap.size w w' := by
  obtain ⟨R, hR⟩ : ∃ R, firstL 9 s.data.toList = R := ⟨_, rfl⟩
  rw [hR]
  go_enter Tryz.func62, Tryz.ntmps62
  go_wp2
  go_loopw [5] (fun i wr => ∃ (k : Nat), i = .int .i64 k ∧ k ≤ s.size ∧ k ≤ 10 ∧ Hid ((58 : UInt8) ∉ s.data.toList.take k) ∧ Below w.heap.size w wr)
    (fun i _ => 10 - numOf i)
  case atStart => exact ⟨0, rfl, Nat.zero_le _, by omega, (show (58 : UInt8) ∉ s.data.toList.take 0 by simp), Below.refl _ _⟩
  case round =>
    obtain ⟨k, rfl, hk, hk10, hn, hB⟩ := hrel
    by_cases hk1 : k = s.size
    · subst hk1
      have e : R = none := by
        rw [← hR]
        refine first_none fun h => hn.out ?_
        rw [← size_list, List.take_length]
        exact List.mem_of_mem_take h
      subst e
      go_wp2
      go_ret3
      exact ⟨rfl, hB⟩
    · have hk2 : k < s.size := by omega
      by_cases hk3 : k = 10
      · subst hk3
        have e : R = none := by rw [← hR]; exact first_none hn.out
        subst e
        go_wp2
        go_ret3
        exact ⟨rfl, hB⟩
      · have hat := byte_at s k hk2
        by_cases hc : s[k] = 58
        · have hf := first_at (d := 9) (by omega) (by rw [hat, hc]) hn.out
          rw [hR] at hf
          have hc1 : ((s[k].toNat : Int) != 58) = false := by rw [hc]; rfl
          clear hn hat hc hR
          have e1 : (s.extract 0 k).data.toList = s.data.toList.take k := by rw [extract_list, List.drop_zero]
          have hex : (s.extract 0 k).size ≤ 281474976710656 := by rw [ByteArray.size_extract]; omega
          cases hz : toNumL (s.data.toList.take k) with
          | none =>
            rw [hz] at hf
            subst hf
            have hN := rToNum_any (s.extract 0 k) wr hex
            rw [e1, (tnV_none hz).1, (tnV_none hz).2] at hN
            clear hz e1
            go_wp2_with fail
            refine hN.mono ?_
            rintro e w2 ⟨rfl, hb2⟩
            have hB2 := hB.trans (hb2.mono hB.size)
            go_wp2
            go_ret3
            exact ⟨rfl, hB2⟩
          | some z =>
            rw [hz] at hf
            simp only at hf
            obtain ⟨z0, z1⟩ := toNum_range hz
            have hN := rToNum_any (s.extract 0 k) wr hex
            rw [e1, (tnV_some hz).1, (tnV_some hz).2] at hN
            clear hz e1 hex
            by_cases hz0 : z < 0
            · rw [if_pos hz0] at hf
              subst hf
              go_wp2_with fail
              refine hN.mono ?_
              rintro e w2 ⟨rfl, hb2⟩
              have hB2 := hB.trans (hb2.mono hB.size)
              go_wp2
              go_ret3
              exact ⟨rfl, hB2⟩
            · rw [if_neg hz0] at hf
              obtain ⟨m, rfl⟩ := Int.eq_ofNat_of_zero_le (by omega : 0 ≤ z)
              rw [Int.toNat_natCast, List.getElem?_drop] at hf
              by_cases hm : m < s.size - (k + 1)
              · have hat2 := byte_at s (k + 1 + m) (by omega)
                rw [hat2] at hf
                go_wp2_with fail
                refine hN.mono ?_
                rintro e w2 ⟨rfl, hb2⟩
                have hB2 := hB.trans (hb2.mono hB.size)
                clear hN
                by_cases h44 : s[k + 1 + m] = 44
                · rw [h44, if_pos rfl] at hf
                  have h44b : ((s[k + 1 + m].toNat : Int) != 44) = false := by rw [h44]; rfl
                  clear hat2 h44
                  subst hf
                  go_wp2
                  go_region
                  go_wp2
                  go_ret3
                  refine ⟨?_, hB2.drew⟩
                  have e3 : s.extract (k + 1) (k + 1 + m) = bs ((s.data.toList.drop (k + 1)).take m) := bs_of _ _ (by rw [extract_list, List.take_drop])
                  have e4 : s.extract (k + 2 + m) s.size = bs ((s.data.toList.drop (k + 1)).drop (m + 1)) := bs_of _ _ (by rw [extract_list, ← size_list, List.take_length, List.drop_drop]; congr 1; omega)
                  rw [firstV, ← e3, ← e4]
                  rfl
                · rw [if_neg (by intro h; injection h with h; exact h44 h)] at hf
                  have h44b : ((s[k + 1 + m].toNat : Int) != 44) = true := by
                    rw [← Bool.not_eq_false]
                    exact fun h => h44 (byte_44 _ h)
                  clear hat2 h44
                  subst hf
                  go_wp2
                  go_ret3
                  exact ⟨rfl, hB2⟩
              · rw [List.getElem?_eq_none (by rw [size_list]; omega), if_neg (by simp)] at hf
                subst hf
                go_wp2_with fail
                refine hN.mono ?_
                rintro e w2 ⟨rfl, hb2⟩
                have hB2 := hB.trans (hb2.mono hB.size)
                clear hN
                go_wp2
                go_ret3
                exact ⟨rfl, hB2⟩
        · have hn2 := not_take_succ hn.out hat hc
          have hn3 : Hid ((58 : UInt8) ∉ s.data.toList.take (k + 1)) := hn2
          have hc1 : ((s[k].toNat : Int) != 58) = true := by
            rw [← Bool.not_eq_false]
            intro h
            apply hc
            have : (s[k].toNat : Int) = 58 := by simpa using h
            apply UInt8.toNat_inj.1
            show s[k].toNat = 58
            omega
          clear hn hn2 hat hc
          go_wp2
          go_roundw
          case rel => exact ⟨k + 1, by rw [Int.natCast_succ], by omega, by omega, hn3, hB⟩
          case measure => simp only [numOf]; omega

end
section
open Go.RowKit
attribute [local go_sem ↓] Go.wp_at_zero Go.wp_at_succ

def strNum : Value → Nat
  | .string s => s.size
  | _ => 0
theorem good_split {s r : List UInt8} {l : List (List UInt8)} (h : items s = l.map (fun t => (t, (0 : Int))) ++ items r) : (good s ↔ good r) ∧ (good s → texts s = l ++ texts r) := by
  have hg : good s ↔ good r := by
    rw [good_iff, good_iff, h]
    constructor
    · intro hh x hx
      exact hh x (List.mem_append_right _ hx)
    · intro hh x hx
      rcases List.mem_append.1 hx with h1 | h1
      · obtain ⟨t, _, rfl⟩ := List.mem_map.1 h1; rfl
      · exact hh x h1
  refine ⟨hg, fun hs => ?_⟩
  rw [texts, if_pos hs, texts, if_pos (hg.1 hs), h, List.map_append, List.map_map]
  congr 1
  exact List.map_id' l
theorem good_nil : good [] := by rw [good_iff, items_nil]; simp
theorem texts_nil : texts [] = [] := by rw [texts, if_pos good_nil, items_nil]; rfl
theorem bad_none {s : List UInt8} (h0 : s ≠ []) (h : firstL 19 s = none) : ¬ good s := by
  rw [good_iff, items_none h0 h]
  simp

set_option maxRecDepth 20000 in
set_option maxHeartbeats 2000000 in
theorem rUnpack_any (s : List UInt8) (w : World) (hs : s.length ≤ 4000000) :
    Calls Tryz.prog 39 #[.string (bs s)] w fun e W' => ∃ v, e = .returned (.tuple #[v, .int .i64 (errOf s)]) ∧ W'.ownsRow w.heap.size 9 1 v (texts s).length (strs (texts s)) ∧ Below w.heap.size w W' := by
  obtain ⟨i0, hi, hz0, hz1, hz2⟩ := info_parts Tryz.info9
  obtain ⟨E, hE⟩ : ∃ E, errOf s = E := ⟨_, rfl⟩
  obtain ⟨T, hT⟩ : ∃ T, texts s = T := ⟨_, rfl⟩
  rw [hE, hT]
  go_enter Tryz.func39, Tryz.ntmps39
  go_wp2
  go_loopw [4, 5] (fun o r wr => ∃ (l : List (List UInt8)) (q : List UInt8), r = .string (bs q) ∧ Hid (items s = l.map (fun t => (t, (0 : Int))) ++ items q) ∧ l.length + q.length ≤ s.length ∧ wr.ownsRow w.heap.size 9 1 o l.length (strs l) ∧ Below w.heap.size w wr)
    (fun _ r _ => strNum r)
  case atStart => exact ⟨[], s, rfl, (show items s = [].map (fun t => (t, (0 : Int))) ++ items s by simp), by simp, World.ownsRow_nil _ _ _ _, Below.refl _ _⟩
  case round =>
    obtain ⟨l, q, rfl, hit, hlen, hown, hB⟩ := hrel
    by_cases hq0 : q = []
    · subst hq0
      obtain ⟨g1, g2⟩ := good_split hit.out
      have hgs := g1.2 good_nil
      have e1 : E = 0 := by rw [← hE, errOf, if_pos hgs]
      have e2 : T = l := by rw [← hT, g2 hgs, texts_nil, List.append_nil]
      clear hE hT hit g1 g2 hgs
      subst e1 e2
      obtain ⟨va, vc, rfl⟩ := owns_sliceN hown
      have hne : (bs []).toList.isEmpty = true := by rw [ByteArray.toList_eq]; rfl
      go_wp2
      go_ret2
      exact ⟨_, rfl, hown, hB⟩
    · have hne : (bs q).toList.isEmpty = false := by
        rw [ByteArray.toList_eq, bs_list]
        cases q with
        | nil => exact absurd rfl hq0
        | cons a q => rfl
      have hTk := rTake_any (bs q) wr (by rw [bs_size]; omega)
      rw [bs_list, first_9_19 (by omega)] at hTk
      cases hf : firstL 19 q with
      | none =>
        rw [hf] at hTk
        obtain ⟨g1, g2⟩ := good_split hit.out
        have hgs : ¬ good s := fun h => bad_none hq0 hf (g1.1 h)
        have e1 : E = 4 := by rw [← hE, errOf, if_neg hgs]
        have e2 : T = [] := by rw [← hT, texts, if_neg hgs]
        clear hE hT hit g1 g2 hgs hf
        subst e1 e2
        go_wp2_with fail
        refine hTk.mono ?_
        rw [firstV]
        rintro e w1 ⟨rfl, hb1⟩
        have hB1 := hB.trans (hb1.mono hB.size)
        go_wp2
        go_ret2
        exact ⟨_, rfl, World.ownsRow_nil _ _ _ _, hB1⟩
      | some ab =>
        obtain ⟨a, b⟩ := ab
        rw [hf] at hTk
        have hfl := first_len hf
        have hit2 : Hid (items s = (l ++ [a]).map (fun t => (t, (0 : Int))) ++ items b) := by
          show items s = (l ++ [a]).map (fun t => (t, (0 : Int))) ++ items b
          rw [hit.out, items_some hq0 hf, List.map_append, List.append_assoc]
          rfl
        clear hit hf
        have hml : l.length + 1 ≤ maxLen := by unfold maxLen; omega
        go_wp2_with fail
        refine hTk.mono ?_
        rw [firstV]
        rintro e w1 ⟨rfl, hb1⟩
        have hB1 := hB.trans (hb1.mono hB.size)
        have hown1 := own_kept hown hb1
        have hsz1 := hB1.size
        have hsl : strs (l ++ [a]) = strs l ++ [.string (bs a)] := by simp [strs]
        clear hown hTk
        go_wp2_with (first
          | (at_builtin; refine wpList_append_own _ rfl _ _ 73 rfl w.heap.size 9 i0 (.string ⟨#[]⟩) 1 16 Tryz.underlying73 hi hz0 hz1 hz2 rfl (by decide) _ _ _ rfl (hown1.alloc _) ⟨w1.heap.size, 0, none⟩ 1 1 [.string (bs a)] rfl rfl (cell_one_new _ _ _) (by simp [Value.oneCell']) hml (by omega) (by simp; omega) ?_; intro v' w3 hown' hgrow3 hnil3))
        have hB3 := (hB1.alloc hsz1 (.cells #[.string (bs a)] 9)).grown hgrow3 (by simp; omega) (fun q hq => (hown1.lt q hq).1)
        go_roundw
        case rel => exact ⟨l ++ [a], b, rfl, hit2, by rw [List.length_append]; show l.length + 1 + b.length ≤ _; omega, by rw [hsl, List.length_append]; exact hown', hB3⟩
        case measure => simp only [strNum, bs_size]; omega

end
section
open Go.RowKit
attribute [local go_sem ↓] Go.wp_at_zero Go.wp_at_succ

set_option maxRecDepth 20000 in
set_option maxHeartbeats 1000000 in
theorem cpack_any (ns : List Int) (gv : Value) (w : World) (hu : Il w gv ns) (hs : ∀ n ∈ ns, 0 ≤ n ∧ n ≤ 4) (hl : ns.length ≤ 4) (he : EnvP w) :
    Calls Tryz.prog 32 #[gv] w fun e W' => e = .returned (.string (bs (numsL ns))) ∧ Below w.heap.size w W' := by
  obtain ⟨i0, hi, hz0, hz1, hz2⟩ := info_parts Tryz.info9
  have HP : Hid (∀ W u, Below w.heap.size w W → W.ownsRow w.heap.size 9 1 u ns.length (strs (numsT ns)) → Calls Tryz.prog 30 #[u] W fun e W' => e = .returned (.string (bs (numsL ns))) ∧ Below w.heap.size w W') := fun W u hb ho => by
    obtain ⟨_, t1, t2⟩ := numsL_bounds (ns := ns) fun n hn => by have := hs n hn; omega
    rw [← t2] at ho
    refine (Pack_any (numsT ns) u W (by omega) (by omega) (he.next hb) (Sl.of_owns ho)).mono ?_
    rintro e W' ⟨rfl, h1⟩
    exact ⟨rfl, hb.trans (h1.mono hb.size)⟩
  have HE : Hid (∀ W, Below w.heap.size w W → EnvP W) := fun W hb => he.next hb
  have HU : Hid (∀ W, Below w.heap.size w W → Il W gv ns) := fun W hb => hu.next hb
  have HS : Hid (∀ n ∈ ns, 0 ≤ n ∧ n ≤ 4) := hs
  obtain ⟨Z, hZ⟩ : ∃ Z, numsL ns = Z := ⟨_, rfl⟩
  rw [hZ] at HP
  rw [hZ]
  obtain ⟨pa, pc, rfl⟩ := hu.slice
  clear hu hs hZ he
  go_enter Tryz.func32, Tryz.ntmps32
  go_wp2_with fail
  go_loopg [3, 8] ns.length (fun gk u i wr => ∃ k : Nat, k + gk = ns.length ∧ i = .int .i64 k ∧ wr.ownsRow w.heap.size 9 1 u k (strs (numsT (ns.take k))) ∧ Below w.heap.size w wr)
  case atStart => exact ⟨0, by omega, rfl, World.ownsRow_nil _ _ _ _, Below.refl _ _⟩
  case round =>
    obtain ⟨k, hk, rfl, hown, hB⟩ := hrel
    by_cases hlt : k < ns.length
    · obtain ⟨n, hn⟩ : ∃ n, ns[k]? = some n := ⟨_, List.getElem?_eq_getElem hlt⟩
      have hn4 := HS.out n (List.mem_of_getElem? hn)
      obtain ⟨b1, o1, hpa, _, q1⟩ := (HU.out _ hB).at hn
      subst hpa
      have hN := Num_any n wr (by omega) (by omega) (HE.out _ hB)
      have HT : Hid (strs (numsT (ns.take (k + 1))) = strs (numsT (ns.take k)) ++ [.string (bs (Lib.itoa n))]) := by
        show _ = _
        rw [List.take_add_one, hn]
        simp [numsT, strs]
      have k0 : (0 : Int) ≤ (k : Int) := by omega
      have k1 : (k : Int) < (ns.length : Int) := by omega
      have hml : k + 1 ≤ maxLen := by unfold maxLen; omega
      have hkb : (k + 1) * 16 ≤ 140737488355328 := by omega
      obtain ⟨ua, uc, rfl⟩ := owns_slice hown
      obtain ⟨R, hR⟩ : ∃ R, strs (numsT (ns.take k)) = R := ⟨_, rfl⟩
      rw [hR] at hown HT
      obtain ⟨I, hI⟩ : ∃ I, Lib.itoa n = I := ⟨_, rfl⟩
      rw [hI] at hN HT
      have HO : Hid (wr.ownsRow w.heap.size 9 1 (.slice ua k uc) k R) := hown
      have HB : Hid (Below w.heap.size w wr) := hB
      clear hn hn4 hI hR hown hB HP
      go_wp2_with (first
        | (go_at_call 31; refine hN.mono ?_; clear hN; rintro e w1 ⟨rfl, hb1⟩; have hown := own_kept HO.out hb1; have hB := HB.out.trans (hb1.mono HB.out.size); clear hb1)
        | (at_builtin; refine wpList_append_own _ rfl _ _ 73 rfl w.heap.size 9 i0 (.string ⟨#[]⟩) 1 16 Tryz.underlying73 hi hz0 hz1 hz2 rfl (by decide) (.slice ua k uc) k R rfl (hown.alloc _) _ 1 1 [.string (bs I)] rfl rfl (World.news_of_block (heap_alloc_new _ _)) (by simp [Value.oneCell']) hml hkb (by have := hB.size; simp; omega) ?_; intro v' w' g1 g2 _))
      have hB3 := (hB.alloc hB.size (.cells #[.string (bs I)] 9)).grown g2 (by have := hB.size; simp; omega) (fun q hq => (hown.lt q hq).1)
      go_roundg (ns.length - (k + 1))
      case measure => omega
      case rel => exact ⟨k + 1, by omega, by go_num, by rw [HT.out]; exact g1, hB3⟩
    · have hkl : k = ns.length := by omega
      subst hkl
      obtain ⟨ua, uc, rfl⟩ := owns_slice hown
      rw [List.take_length] at hown
      have hP := HP.out _ _ hB hown
      clear hown HP hB
      go_wp2_with (go_at_call 30; refine hP.mono ?_; rintro e w1 ⟨rfl, hb1⟩)
      go_ret
      exact ⟨rfl, hb1⟩
set_option maxRecDepth 20000 in
set_option maxHeartbeats 1000000 in
theorem rlist_any (ns : List Int) (gv : Value) (w : World) (hu : Il w gv ns) (hs : ∀ n ∈ ns, 0 ≤ n ∧ n ≤ 4) (hl : ns.length ≤ 4) :
    Calls Tryz.prog 35 #[gv] w fun e W' => e = .returned (.string (bs (numsL ns))) ∧ Below w.heap.size w W' := by
  obtain ⟨i0, hi, hz0, hz1, hz2⟩ := info_parts Tryz.info9
  have HP : Hid (∀ W u, Below w.heap.size w W → W.ownsRow w.heap.size 9 1 u ns.length (strs (numsT ns)) → Calls Tryz.prog 33 #[u] W fun e W' => e = .returned (.string (bs (numsL ns))) ∧ Below w.heap.size w W') := fun W u hb ho => by
    obtain ⟨_, t1, t2⟩ := numsL_bounds (ns := ns) fun n hn => by have := hs n hn; omega
    rw [← t2] at ho
    refine (rPack_any (numsT ns) u W (by omega) (by omega) (Sl.of_owns ho)).mono ?_
    rintro e W' ⟨rfl, h1⟩
    exact ⟨rfl, hb.trans (h1.mono hb.size)⟩
  
  have HU : Hid (∀ W, Below w.heap.size w W → Il W gv ns) := fun W hb => hu.next hb
  have HS : Hid (∀ n ∈ ns, 0 ≤ n ∧ n ≤ 4) := hs
  obtain ⟨Z, hZ⟩ : ∃ Z, numsL ns = Z := ⟨_, rfl⟩
  rw [hZ] at HP
  rw [hZ]
  obtain ⟨pa, pc, rfl⟩ := hu.slice
  clear hu hs hZ
  go_enter Tryz.func35, Tryz.ntmps35
  go_wp2_with fail
  go_loopg [3, 8] ns.length (fun gk u i wr => ∃ k : Nat, k + gk = ns.length ∧ i = .int .i64 k ∧ wr.ownsRow w.heap.size 9 1 u k (strs (numsT (ns.take k))) ∧ Below w.heap.size w wr)
  case atStart => exact ⟨0, by omega, rfl, World.ownsRow_nil _ _ _ _, Below.refl _ _⟩
  case round =>
    obtain ⟨k, hk, rfl, hown, hB⟩ := hrel
    by_cases hlt : k < ns.length
    · obtain ⟨n, hn⟩ : ∃ n, ns[k]? = some n := ⟨_, List.getElem?_eq_getElem hlt⟩
      have hn4 := HS.out n (List.mem_of_getElem? hn)
      obtain ⟨b1, o1, hpa, _, q1⟩ := (HU.out _ hB).at hn
      subst hpa
      have hN := rNum_any n wr (by omega) (by omega)
      have HT : Hid (strs (numsT (ns.take (k + 1))) = strs (numsT (ns.take k)) ++ [.string (bs (Lib.itoa n))]) := by
        show _ = _
        rw [List.take_add_one, hn]
        simp [numsT, strs]
      have k0 : (0 : Int) ≤ (k : Int) := by omega
      have k1 : (k : Int) < (ns.length : Int) := by omega
      have hml : k + 1 ≤ maxLen := by unfold maxLen; omega
      have hkb : (k + 1) * 16 ≤ 140737488355328 := by omega
      obtain ⟨ua, uc, rfl⟩ := owns_slice hown
      obtain ⟨R, hR⟩ : ∃ R, strs (numsT (ns.take k)) = R := ⟨_, rfl⟩
      rw [hR] at hown HT
      obtain ⟨I, hI⟩ : ∃ I, Lib.itoa n = I := ⟨_, rfl⟩
      rw [hI] at hN HT
      have HO : Hid (wr.ownsRow w.heap.size 9 1 (.slice ua k uc) k R) := hown
      have HB : Hid (Below w.heap.size w wr) := hB
      clear hn hn4 hI hR hown hB HP
      go_wp2_with (first
        | (go_at_call 34; refine hN.mono ?_; clear hN; rintro e w1 ⟨rfl, hb1⟩; have hown := own_kept HO.out hb1; have hB := HB.out.trans (hb1.mono HB.out.size); clear hb1)
        | (at_builtin; refine wpList_append_own _ rfl _ _ 73 rfl w.heap.size 9 i0 (.string ⟨#[]⟩) 1 16 Tryz.underlying73 hi hz0 hz1 hz2 rfl (by decide) (.slice ua k uc) k R rfl (hown.alloc _) _ 1 1 [.string (bs I)] rfl rfl (World.news_of_block (heap_alloc_new _ _)) (by simp [Value.oneCell']) hml hkb (by have := hB.size; simp; omega) ?_; intro v' w' g1 g2 _))
      have hB3 := (hB.alloc hB.size (.cells #[.string (bs I)] 9)).grown g2 (by have := hB.size; simp; omega) (fun q hq => (hown.lt q hq).1)
      go_roundg (ns.length - (k + 1))
      case measure => omega
      case rel => exact ⟨k + 1, by omega, by go_num, by rw [HT.out]; exact g1, hB3⟩
    · have hkl : k = ns.length := by omega
      subst hkl
      obtain ⟨ua, uc, rfl⟩ := owns_slice hown
      rw [List.take_length] at hown
      have hP := HP.out _ _ hB hown
      clear hown HP hB
      go_wp2_with (go_at_call 33; refine hP.mono ?_; rintro e w1 ⟨rfl, hb1⟩)
      go_ret
      exact ⟨rfl, hb1⟩
theorem Sl_at {w : World} {a : Option Addr} {c : Nat} {l : List (List UInt8)} (h : Sl w (.slice a l.length c) l) {i : Nat} {t : List UInt8} (hi : l[i]? = some t) : ∃ b o, a = some ⟨b, o, none⟩ ∧ w.cell? ⟨b, o + i, none⟩ = some (.string (bs t)) := by
  rcases h with ⟨rfl, _⟩ | ⟨b, o, cap, hv, hlt, h⟩
  · cases hi
  · injection hv with h1 _ _
    exact ⟨b, o, h1, h i t hi⟩
theorem mem_pack_len {l : List (List UInt8)} {t : List UInt8} (h : t ∈ l) : t.length ≤ (packL l).length := by
  induction l with
  | nil => cases h
  | cons a l ih =>
    have e : packL (a :: l) = one a ++ packL l := by simp [packL]
    rw [e, List.length_append]
    rcases List.mem_cons.1 h with rfl | h
    · have : t.length ≤ (one t).length := by simp only [one, List.length_append, List.length_cons]; omega
      omega
    · have := ih h
      omega
/-- What unpack leaves. -/
def UnPost (s : List UInt8) (w : World) (v : Value) (E : Int) (W' : World) : Prop :=
  match unN s with
  | some ns => E = 0 ∧ Il W' v ns ∧ ns.length ≤ s.length ∧ ∀ k, v.ownBlock = some k → w.heap.size ≤ k ∧ k < W'.heap.size
  | none => E = 4 ∧ v = .slice none 0 0
theorem texts_count (s : List UInt8) : (texts s).length ≤ s.length := by
  unfold texts
  split
  · rw [List.length_map]; exact items_count
  · simp
set_option maxRecDepth 20000 in
set_option maxHeartbeats 2000000 in
theorem cunpack_any (s : List UInt8) (w : World) (hs : s.length ≤ 1000000) (he : Env w) :
    Calls Tryz.prog 38 #[.string (bs s)] w fun e W' => ∃ v E, e = .returned (.tuple #[v, .int .i64 E]) ∧ UnPost s w v E W' ∧ Below w.heap.size w W' := by
  have hU := Unpack_any s w hs he
  rcases err_cases s with e0 | e0
  · have HUN : Hid (unN s = numsOf (texts s)) := by show _ = _; unfold unN; rw [if_pos e0]
    have HTL : Hid ((texts s).length ≤ s.length) := texts_count s
    rw [e0] at hU
    have HTS : Hid (∀ t ∈ texts s, t.length ≤ s.length) := fun t ht => by
      have h1 := pack_texts (good_err.1 e0)
      have h2 := mem_pack_len ht
      rw [h1] at h2
      exact h2
    have HPS : Hid (∀ v E W', (∀ ns, numsOf (texts s) = some ns → E = 0 ∧ Il W' v ns ∧ ns.length ≤ s.length ∧ ∀ k, v.ownBlock = some k → w.heap.size ≤ k ∧ k < W'.heap.size) → (numsOf (texts s) = none → E = 4 ∧ v = .slice none 0 0) → UnPost s w v E W') := fun v E W' h1 h2 => by
      unfold UnPost
      rw [HUN.out]
      cases h : numsOf (texts s) with
      | none => exact h2 h
      | some ns => exact h1 ns h
    obtain ⟨L, hL⟩ : ∃ L, texts s = L := ⟨_, rfl⟩
    rw [hL] at hU HUN HTL HTS HPS
    obtain ⟨i0, hi, hz0, hz1, hz2⟩ := info_parts Tryz.info3
    have HE : Hid (∀ W, Below w.heap.size w W → Env W) := fun W hb => he.next hb
    have HSZ : Hid (s.length ≤ 1000000) := hs
    have hl : L.length ≤ 1000000 := Nat.le_trans HTL.out hs
    clear he hs hL e0
    go_enter Tryz.func38, Tryz.ntmps38
    go_wp2_with (first
      | (go_at_call 36; refine hU.mono ?_; clear hU; rintro e w1 ⟨v, rfl, hown, hb1⟩; obtain ⟨va, vc, rfl⟩ := owns_slice hown; have HO1 : Hid (w1.ownsRow w.heap.size 9 1 (.slice va L.length vc) L.length (strs L)) := hown; have HB1 : Hid (Below w.heap.size w w1) := hb1; clear hown hb1))
    go_loopg [6, 21] L.length (fun gk u i wr => ∃ (k : Nat) (ns : List Int), k + gk = L.length ∧ i = .int .i64 k ∧ numsOf (L.take k) = some ns ∧ wr.ownsRow w1.heap.size 3 1 u k (zcs ns) ∧ ns.length = k ∧ Below w1.heap.size w1 wr)
    case atStart => exact ⟨0, [], by omega, rfl, rfl, World.ownsRow_nil _ _ _ _, rfl, Below.refl _ _⟩
    case round =>
      obtain ⟨k, ns, hk, rfl, hns, hown, hnl, hB⟩ := hrel
      by_cases hlt : k < L.length
      · obtain ⟨t, ht⟩ : ∃ t, L[k]? = some t := ⟨_, List.getElem?_eq_getElem hlt⟩
        have hts := HTS.out t (List.mem_of_getElem? ht)
        obtain ⟨b1, o1, hva, q1⟩ := Sl_at ((Sl.of_owns HO1.out).below hB (Nat.le_refl _)) ht
        subst hva
        have hN := ToNum_any (bs t) wr (by show t.toArray.size ≤ _; rw [List.size_toArray]; have := HSZ.out; omega) (HE.out _ (HB1.out.trans (hB.mono HB1.out.size)))
        rw [show (bs t).data.toList = t from rfl] at hN
        have k0 : (0 : Int) ≤ (k : Int) := by omega
        have k1 : (k : Int) < (L.length : Int) := by omega
        rcases tn_cases t with et | et
        · have HT : Hid (numsOf (L.take (k + 1)) = some (ns ++ [tnV t])) := numsOf_take ht et hns
          rw [et] at hN
          obtain ⟨X, hX⟩ : ∃ X, tnV t = X := ⟨_, rfl⟩
          rw [hX] at hN HT
          have hml : k + 1 ≤ maxLen := by unfold maxLen; omega
          have hkb : (k + 1) * 8 ≤ 140737488355328 := by omega
          obtain ⟨ua, uc, rfl⟩ := owns_slice hown
          have HO : Hid (wr.ownsRow w1.heap.size 3 1 (.slice ua k uc) k (zcs ns) ∧ ns.length = k) := ⟨hown, hnl⟩
          have HB : Hid (Below w1.heap.size w1 wr) := hB
          clear ht hts et hX hns hown hB hnl HPS
          go_wp2_with (first
            | (go_at_call 37; refine hN.mono ?_; clear hN; rintro e w2 ⟨rfl, hb2⟩; have hown := own_kept HO.out.1 hb2; have hB := HB.out.trans (hb2.mono HB.out.size); clear hb2)
            | (at_builtin; refine wpList_append_own _ rfl _ _ 22 rfl w1.heap.size 3 i0 (.int .i64 0) 1 8 Tryz.underlying22 hi hz0 hz1 hz2 rfl (by decide) (.slice ua k uc) k (zcs ns) rfl (hown.alloc _) _ 1 1 [.int .i64 X] rfl rfl (World.news_of_block (heap_alloc_new _ _)) (by simp [Value.oneCell']) hml hkb (by have := hB.size; simp; omega) ?_; intro v' w' g1 g2 _))
          have hB3 := (hB.alloc hB.size (.cells #[.int .i64 X] 3)).grown g2 (by have := hB.size; simp; omega) (fun q hq => (hown.lt q hq).1)
          go_roundg (L.length - (k + 1))
          case measure => omega
          case rel => exact ⟨k + 1, ns ++ [X], by omega, by go_num, HT.out, by rw [zcs_snoc]; exact g1, by have := HO.out.2; simp; omega, hB3⟩
        · have HT : Hid (numsOf L = none) := numsOf_at ht (by rw [et]; decide)
          rw [et] at hN
          obtain ⟨X, hX⟩ : ∃ X, tnV t = X := ⟨_, rfl⟩
          rw [hX] at hN
          have HB : Hid (Below w1.heap.size w1 wr) := hB
          obtain ⟨ua, uc, rfl⟩ := owns_slice hown
          clear ht hts et hX hns hown hB hnl
          go_wp2_with (first
            | (go_at_call 37; refine hN.mono ?_; clear hN; rintro e w2 ⟨rfl, hb2⟩; have hB := HB.out.trans (hb2.mono HB.out.size); clear hb2))
          exact bodyPost_ret (v := .tuple #[.slice none 0 0, .int .i64 4]) (by simp [results, Tryz.f38, go_sem]) rfl ⟨_, _, rfl, HPS.out _ _ _ (fun ns h => by rw [HT.out] at h; cases h) (fun _ => ⟨rfl, rfl⟩), HB1.out.trans (hB.mono HB1.out.size)⟩
      · have hkl : k = L.length := by omega
        subst hkl
        obtain ⟨ua, uc, rfl⟩ := owns_slice hown
        have HR : Hid (_ ∧ _ ∧ _ ∧ _) := ⟨hns, hown, hnl, hB⟩
        clear hns hown hnl hB
        go_wp2
        obtain ⟨hns, hown, hnl, hB⟩ := HR.out
        rw [List.take_length] at hns
        refine bodyPost_ret (v := .tuple #[.slice ua L.length uc, .int .i64 0]) (by simp [results, Tryz.f38, go_sem]) rfl ⟨_, _, rfl, HPS.out _ _ _ (fun ms h => ?_) (fun h => by rw [hns] at h; cases h), HB1.out.trans (hB.mono HB1.out.size)⟩
        rw [hns] at h
        injection h with h
        subst h
        have hil : Il wr (.slice ua L.length uc) ns := by
          rw [← hnl] at hown ⊢
          exact Il_owns hown
        exact ⟨rfl, hil, by have := HTL.out; omega, fun k hk => by
          have := hown.lt k hk
          have := HB1.out.size
          omega⟩
  · have HU : Hid (unN s = none) := by show _ = _; unfold unN; rw [if_neg (by rw [e0]; decide)]
    have hT : texts s = [] := texts_bad (by rw [e0]; decide)
    rw [e0, hT] at hU
    clear e0 hT
    go_enter Tryz.func38, Tryz.ntmps38
    go_wp2_with (first
      | (go_at_call 36; refine hU.mono ?_; clear hU; rintro e w1 ⟨v, rfl, hown, hb1⟩; obtain ⟨va, vc, rfl⟩ := owns_slice hown; clear hown))
    exact bodyPost_ret (v := .tuple #[.slice none 0 0, .int .i64 4]) (by simp [results, Tryz.f38, go_sem]) rfl ⟨_, _, rfl, by unfold UnPost; rw [HU.out]; exact ⟨rfl, rfl⟩, hb1⟩
end
end Go.Proofs.YtfolnlgceighbaaGreatDoor
