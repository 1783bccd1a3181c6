/- Configurations as texts, plain: there and back. -/
import Derived.Test.YtfjbhljnledphaaGreatDoorNsK
import Derived.Test.YtfjbhljnledphaaGreatDoorNsN
import Derived.Test.YtfjbhljnledphaaGreatDoorNsG
import Derived.Test.YtfjbhljnledphaaGreatDoorChL
namespace Go.Proofs.YtfjbhljnledphaaGreatDoor
open Go.RowKit

def numsT (ns : List Int) : List (List UInt8) := ns.map Lib.itoa
def numsL (ns : List Int) : List UInt8 := packL (numsT ns)
def cfgW : List UInt8 := [99, 111, 110, 102, 105, 103]
def cfgTs (num : Int) (ns os : List Int) : List (List UInt8) := [cfgW, Lib.itoa num, numsL ns, numsL os]
/-- A configuration's text. -/
def cfgT (num : Int) (ns os : List Int) : List UInt8 := packL (cfgTs num ns os)
/-- The numbers that texts are. -/
def numsOf : List (List UInt8) → Option (List Int)
  | [] => some []
  | t :: l => if tnE t = 0 then (numsOf l).map (tnV t :: ·) else none
/-- The numbers that a list's text says. -/
def unN (s : List UInt8) : Option (List Int) := if errOf s = 0 then numsOf (texts s) else none
def readB (b c d : List UInt8) : Option (Int × List Int × List Int) :=
  if tnE b = 0 then
    match unN c, unN d with
    | some gs, some os => if os.length = 4 ∧ okC (tnV b) gs os = true then some (tnV b, gs, os) else none
    | _, _ => none
  else none
/-- The configuration that a text says. -/
def readC (s : List UInt8) : Option (Int × List Int × List Int) :=
  match texts s with
  | [a, b, c, d] => if a = cfgW then readB b c d else none
  | _ => none
theorem tn_itoa {n : Int} (h0 : -9223372036854775808 ≤ n) (h1 : n ≤ 9223372036854775807) : tnV (Lib.itoa n) = n ∧ tnE (Lib.itoa n) = 0 := tnV_some (toNum_itoa n h0 h1)
theorem tn_back {s : List UInt8} (h : tnE s = 0) : Lib.itoa (tnV s) = s := by
  unfold tnE at h
  cases e : toNumL s with
  | none => rw [e] at h; simp at h
  | some z => rw [(tnV_some e).1]; exact toNum_back e
theorem tn_cases (s : List UInt8) : tnE s = 0 ∨ tnE s = 4 := by
  unfold tnE
  split
  · exact .inl rfl
  · exact .inr rfl
theorem err_cases (s : List UInt8) : errOf s = 0 ∨ errOf s = 4 := by
  unfold errOf
  split
  · exact .inl rfl
  · exact .inr rfl
theorem good_err {s : List UInt8} : errOf s = 0 ↔ good s := by
  unfold errOf
  by_cases h : good s
  · rw [if_pos h]; exact ⟨fun _ => h, fun _ => rfl⟩
  · rw [if_neg h]; exact ⟨fun e => (by cases e), fun e => absurd e h⟩
theorem texts_bad {s : List UInt8} (h : errOf s ≠ 0) : texts s = [] := by
  unfold texts
  rw [if_neg (fun g => h (good_err.2 g))]
theorem numsOf_T : ∀ (ns : List Int), (∀ n ∈ ns, -9223372036854775808 ≤ n ∧ n ≤ 9223372036854775807) → numsOf (numsT ns) = some ns
  | [], _ => rfl
  | n :: l, h => by
    obtain ⟨h0, h1⟩ := h n (List.mem_cons_self ..)
    obtain ⟨a, b⟩ := tn_itoa h0 h1
    show (if tnE (Lib.itoa n) = 0 then (numsOf (numsT l)).map (tnV (Lib.itoa n) :: ·) else none) = _
    rw [if_pos b, a, numsOf_T l fun m hm => h m (List.mem_cons_of_mem _ hm)]
    rfl
theorem numsOf_back : ∀ (l : List (List UInt8)) (ns : List Int), numsOf l = some ns → numsT ns = l ∧ ns.length = l.length
  | [], ns, h => by
    injection h with h
    subst h
    exact ⟨rfl, rfl⟩
  | t :: l, ns, h => by
    unfold numsOf at h
    by_cases e : tnE t = 0
    · rw [if_pos e] at h
      cases h2 : numsOf l with
      | none => rw [h2] at h; cases h
      | some ms =>
        rw [h2] at h
        injection h with h
        subst h
        obtain ⟨a, b⟩ := numsOf_back l ms h2
        refine ⟨?_, by simp [b]⟩
        show Lib.itoa (tnV t) :: numsT ms = _
        rw [tn_back e, a]
    · rw [if_neg e] at h; cases h
/-- What is not a number among the first ones. -/
theorem numsOf_at {l : List (List UInt8)} {n : Nat} {t : List UInt8} (h : l[n]? = some t) (he : tnE t ≠ 0) : numsOf l = none := by
  induction l generalizing n with
  | nil => cases h
  | cons a l ih =>
    unfold numsOf
    cases n with
    | zero =>
      have : a = t := by simpa using h
      subst this
      rw [if_neg he]
    | succ n =>
      rw [ih (n := n) (by simpa using h)]
      split <;> rfl
theorem numsOf_take {l : List (List UInt8)} {n : Nat} {t : List UInt8} {ns : List Int} (h : l[n]? = some t) (he : tnE t = 0) (hp : numsOf (l.take n) = some ns) : numsOf (l.take (n + 1)) = some (ns ++ [tnV t]) := by
  induction l generalizing n ns with
  | nil => cases h
  | cons a l ih =>
    cases n with
    | zero =>
      have : a = t := by simpa using h
      subst this
      simp only [List.take_zero, numsOf] at hp
      injection hp with hp
      subst hp
      show (if tnE a = 0 then (numsOf ([] : List (List UInt8))).map (tnV a :: ·) else none) = _
      rw [if_pos he]
      rfl
    | succ n =>
      have h' : l[n]? = some t := by simpa using h
      simp only [List.take_succ_cons, numsOf] at hp ⊢
      by_cases e : tnE a = 0
      · rw [if_pos e] at hp ⊢
        cases h2 : numsOf (l.take n) with
        | none => rw [h2] at hp; cases hp
        | some ms =>
          rw [h2] at hp
          injection hp with hp
          subst hp
          rw [ih h' h2]
          rfl
      · rw [if_neg e] at hp; cases hp
theorem numsL_bounds {ns : List Int} (h : ∀ n ∈ ns, 0 ≤ n ∧ n < 100000000000000000000) : (∀ t ∈ numsT ns, t.length ≤ 20) ∧ tot (numsT ns) ≤ 20 * ns.length ∧ (numsT ns).length = ns.length := by
  refine ⟨fun t ht => ?_, ?_, by simp [numsT]⟩
  · simp only [numsT, List.mem_map] at ht
    obtain ⟨n, hn, rfl⟩ := ht
    obtain ⟨a, b⟩ := h n hn
    obtain ⟨m, rfl⟩ := Int.eq_ofNat_of_zero_le a
    exact itoa_len m (by omega)
  · induction ns with
    | nil => simp [numsT, tot]
    | cons n l ih =>
      have := ih fun m hm => h m (List.mem_cons_of_mem _ hm)
      obtain ⟨a, b⟩ := h n (List.mem_cons_self ..)
      obtain ⟨m, rfl⟩ := Int.eq_ofNat_of_zero_le a
      have := itoa_len m (by omega)
      show tot (Lib.itoa (m : Int) :: numsT l) ≤ _
      rw [tot_cons, List.length_cons]
      omega
theorem numsL_len {ns : List Int} (h : ∀ n ∈ ns, 0 ≤ n ∧ n < 100000000000000000000) (hl : ns.length ≤ 1000) : (numsL ns).length ≤ 42 * ns.length := by
  obtain ⟨_, h2, h3⟩ := numsL_bounds h
  have := pack_len (numsT ns) (by omega)
  unfold numsL
  omega
theorem okC_small {num : Int} {ns os : List Int} (h : okC num ns os = true) (h4 : os.length = 4) : 0 ≤ num ∧ num ≤ 1099511627776 ∧ ns.length ≤ 4 ∧ (∀ n ∈ ns, 0 ≤ n ∧ n ≤ 4) ∧ ∀ n ∈ os, 0 ≤ n ∧ n ≤ 4 := by
  obtain ⟨a, b, c, d, rfl⟩ : ∃ a b c d, os = [a, b, c, d] := by
    match os, h4 with
    | [a, b, c, d], _ => exact ⟨a, b, c, d, rfl⟩
  obtain ⟨gs, hg, rfl, o, ho, h5, n0, n1⟩ := okC_all h
  obtain ⟨c1, c2, c3⟩ := conf_of hg
  obtain ⟨c4, c5⟩ := c3 o ho
  refine ⟨n0, n1, by rw [zi_len]; exact c1, fun n hn => ?_, fun n hn => ?_⟩
  · simp only [zi, List.mem_map] at hn
    obtain ⟨x, hx, rfl⟩ := hn
    have := c2 x hx
    omega
  · rw [h5] at hn
    simp only [zi, List.mem_map] at hn
    obtain ⟨x, hx, rfl⟩ := hn
    have := c5 x hx
    omega
theorem cfg_tot {num : Int} {ns os : List Int} (h : okC num ns os = true) (h4 : os.length = 4) : tot (cfgTs num ns os) ≤ 400 ∧ (cfgTs num ns os).length = 4 ∧ ∀ t ∈ cfgTs num ns os, t.length ≤ 400 := by
  obtain ⟨n0, n1, hl, hs, ho⟩ := okC_small h h4
  have a := numsL_len (ns := ns) (fun n hn => by have := hs n hn; omega) (by omega)
  have b := numsL_len (ns := os) (fun n hn => by have := ho n hn; omega) (by omega)
  obtain ⟨m, rfl⟩ := Int.eq_ofNat_of_zero_le n0
  have c := itoa_len m (by omega)
  have d : cfgW.length = 6 := rfl
  refine ⟨?_, rfl, fun t ht => ?_⟩
  · show tot [cfgW, Lib.itoa (m : Int), numsL ns, numsL os] ≤ 400
    rw [tot_cons, tot_cons, tot_cons, tot_cons]
    have : tot [] = 0 := rfl
    omega
  · simp only [cfgTs, List.mem_cons, List.not_mem_nil, or_false] at ht
    rcases ht with rfl | rfl | rfl | rfl <;> omega
theorem unN_numsL {ns : List Int} (h : ∀ n ∈ ns, 0 ≤ n ∧ n ≤ 4) : unN (numsL ns) = some ns := by
  obtain ⟨h1, _, _⟩ := numsL_bounds (ns := ns) fun n hn => by have := h n hn; omega
  have hm : ∀ t ∈ numsT ns, t.length ≤ 1000000000 := fun t ht => Nat.le_trans (h1 t ht) (by decide)
  unfold unN numsL
  rw [if_pos (good_err.2 (good_pack _ hm)), texts_pack _ hm]
  exact numsOf_T ns fun n hn => by have := h n hn; omega
/-- THERE AND BACK. -/
theorem read_cfg {num : Int} {ns os : List Int} (h : okC num ns os = true) (h4 : os.length = 4) : readC (cfgT num ns os) = some (num, ns, os) := by
  obtain ⟨_, _, ht⟩ := cfg_tot h h4
  obtain ⟨n0, n1, hl, hs, ho⟩ := okC_small h h4
  have hm : ∀ t ∈ cfgTs num ns os, t.length ≤ 1000000000 := fun t h => Nat.le_trans (ht t h) (by decide)
  obtain ⟨a, b⟩ := tn_itoa (n := num) (by omega) (by omega)
  unfold readC cfgT
  rw [texts_pack _ hm]
  show (if cfgW = cfgW then readB (Lib.itoa num) (numsL ns) (numsL os) else none) = _
  rw [if_pos rfl]
  unfold readB
  rw [if_pos b, unN_numsL hs, unN_numsL ho, a]
  show (if os.length = 4 ∧ okC num ns os = true then some (num, ns, os) else none) = _
  rw [if_pos ⟨h4, h⟩]
theorem unN_back {s : List UInt8} {ns : List Int} (h : unN s = some ns) : numsL ns = s := by
  unfold unN at h
  by_cases e : errOf s = 0
  · rw [if_pos e] at h
    unfold numsL
    rw [(numsOf_back _ _ h).1]
    exact pack_texts (good_err.1 e)
  · rw [if_neg e] at h; cases h
theorem cfg_read {s : List UInt8} {num : Int} {ns os : List Int} (h : readC s = some (num, ns, os)) : okC num ns os = true ∧ os.length = 4 ∧ cfgT num ns os = s := by
  unfold readC at h
  match hT : texts s, h with
  | [a, b, c, d], h =>
    have hg : errOf s = 0 := by
      by_cases e : errOf s = 0
      · exact e
      · rw [texts_bad e] at hT; cases hT
    replace h : (if a = cfgW then readB b c d else none) = some (num, ns, os) := h
    by_cases ea : a = cfgW
    · rw [if_pos ea] at h
      subst ea
      unfold readB at h
      by_cases eb : tnE b = 0
      · rw [if_pos eb] at h
        cases h1 : unN c with
        | none => rw [h1] at h; cases h
        | some gs =>
          cases h2 : unN d with
          | none => rw [h1, h2] at h; cases h
          | some os' =>
            rw [h1, h2] at h
            replace h : (if os'.length = 4 ∧ okC (tnV b) gs os' = true then some (tnV b, gs, os') else none) = some (num, ns, os) := h
            by_cases e3 : os'.length = 4 ∧ okC (tnV b) gs os' = true
            · rw [if_pos e3] at h
              injection h with h
              injection h with q1 h
              injection h with q2 q3
              subst q1 q2 q3
              refine ⟨e3.2, e3.1, ?_⟩
              unfold cfgT cfgTs
              rw [tn_back eb, unN_back h1, unN_back h2, ← hT]
              exact pack_texts (good_err.1 hg)
            · rw [if_neg e3] at h; cases h
      · rw [if_neg eb] at h; cases h
    · rw [if_neg ea] at h; cases h
end Go.Proofs.YtfjbhljnledphaaGreatDoor
