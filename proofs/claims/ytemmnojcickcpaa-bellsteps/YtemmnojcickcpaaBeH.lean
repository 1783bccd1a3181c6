/- Heaps, in plain words: an order of timers, a list whose parents are not behind their children, and what a step up or down does. -/
namespace Go.Proofs.Ytemmnojcickcpaa

/-- Does a ring ahead of b: by their moments, of one moment by their names. -/
def lessB (a b : Int × Int × Int) : Bool := if a.2.1 = b.2.1 then decide (a.1 < b.1) else decide (a.2.1 < b.2.1)
theorem less_iff {a b : Int × Int × Int} : lessB a b = true ↔ (a.2.1 < b.2.1 ∨ (a.2.1 = b.2.1 ∧ a.1 < b.1)) := by
  unfold lessB
  split
  · rename_i h; simp; omega
  · rename_i h; simp; omega
theorem less_not {a b : Int × Int × Int} : ¬ lessB a b = true ↔ (b.2.1 < a.2.1 ∨ (b.2.1 = a.2.1 ∧ b.1 ≤ a.1)) := by
  rw [less_iff]; omega
theorem less_asymm {a b : Int × Int × Int} (h : lessB a b = true) : ¬ lessB b a = true := by rw [less_iff] at *; omega
theorem less_trans' {a b c : Int × Int × Int} (h : ¬ lessB a b = true) (k : ¬ lessB b c = true) : ¬ lessB a c = true := by rw [less_not] at *; omega
theorem less_trans {a b c : Int × Int × Int} (h : lessB a b = true) (k : lessB b c = true) : lessB a c = true := by rw [less_iff] at *; omega
theorem less_irrefl (a : Int × Int × Int) : ¬ lessB a a = true := by rw [less_iff]; omega

/-- A place's parent. -/
def par (k : Nat) : Nat := (k - 1) / 2
theorem par_lt {k : Nat} (h : 0 < k) : par k < k := by unfold par; omega
abbrev Fn := Nat → Int × Int × Int
/-- The two at i and j changed. -/
def sw (f : Fn) (i j : Nat) : Fn := fun k => if k = j then f i else if k = i then f j else f k
theorem sw_j (f : Fn) (i j : Nat) : sw f i j j = f i := by simp [sw]
theorem sw_i (f : Fn) (i j : Nat) : sw f i j i = f j := by
  unfold sw
  split
  · rename_i h; rw [h]
  · simp
theorem sw_o (f : Fn) {i j k : Nat} (h1 : k ≠ i) (h2 : k ≠ j) : sw f i j k = f k := by simp [sw, h1, h2]
/-- A heap, up to n. -/
def Hp (n : Nat) (f : Fn) : Prop := ∀ k, 0 < k → k < n → ¬ lessB (f k) (f (par k)) = true
/-- A heap but for the one at j, which may be ahead of its parent. -/
def UpI (n : Nat) (f : Fn) (j : Nat) : Prop := (∀ k, 0 < k → k < n → k ≠ j → ¬ lessB (f k) (f (par k)) = true) ∧ (0 < j → ∀ k, 0 < k → k < n → par k = j → ¬ lessB (f k) (f (par j)) = true)
/-- A heap but for the one at i. -/
def DnI (n : Nat) (f : Fn) (i : Nat) : Prop := (∀ k, 0 < k → k < n → k ≠ i → par k ≠ i → ¬ lessB (f k) (f (par k)) = true) ∧ (0 < i → ∀ k, 0 < k → k < n → par k = i → ¬ lessB (f k) (f (par i)) = true)
theorem up_step {n : Nat} {f : Fn} {j : Nat} (h : UpI n f j) (h0 : 0 < j) (hn : j < n) (hl : lessB (f j) (f (par j)) = true) : UpI n (sw f (par j) j) (par j) := by
  have hp := par_lt h0
  refine ⟨fun k k0 kn kne => ?_, fun p0 k k0 kn kp => ?_⟩
  · by_cases e : k = j
    · subst e; rw [sw_j, sw_i]; exact less_asymm hl
    · rw [sw_o f kne e]
      by_cases e2 : par k = j
      · rw [e2, sw_j]; exact h.2 h0 k k0 kn e2
      · by_cases e3 : par k = par j
        · rw [e3, sw_i]
          have h1 := h.1 k k0 kn e
          rw [e3] at h1
          intro h2
          exact h1 (less_trans h2 hl)
        · rw [sw_o f e3 e2]; exact h.1 k k0 kn e
  · have hpp := par_lt p0
    have hne1 : par (par j) ≠ par j := by omega
    have hne2 : par (par j) ≠ j := by omega
    rw [sw_o f hne1 hne2]
    have hpj := h.1 (par j) p0 (by omega) (by omega)
    by_cases e : k = j
    · subst e; rw [sw_j]; exact hpj
    · have hkp : k ≠ par j := by have := par_lt k0; omega
      rw [sw_o f hkp e]
      have h1 := h.1 k k0 kn e
      rw [kp] at h1
      exact less_trans' h1 hpj
theorem up_done {n : Nat} {f : Fn} {j : Nat} (h : UpI n f j) (hd : j = 0 ∨ ¬ lessB (f j) (f (par j)) = true) : Hp n f := by
  intro k k0 kn
  by_cases e : k = j
  · subst e
    rcases hd with hd | hd
    · omega
    · exact hd
  · exact h.1 k k0 kn e
theorem dn_step {n : Nat} {f : Fn} {i c : Nat} (h : DnI n f i) (hc : par c = i) (c0 : 0 < c) (cn : c < n) (hl : lessB (f c) (f i) = true) (hm : ∀ d, 0 < d → d < n → par d = i → ¬ lessB (f d) (f c) = true) :
    DnI n (sw f i c) c ∧ ¬ lessB (sw f i c c) (sw f i c (par c)) = true := by
  have hic : i < c := by rw [← hc]; exact par_lt c0
  refine ⟨⟨fun k k0 kn kc kpc => ?_, fun _ k k0 kn kp => ?_⟩, ?_⟩
  · by_cases e : k = i
    · subst e
      have hp : par k ≠ k := by have := par_lt k0; omega
      have hp2 : par k ≠ c := by have := par_lt k0; omega
      rw [sw_i, sw_o f hp hp2]
      exact h.2 k0 c c0 cn hc
    · rw [sw_o f e kc]
      by_cases e2 : par k = i
      · rw [e2, sw_i]; exact hm k k0 kn e2
      · rw [sw_o f e2 kpc]; exact h.1 k k0 kn e e2
  · have hki : k ≠ i := by have := par_lt k0; omega
    have hkc : k ≠ c := by have := par_lt k0; omega
    rw [hc, sw_i, sw_o f hki hkc]
    have := h.1 k k0 kn hki (by omega)
    rw [kp] at this
    exact this
  · rw [sw_j, hc, sw_i]; exact less_asymm hl
theorem dn_done {n : Nat} {f : Fn} {i : Nat} (h : DnI n f i) (hd : ∀ d, 0 < d → d < n → par d = i → ¬ lessB (f d) (f i) = true) : UpI n f i := by
  refine ⟨fun k k0 kn kne => ?_, h.2⟩
  by_cases e : par k = i
  · rw [e]; exact hd k k0 kn e
  · exact h.1 k k0 kn kne e
theorem top_least {n : Nat} {f : Fn} (h : Hp n f) : ∀ (m k : Nat), k ≤ m → k < n → ¬ lessB (f k) (f 0) = true
  | 0, k, hk, _ => by
    have : k = 0 := by omega
    subst this
    exact less_irrefl _
  | m + 1, k, hk, hn => by
    by_cases e : k = 0
    · subst e; exact less_irrefl _
    · have hp := par_lt (show 0 < k by omega)
      exact less_trans' (h k (by omega) hn) (top_least h m (par k) (by omega) (by omega))
theorem push_up {n : Nat} {f g : Fn} (h : Hp n f) (hg : ∀ k, k < n → g k = f k) : UpI (n + 1) g n := by
  refine ⟨fun k k0 kn kne => ?_, fun _ k k0 kn kp => ?_⟩
  · have hp := par_lt k0
    rw [hg k (by omega), hg (par k) (by omega)]
    exact h k k0 (by omega)
  · have hp := par_lt k0
    omega
theorem swap_down {n i : Nat} {f : Fn} (h : Hp (n + 1) f) (hi : i < n) : DnI n (sw f i n) i := by
  refine ⟨fun k k0 kn ki kpi => ?_, fun i0 k k0 kn kp => ?_⟩
  · have hp := par_lt k0
    rw [sw_o f ki (by omega), sw_o f kpi (by omega)]
    exact h k k0 (by omega)
  · have hp := par_lt k0
    have hpi := par_lt i0
    rw [sw_o f (show k ≠ i by omega) (by omega), sw_o f (show par i ≠ i by omega) (by omega)]
    have h1 := h k k0 (by omega)
    rw [kp] at h1
    exact less_trans' h1 (h i i0 (by omega))
theorem fix_down {n i : Nat} {f g : Fn} (h : Hp n f) (hi : i < n) (hg : ∀ k, k ≠ i → g k = f k) : DnI n g i := by
  refine ⟨fun k k0 kn ki kpi => ?_, fun i0 k k0 kn kp => ?_⟩
  · rw [hg k ki, hg _ kpi]; exact h k k0 kn
  · have hp := par_lt k0
    have hpi := par_lt i0
    rw [hg k (by omega), hg (par i) (by omega)]
    have h1 := h k k0 kn
    rw [kp] at h1
    exact less_trans' h1 (h i i0 hi)
theorem hp_mono {n m : Nat} {f : Fn} (h : Hp n f) (hm : m ≤ n) : Hp m f := fun k k0 km => h k k0 (by omega)
theorem hp_congr {n : Nat} {f g : Fn} (h : Hp n f) (hg : ∀ k, k < n → g k = f k) : Hp n g := by
  intro k k0 kn
  have := par_lt k0
  rw [hg k kn, hg _ (by omega)]
  exact h k k0 kn
/-- A list's timers by their places. -/
def gf (l : List (Int × Int × Int)) : Fn := fun i => l.getD i (0, 0, 0)
theorem gf_at {l : List (Int × Int × Int)} {i : Nat} {t : Int × Int × Int} (h : l[i]? = some t) : gf l i = t := by simp [gf, h]
/-- The list with the two at i and j changed. -/
def swp (l : List (Int × Int × Int)) (i j : Nat) : List (Int × Int × Int) := (l.set i (gf l j)).set j (gf l i)
theorem swp_len (l : List (Int × Int × Int)) (i j : Nat) : (swp l i j).length = l.length := by simp [swp]
theorem gf_swp {l : List (Int × Int × Int)} {i j : Nat} (hi : i < l.length) (hj : j < l.length) : gf (swp l i j) = sw (gf l) i j := by
  funext k
  unfold gf swp sw
  simp only [List.getD_eq_getElem?_getD, List.getElem?_set, List.length_set]
  by_cases e : k = j
  · subst e; simp [hj]; rfl
  · by_cases e2 : k = i
    · subst e2; simp [hi, e, Ne.symm e]; rfl
    · simp [e, e2, Ne.symm e, Ne.symm e2]
theorem swp_perm {l : List (Int × Int × Int)} {i j : Nat} (hi : i < l.length) (hj : j < l.length) : (swp l i j).Perm l := by
  unfold swp
  rw [gf_at (List.getElem?_eq_getElem hi), gf_at (List.getElem?_eq_getElem hj)]
  exact List.set_set_perm hi hj
end Go.Proofs.Ytemmnojcickcpaa
