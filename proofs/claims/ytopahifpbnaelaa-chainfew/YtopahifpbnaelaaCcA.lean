/- Chains: few moves, plain; moved, walked. -/
import Derived.Test.YtopahifpbnaelaaCbA
namespace Go.Proofs.Ytopahifpbnaelaa
open Go.RowKit
attribute [local go_sem ↓] Go.wp_at_zero Go.wp_at_succ

/-- The owner of shard i in a way. -/
def wayO (G : List Nat) (way i : Nat) : Nat := G.getD (way / 4 ^ i % 4 % G.length) 0
def wayL (G : List Nat) (way k : Nat) : List Nat := (List.range k).map (wayO G way)
def waysB (G : List Nat) (n : Nat) : List (List Nat) := ((List.range n).map fun w => wayL G w 4).filter (balanced G)
theorem leastM_snoc (o : List Nat) (ws : List (List Nat)) (x : List Nat) : leastM o (ws ++ [x]) = if movedN o x < leastM o ws then movedN o x else leastM o ws := by
  unfold leastM
  rw [List.foldl_append]
  rfl
theorem waysB_succ (G : List Nat) (n : Nat) : waysB G (n + 1) = if balanced G (wayL G n 4) = true then waysB G n ++ [wayL G n 4] else waysB G n := by
  unfold waysB
  rw [List.range_succ, List.map_append, List.filter_append]
  simp only [List.map_cons, List.map_nil, List.filter_cons, List.filter_nil]
  split
  · rfl
  · rw [List.append_nil]
theorem least_step (G o : List Nat) (n : Nat) : leastM o (waysB G (n + 1)) = if balanced G (wayL G n 4) = true ∧ movedN o (wayL G n 4) < leastM o (waysB G n) then movedN o (wayL G n 4) else leastM o (waysB G n) := by
  rw [waysB_succ]
  by_cases h : balanced G (wayL G n 4) = true
  · rw [if_pos h, leastM_snoc]
    by_cases h2 : movedN o (wayL G n 4) < leastM o (waysB G n)
    · rw [if_pos h2, if_pos ⟨h, h2⟩]
    · rw [if_neg h2, if_neg (fun hh => h2 hh.2)]
  · rw [if_neg h, if_neg (fun hh => h hh.1)]
/-- What a least one is. -/
theorem least_prop (o : List Nat) (ws : List (List Nat)) : leastM o ws ≤ 4 ∧ (∀ x ∈ ws, leastM o ws ≤ movedN o x) ∧ (leastM o ws = 4 ∨ ∃ x ∈ ws, leastM o ws = movedN o x) := by
  have H : ∀ (ws : List (List Nat)) (m : Nat), let r := ws.foldl (fun m w => let k := movedN o w; if k < m then k else m) m; r ≤ m ∧ (∀ x ∈ ws, r ≤ movedN o x) ∧ (r = m ∨ ∃ x ∈ ws, r = movedN o x) := by
    intro ws
    induction ws with
    | nil => intro m; exact ⟨Nat.le_refl _, by simp, .inl rfl⟩
    | cons a r ih =>
      intro m
      simp only [List.foldl_cons]
      by_cases h : movedN o a < m
      · rw [if_pos h]
        obtain ⟨h1, h2, h3⟩ := ih (movedN o a)
        refine ⟨Nat.le_trans h1 (Nat.le_of_lt h), ?_, ?_⟩
        · intro x hx
          rcases List.mem_cons.1 hx with rfl | hx
          · exact h1
          · exact h2 x hx
        · rcases h3 with h3 | ⟨x, hx, h3⟩
          · exact .inr ⟨a, by simp, h3⟩
          · exact .inr ⟨x, by simp [hx], h3⟩
      · rw [if_neg h]
        obtain ⟨h1, h2, h3⟩ := ih m
        refine ⟨h1, ?_, ?_⟩
        · intro x hx
          rcases List.mem_cons.1 hx with rfl | hx
          · exact Nat.le_trans h1 (Nat.le_of_not_lt h)
          · exact h2 x hx
        · rcases h3 with h3 | ⟨x, hx, h3⟩
          · exact .inl h3
          · exact .inr ⟨x, by simp [hx], h3⟩
  exact H ws 4
theorem least_congr (o : List Nat) {ws vs : List (List Nat)} (h : ∀ x, x ∈ ws ↔ x ∈ vs) : leastM o ws = leastM o vs := by
  obtain ⟨a1, a2, a3⟩ := least_prop o ws
  obtain ⟨b1, b2, b3⟩ := least_prop o vs
  apply Nat.le_antisymm
  · rcases b3 with b3 | ⟨x, hx, b3⟩
    · omega
    · rw [b3]; exact a2 x ((h x).2 hx)
  · rcases a3 with a3 | ⟨x, hx, a3⟩
    · omega
    · rw [a3]; exact b2 x ((h x).1 hx)
theorem way_mem (G : List Nat) (h0 : 0 < G.length) (way : Nat) : wayL G way 4 ∈ owners G := by
  have hin : ∀ i, wayO G way i ∈ G := fun i => by
    unfold wayO
    have hlt : way / 4 ^ i % 4 % G.length < G.length := Nat.mod_lt _ h0
    rw [List.getD_eq_getElem?_getD, List.getElem?_eq_getElem hlt, Option.getD_some]
    exact List.getElem_mem hlt
  unfold owners
  simp only [List.mem_flatMap, List.mem_map]
  exact ⟨_, hin 0, _, hin 1, _, hin 2, _, hin 3, rfl⟩
theorem own_way (G : List Nat) (h4 : G.length ≤ 4) {o : List Nat} (ho : o ∈ owners G) : ∃ way, way < 256 ∧ wayL G way 4 = o := by
  unfold owners at ho
  simp only [List.mem_flatMap, List.mem_map] at ho
  obtain ⟨a, ha, b, hb, c, hc, d, hd, rfl⟩ := ho
  obtain ⟨i, hi, rfl⟩ := List.mem_iff_getElem.1 ha
  obtain ⟨j, hj, rfl⟩ := List.mem_iff_getElem.1 hb
  obtain ⟨k, hk, rfl⟩ := List.mem_iff_getElem.1 hc
  obtain ⟨m, hm, rfl⟩ := List.mem_iff_getElem.1 hd
  have key : ∀ x n, n < G.length → x % 4 = n → G.getD (x % 4 % G.length) 0 = G[n]! := fun x n hn hx => by
    rw [hx, Nat.mod_eq_of_lt hn, List.getD_eq_getElem?_getD, List.getElem?_eq_getElem hn]
    simp [hn]
  have get : ∀ n (hn : n < G.length), G[n]! = G[n] := fun n hn => by simp [hn]
  refine ⟨i + 4 * j + 16 * k + 64 * m, by omega, ?_⟩
  show [wayO G _ 0, wayO G _ 1, wayO G _ 2, wayO G _ 3] = _
  unfold wayO
  rw [key _ i hi (by show (i + 4 * j + 16 * k + 64 * m) / 1 % 4 = i; omega), key _ j hj (by show (i + 4 * j + 16 * k + 64 * m) / 4 % 4 = j; omega), key _ k hk (by show (i + 4 * j + 16 * k + 64 * m) / 16 % 4 = k; omega), key _ m hm (by show (i + 4 * j + 16 * k + 64 * m) / 64 % 4 = m; omega), get i hi, get j hj, get k hk, get m hm]
theorem ways_own (G : List Nat) (h0 : 0 < G.length) (h4 : G.length ≤ 4) (x : List Nat) : x ∈ waysB G 256 ↔ x ∈ (owners G).filter (balanced G) := by
  unfold waysB
  rw [List.mem_filter, List.mem_filter]
  constructor
  · rintro ⟨h1, h2⟩
    obtain ⟨w, _, rfl⟩ := List.mem_map.1 h1
    exact ⟨way_mem G h0 w, h2⟩
  · rintro ⟨h1, h2⟩
    obtain ⟨w, hw, rfl⟩ := own_way G h4 h1
    exact ⟨List.mem_map.2 ⟨w, List.mem_range.2 hw, rfl⟩, h2⟩
theorem ev_even : ∀ (n : Nat) (gs o r : List Nat), evS n gs o = some r → ∀ m, n ≤ m → evenG m gs o = r
  | 0, _, _, _, h, _, _ => by cases h
  | n + 1, gs, o, r, h, 0, hm => by omega
  | n + 1, gs, o, r, h, m + 1, hm => by
    unfold evS at h
    unfold evenG
    rw [manyG_eq, fewG_eq]
    by_cases hc : cnt o (manyF (cnt o) gs) < cnt o (fewF (cnt o) gs) + 2
    · rw [if_pos hc] at h
      simp only [if_pos hc]
      exact Option.some.inj h
    · rw [if_neg hc] at h
      simp only [if_neg hc]
      exact ev_even n gs _ r h m (by omega)
theorem ev_next {gs o : List Nat} (h : Ev gs o) : nextO gs o = nR gs o := ev_even 5 gs _ _ h.ev 8 (by omega)
theorem subs_all : (subs0.all fun gs => gs.length == 0 || subs.contains gs) = true := by decide +kernel
theorem empty_all : ([1, 2, 3, 4].all fun g => movedN [0, 0, 0, 0] (nO 1 g 0 [] [0, 0, 0, 0]) == leastM [0, 0, 0, 0] (waysB (nG 1 g []) 256)) = true := by decide +kernel
theorem few_gen {gs o G : List Nat} (hs : gs ∈ subs) (ho : o ∈ owners gs) (hj : G ∈ joins gs) (he : Ev G o) : movedN o (nR G o) = leastM o (waysB G 256) := by
  have h := few_all
  rw [List.all_eq_true] at h
  have h := h gs hs
  unfold fewOk at h
  rw [List.all_eq_true] at h
  have h := h G hj
  simp only [List.all_eq_true] at h
  have h := h o ho
  rw [beq_iff_eq, ev_next he] at h
  rw [h]
  exact least_congr o (fun x => (ways_own G he.pos he.le x).symm)
theorem few_of {gs o : List Nat} {k g s : Nat} (hg : gs ∈ subs0) (ho : o ∈ owners0 gs) (hk : okK k g s gs) (h3 : k ≠ 3) : movedN o (nO k g s gs o) = leastM o (waysB (nG k g gs) 256) := by
  have hsub := subs_all
  rw [List.all_eq_true] at hsub
  have hsub := hsub gs hg
  by_cases h0 : gs.length = 0
  · have hgs := List.length_eq_zero_iff.1 h0
    subst hgs
    have hoo : o = [0, 0, 0, 0] := by simpa [owners0] using ho
    subst hoo
    obtain ⟨h1, h4, ⟨rfl, h5, rfl⟩ | ⟨rfl, h5, h6, rfl⟩ | ⟨rfl, h5, h6⟩⟩ := hk
    · have h := empty_all
      rw [List.all_eq_true] at h
      have h := h g (by simp; omega)
      rw [beq_iff_eq] at h
      exact h
    · simp at h6
    · exact absurd rfl h3
  · have hs : gs ∈ subs := by simpa [h0] using hsub
    have ho2 := ho
    unfold owners0 at ho2
    rw [if_neg h0] at ho2
    obtain ⟨h1, h4, ⟨rfl, h5, rfl⟩ | ⟨rfl, h5, h6, rfl⟩ | ⟨rfl, h5, h6⟩⟩ := hk
    · obtain ⟨_, he, hm⟩ := join_of hg ho h1 h4 h5
      refine few_gen hs ho2 ?_ he
      unfold joins
      rw [List.mem_filterMap]
      refine ⟨g, by simp; omega, ?_⟩
      rw [if_neg (by rw [h5]; simp)]
      rfl
    · obtain ⟨_, he, hm⟩ := leave_of hg ho h1 h4 h5 h6
      refine few_gen hs ho2 ?_ he
      unfold joins
      rw [List.mem_filterMap]
      refine ⟨g, by simp; omega, ?_⟩
      rw [if_pos h5, if_pos h6]
      rfl
    · exact absurd rfl h3
theorem moved_take : ∀ (x y : List Nat) (k a b : Nat), x[k]? = some a → y[k]? = some b → movedN (x.take (k + 1)) (y.take (k + 1)) = movedN (x.take k) (y.take k) + if a == b then 0 else 1
  | [], _, _, _, _, h, _ => by cases h
  | _ :: _, [], _, _, _, _, h => by cases h
  | p :: x, q :: y, 0, a, b, h1, h2 => by
    simp at h1 h2
    subst h1 h2
    show (if p == q then 0 else 1) + movedN (x.take 0) (y.take 0) = movedN [] [] + _
    simp [movedN]
  | p :: x, q :: y, k + 1, a, b, h1, h2 => by
    have := moved_take x y k a b (by simpa using h1) (by simpa using h2)
    show (if p == q then 0 else 1) + movedN (x.take (k + 1)) (y.take (k + 1)) = (if p == q then 0 else 1) + movedN (x.take k) (y.take k) + _
    rw [this, Nat.add_assoc]
theorem moved_le : ∀ (x y : List Nat), movedN x y ≤ x.length
  | [], _ => by simp [movedN]
  | _ :: _, [] => by simp [movedN]
  | p :: x, q :: y => by
    have := moved_le x y
    show (if p == q then 0 else 1) + movedN x y ≤ x.length + 1
    split <;> omega
set_option maxRecDepth 20000 in
set_option maxHeartbeats 1000000 in
theorem moved_any (a b c d p q r t : Nat) (w : World) : Calls Try.prog 21 #[.agg (ow a b c d), .agg (ow p q r t)] w fun e W' => e = .returned (.int .i64 (movedN [a, b, c, d] [p, q, r, t] : Nat)) ∧ Below w.heap.size w W' := by
  obtain ⟨W0, hW0⟩ : ∃ W, (w.alloc (.cells (ow a b c d) 23)).alloc (.cells (ow p q r t) 23) = W := ⟨_, rfl⟩
  have hb0 : Below w.heap.size w W0 := by
    rw [← hW0]
    exact ((Below.refl _ w).alloc (Nat.le_refl _) _).alloc (by simp) _
  have hsz : W0.heap.size = w.heap.size + 2 := by rw [← hW0]; simp
  have r0 : W0.heap[w.heap.size]? = some (.cells (ow a b c d) 23) := by
    rw [← hW0]
    exact (Below.heap_alloc _ _ _ (by simp)).trans (heap_alloc_new _ _)
  have r1 : W0.heap[w.heap.size + 1]? = some (.cells (ow p q r t) 23) := by
    rw [← hW0]
    have := heap_alloc_new (w.alloc (.cells (ow a b c d) 23)) (.cells (ow p q r t) 23)
    rwa [show (w.alloc (.cells (ow a b c d) 23)).heap.size = w.heap.size + 1 by simp] at this
  have HV : Hid ((w.alloc (.cells (ow a b c d) 23)).alloc (.cells (ow p q r t) 23) = W0) := hW0
  have HR : Hid (W0.heap[w.heap.size]? = some (.cells (ow a b c d) 23) ∧ W0.heap[w.heap.size + 1]? = some (.cells (ow p q r t) 23) ∧ W0.heap.size = w.heap.size + 2) := ⟨r0, r1, hsz⟩
  have HA : Hid (∀ (k t : Nat), [a, b, c, d][k]? = some t → (ow a b c d)[k]? = some (.int .i64 t)) := four_at a b c d
  have HP : Hid (∀ (k t' : Nat), [p, q, r, t][k]? = some t' → (ow p q r t)[k]? = some (.int .i64 t')) := four_at p q r t
  obtain ⟨x, hx⟩ : ∃ x, [a, b, c, d] = x := ⟨_, rfl⟩
  obtain ⟨y, hy⟩ : ∃ y, [p, q, r, t] = y := ⟨_, rfl⟩
  have hxl : x.length = 4 := by rw [← hx]; rfl
  have hyl : y.length = 4 := by rw [← hy]; rfl
  rw [hx] at HA ⊢
  rw [hy] at HP ⊢
  clear hW0 r0 r1 hsz hx hy
  go_enter Try.func21, Try.ntmps21
  go_upto_region 1 with fail
  rw [HV.out]
  clear HV
  go_wp2_with fail
  go_loopg [5, 7] 4 (fun gk n i wr => ∃ k : Nat, k + gk = 4 ∧ n = .int .i64 (movedN (x.take k) (y.take k) : Nat) ∧ i = .int .i64 k ∧ Below W0.heap.size W0 wr)
  case atStart => exact ⟨0, by omega, by simp [movedN], rfl, Below.refl _ _⟩
  case round =>
    obtain ⟨k, hk, rfl, rfl, hB⟩ := hrel
    by_cases hlt : k < 4
    · obtain ⟨u, hu⟩ : ∃ u, x[k]? = some u := ⟨_, List.getElem?_eq_getElem (by omega)⟩
      obtain ⟨v, hv⟩ : ∃ v, y[k]? = some v := ⟨_, List.getElem?_eq_getElem (by omega)⟩
      obtain ⟨r0, r1, hsz⟩ := HR.out
      have x1 := cellB ((hB.block _ (by omega)).trans r0) k _ (HA.out k u hu)
      have x2 := cellB ((hB.block _ (by omega)).trans r1) k _ (HP.out k v hv)
      have k0 : (0 : Int) ≤ (k : Int) := by omega
      have k1 : (k : Int) < 4 := by omega
      have hmt := moved_take x y k u v hu hv
      have hml := moved_le (x.take k) (y.take k)
      have hml2 : movedN (x.take k) (y.take k) ≤ 4 := Nat.le_trans hml (by simp; omega)
      obtain ⟨M, hM⟩ : ∃ M, movedN (x.take k) (y.take k) = M := ⟨_, rfl⟩
      rw [hM] at hmt hml2
      rw [hM]
      clear hu hv r0 r1 hsz hml hM
      by_cases he : u = v
      · subst he
        have HT : Hid (movedN (x.take (k + 1)) (y.take (k + 1)) = M) := by show _ = _; rw [hmt]; simp
        clear hmt
        go_upto_region 5 with fail
        go_quiet (fail)
        go_wp2
        go_roundg (4 - (k + 1))
        case measure => omega
        case rel => exact ⟨k + 1, by omega, by rw [HT.out], by go_num, below_drewN hB _⟩
      · have HT : Hid (movedN (x.take (k + 1)) (y.take (k + 1)) = M + 1) := by show _ = _; rw [hmt, if_neg (by simpa using he)]
        have hne : ((u : Int) != (v : Int)) = true := by simp; omega
        clear hmt he
        go_upto_region 5 with fail
        go_quiet (fail)
        go_wp2
        go_roundg (4 - (k + 1))
        case measure => omega
        case rel => exact ⟨k + 1, by omega, by rw [HT.out]; go_num, by go_num, below_drewN hB _⟩
    · have hkl : k = 4 := by omega
      subst hkl
      have ex : x.take 4 = x := by rw [← hxl]; exact List.take_length
      have ey : y.take 4 = y := by rw [← hyl]; exact List.take_length
      rw [ex, ey]
      go_wp2
      go_ret
      exact ⟨rfl, hb0.trans (hB.mono hb0.size)⟩
end Go.Proofs.Ytopahifpbnaelaa
