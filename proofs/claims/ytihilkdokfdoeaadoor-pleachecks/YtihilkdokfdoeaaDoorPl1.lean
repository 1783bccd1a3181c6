/- plea.Check, walked. -/
import Derived.Test.YtihilkdokfdoeaaDoorPr1
import Derived.Test.YtihilkdokfdoeaaDoorPlK
import Derived.Test.YtihilkdokfdoeaaDoorPc1
import Derived.Test.YtihilkdokfdoeaaDoorPlI
import Derived.Test.YtihilkdokfdoeaaDoorPlB
import Derived.Test.YtihilkdokfdoeaaDoorPlC
namespace Go.Proofs.YtihilkdokfdoeaaDoor
section
open Go.RowKit Go.Maps
attribute [local go_sem ↓] Go.wp_at_zero Go.wp_at_succ

/-- Parts as they lie in a row. -/
def PSl (W : World) (a : Option Addr) (pc : Nat → List Cl) (pp : Nat → List Pt) (n : Nat) : Prop :=
  ∀ i, i < n → ∃ b o u v, a = some ⟨b, o, none⟩ ∧ b < W.heap.size ∧ W.cell? ⟨b, o + i * 2, none⟩ = some u ∧ W.cell? ⟨b, o + i * 2 + 1, none⟩ = some v ∧ SlF ccs 10 W u (pc i) ∧ SlF pks 5 W v (pp i)
theorem cell_on {W W' : World} {m : Nat} (hb : Below m W W') {b o : Nat} (h : b < m) {v : Value} (hc : W.cell? ⟨b, o, none⟩ = some v) : W'.cell? ⟨b, o, none⟩ = some v := by
  unfold World.cell? at hc ⊢
  rw [hb.block b h]
  exact hc
theorem PSl.on {W W' : World} {a : Option Addr} {pc : Nat → List Cl} {pp : Nat → List Pt} {n m : Nat} (h : PSl W a pc pp n) (hb : Below m W W') (hm : W.heap.size ≤ m) : PSl W' a pc pp n := fun i hi => by
  obtain ⟨b, o, u, v, h1, h2, h3, h4, h5, h6⟩ := h i hi
  exact ⟨b, o, u, v, h1, Nat.lt_of_lt_of_le h2 hb.size, cell_on hb (by omega) h3, cell_on hb (by omega) h4, h5.on hb hm, h6.on hb hm⟩
/-- The first place at which g is not 0, and that; 0 and 0, if there is none. -/
def plF (g : Nat → Int) : Nat → Int × Int
  | 0 => (0, 0)
  | n + 1 => if (plF g n).2 = 0 ∧ g n ≠ 0 then ((n : Int), g n) else plF g n
theorem plF_zero {g : Nat → Int} : ∀ {n : Nat}, (plF g n).2 = 0 ↔ ∀ i, i < n → g i = 0
  | 0 => ⟨fun _ i hi => by omega, fun _ => rfl⟩
  | n + 1 => by
    rw [plF]
    by_cases h : (plF g n).2 = 0 ∧ g n ≠ 0
    · rw [if_pos h]
      exact ⟨fun e => absurd e h.2, fun e => absurd (e n (by omega)) h.2⟩
    · rw [if_neg h]
      constructor
      · intro e i hi
        by_cases ei : i = n
        · subst ei
          exact Classical.byContradiction fun hc => h ⟨e, hc⟩
        · exact plF_zero.1 e i (by omega)
      · exact fun e => plF_zero.2 fun i hi => e i (by omega)
def gOf (pc : Nat → List Cl) (pp : Nat → List Pt) (i : Nat) : Int := (chkG (pc i) (pp i)).1
set_option maxRecDepth 20000 in
set_option maxHeartbeats 2000000 in
theorem Check27_any (pc : Nat → List Cl) (pp : Nat → List Pt) (n : Nat) (a : Option Addr) (cap : Nat) (w : World) (h : PSl w a pc pp n) (hn : n ≤ 100000) (hl : ∀ i, i < n → (pc i).length ≤ 2000 ∧ (pp i).length ≤ 2000 ∧ (∀ c ∈ pc i, wfK (ck c)) ∧ (∀ p ∈ pp i, wfK (pk2 p))) (he : EnvK w) :
    Calls Tryd.prog 15 #[.slice a n cap] w fun e W' => e = .returned (.tuple #[.int .i64 (plF (gOf pc pp) n).1, .int .i64 (plF (gOf pc pp) n).2, .int .i64 0]) ∧ Below w.heap.size w W' := by
  obtain ⟨g, hg⟩ : ∃ g, gOf pc pp = g := ⟨_, rfl⟩
  rw [hg]
  obtain ⟨N, hN⟩ : ∃ N, w.heap.size = N := ⟨_, rfl⟩
  have HN : Hid (w.heap.size = N) := hN
  have HV : Hid (∀ W, Below N w W → PSl W a pc pp n ∧ EnvK W) := fun W hW => ⟨h.on hW (by omega), he.below hW (by have := he.size; omega)⟩
  have HG : Hid (∀ i, g i = (chkG (pc i) (pp i)).1) := fun i => by rw [← hg]; rfl
  have HL : Hid (n ≤ 100000 ∧ ∀ i, i < n → (pc i).length ≤ 2000 ∧ (pp i).length ≤ 2000 ∧ (∀ c ∈ pc i, wfK (ck c)) ∧ (∀ p ∈ pp i, wfK (pk2 p))) := ⟨hn, hl⟩
  clear hN h he hg hn hl
  go_enter Tryd.func15, Tryd.ntmps15
  go_wp2_with fail
  go_loopg [5, 6, 14] n (fun gk p q j wr => ∃ i : Nat, i + gk = n ∧ j = .int .i64 i ∧ p = .int .i64 (plF g i).1 ∧ q = .int .i64 (plF g i).2 ∧ Below N w wr)
  case atStart => exact ⟨0, by omega, rfl, rfl, rfl, by rw [← HN.out]; exact Below.refl _ _⟩
  case round =>
    obtain ⟨i, hii, rfl, rfl, rfl, hB⟩ := hrel
    by_cases hi1 : i = n
    · subst hi1
      have HB : Hid (Below N w wr) := hB
      clear hB HV HG HL
      go_wp2
      exact bodyPost_ret (v := .tuple #[.int .i64 (plF g i).1, .int .i64 (plF g i).2, .int .i64 0]) (by simp [results, Tryd.f15, go_sem]) rfl ⟨rfl, by rw [HN.out]; exact HB.out⟩
    · have hi2 : i < n := by omega
      obtain ⟨b, o, u, v, rfl, hbl, c0, c1, hu, hv⟩ := (HV.out wr hB).1 i hi2
      obtain ⟨ua, uc, rfl⟩ := hu.slice
      obtain ⟨va, vc, rfl⟩ := hv.slice
      have hl := HL.out.2 i hi2
      have d0 : (0 : Int) ≤ (i : Int) := by omega
      have d1 : (i : Int) < (n : Int) := by omega
      have hib : i ≤ 100000 := by have := HL.out.1; omega
      obtain ⟨cn, hcn⟩ : ∃ k, (pc i).length = k := ⟨_, rfl⟩
      obtain ⟨pn, hpn⟩ : ∃ k, (pp i).length = k := ⟨_, rfl⟩
      obtain ⟨D, hD⟩ : ∃ D, wr.heap.size = D := ⟨_, rfl⟩
      have hDN : N ≤ D := by have := hB.size; have := HN.out; omega
      have rD := heap_alloc_new wr (.cells #[.slice ua cn uc, .slice va pn vc] 37)
      have hbA := (Below.refl wr.heap.size wr).alloc (Nat.le_refl _) (.cells #[.slice ua cn uc, .slice va pn vc] 37)
      obtain ⟨WA, hWA⟩ : ∃ W, wr.alloc (.cells #[.slice ua cn uc, .slice va pn vc] 37) = W := ⟨_, rfl⟩
      rw [hWA] at rD hbA
      have hu2 := hu.on hbA (Nat.le_refl _)
      have hv2 := hv.on hbA (Nat.le_refl _)
      rw [hD] at rD hbA
      have hBA : Below N w WA := hB.trans (hbA.mono hDN)
      have hzA : WA.heap.size = D + 1 := by rw [← hWA, World.size_alloc, hD]
      have hC := Check24_any ⟨hu2, hv2, hl.1, hl.2.1, hl.2.2.1, hl.2.2.2⟩ (HV.out WA hBA).2
      rw [hcn, hpn] at hC
      rw [hcn] at c0
      rw [hpn] at c1
      rw [← HG.out i] at hC
      obtain ⟨G, hG⟩ : ∃ G, g i = G := ⟨_, rfl⟩
      obtain ⟨G2, hG2⟩ : ∃ G, (chkG (pc i) (pp i)).2 = G := ⟨_, rfl⟩
      rw [hG, hG2] at hC
      obtain ⟨L, hL⟩ : ∃ L, plF g i = L := ⟨_, rfl⟩
      have hnx : plF g (i + 1) = if L.2 = 0 ∧ G ≠ 0 then ((i : Int), G) else L := by rw [plF, hL, hG]
      rw [hL]
      obtain ⟨L1, L2⟩ := L
      have HX : Hid (plF g (i + 1) = if L2 = 0 ∧ G ≠ 0 then ((i : Int), G) else (L1, L2)) := hnx
      have HC : Hid (Calls Tryd.prog 28 #[.slice ua cn uc, .slice va pn vc] WA fun e W' => e = .returned (.tuple #[.int .i64 G, .int .i64 G2, .int .i64 0]) ∧ Below N w W') := hC.mono fun e W' hh => ⟨hh.1, hBA.trans (hh.2.mono (by omega))⟩
      have HWA : Hid (wr.alloc (.cells #[.slice ua cn uc, .slice va pn vc] 37) = WA) := hWA
      have HD : Hid (wr.heap.size = D) := hD
      have x0 := cellB rD 0 _ rfl
      have x1 := cellB rD 1 _ rfl
      clear hB hbl hu hv hl hcn hpn hD hDN rD hbA hWA hu2 hv2 hBA hzA hC hG hG2 hL hnx
      go_upto_region 5 with fail
      rw [HWA.out]
      try rw [HD.out]
      clear c0 c1 HWA HD
      by_cases h1 : L2 = 0
      · subst h1
        by_cases h2 : G = 0
        · subst h2
          have HX2 : Hid (plF g (i + 1) = (L1, 0)) := by have := HX.out; rw [if_neg (by simp)] at this; exact this
          clear HX
          go_wp2_with (go_at_call 28; refine HC.out.mono ?_; clear HC x0 x1; rintro e1 w1 ⟨rfl, hb1⟩)
          have HB : Hid (Below N w w1) := hb1
          clear hb1
          go_roundg (n - (i + 1))
          case measure => omega
          case rel => exact ⟨i + 1, by omega, by go_num, by rw [HX2.out], by rw [HX2.out], HB.out⟩
        · have h3 : (G == 0) = false := by simpa using h2
          have HX2 : Hid (plF g (i + 1) = ((i : Int), G)) := by have := HX.out; rw [if_pos ⟨rfl, h2⟩] at this; exact this
          clear HX h2
          go_wp2_with (go_at_call 28; refine HC.out.mono ?_; clear HC x0 x1; rintro e1 w1 ⟨rfl, hb1⟩)
          have HB : Hid (Below N w w1) := hb1
          clear hb1
          go_roundg (n - (i + 1))
          case measure => omega
          case rel => exact ⟨i + 1, by omega, by go_num, by rw [HX2.out], by rw [HX2.out], HB.out⟩
      · have h3 : (L2 == 0) = false := by simpa using h1
        have HX2 : Hid (plF g (i + 1) = (L1, L2)) := by have := HX.out; rw [if_neg (fun e => h1 e.1)] at this; exact this
        clear HX h1
        go_wp2_with (go_at_call 28; refine HC.out.mono ?_; clear HC x0 x1; rintro e1 w1 ⟨rfl, hb1⟩)
        have HB : Hid (Below N w w1) := hb1
        clear hb1
        go_roundg (n - (i + 1))
        case measure => omega
        case rel => exact ⟨i + 1, by omega, by go_num, by rw [HX2.out], by rw [HX2.out], HB.out⟩
end
section

/-- What stands ahead of a call of the same client. -/
def Pw (y x : Cl) : Prop := y.cl = x.cl → y.no < x.no ∧ y.tt ≠ -1 ∧ y.tt ≤ x.fr
theorem R1_iff {calls : List Cl} : (∀ i, i < calls.length → P1 calls i = false) ↔ (∀ x ∈ calls, okCall x = true) ∧ calls.Pairwise Pw := by
  constructor
  · intro h
    have hr : ∀ i c, calls[i]? = some c → okCall c = true ∧ ∀ k b, k < i → calls[k]? = some b → Pw b c := fun i c hc => by
      have hi : i < calls.length := (List.getElem?_eq_some_iff.1 hc).1
      have h1 := rOne_P1 i hi fun j hj => h j (by omega)
      rw [h i hi, Bool.not_eq_false', rOne_at hc, Bool.and_eq_true, decide_eq_true_eq] at h1
      refine ⟨h1.1, fun k b hk hb e => ?_⟩
      have h2 := fstB_inv h1.2 k hk
      rw [badB_at hb, decide_eq_true e, Bool.true_and, Bool.or_eq_false_iff, Bool.or_eq_false_iff, decide_eq_false_iff_not, decide_eq_false_iff_not, decide_eq_false_iff_not] at h2
      exact ⟨by omega, h2.1.2, by omega⟩
    refine ⟨fun x hx => ?_, ?_⟩
    · obtain ⟨i, hi, e⟩ := List.getElem_of_mem hx
      exact (hr i x (by rw [List.getElem?_eq_getElem hi, e])).1
    · rw [List.pairwise_iff_getElem]
      intro i j hi hj hij
      exact (hr j _ (List.getElem?_eq_getElem hj)).2 i _ hij (List.getElem?_eq_getElem hi)
  · rintro ⟨h1, h2⟩
    rw [List.pairwise_iff_getElem] at h2
    intro i
    induction i using Nat.strongRecOn with
    | ind i ih =>
      intro hi
      have e := rOne_P1 (calls := calls) i hi fun j hj => ih j hj (by omega)
      have hc := List.getElem?_eq_getElem hi
      rw [← e, rOne_at hc, h1 _ (List.getElem_mem hi), Bool.true_and, Bool.not_eq_false', decide_eq_true_eq]
      refine fstB_none fun k hk => ?_
      have hb := List.getElem?_eq_getElem (l := calls) (show k < calls.length by omega)
      rw [badB_at hb]
      by_cases ec : calls[k].cl = calls[i].cl
      · obtain ⟨b1, b2, b3⟩ := h2 k i (by omega) hi hk ec
        rw [decide_eq_true ec, decide_eq_false (show ¬ calls[i].no ≤ calls[k].no by omega), decide_eq_false b2, decide_eq_false (show ¬ calls[i].fr < calls[k].tt by omega)]
        rfl
      · rw [decide_eq_false ec]
        rfl
theorem callOf_some {calls : List Cl} {p : Pt} {c : Cl} (h : callOf calls p = some c) : c ∈ calls ∧ ck c = pk2 p := by
  unfold callOf at h
  cases e : lastI (calls.map ck) p.cl p.no calls.length with
  | none => rw [e] at h; cases h
  | some i =>
    rw [e] at h
    have h : calls[i]? = some c := h
    obtain ⟨_, h2⟩ := lastI_some e
    rw [List.getElem?_map, h] at h2
    exact ⟨List.mem_of_getElem? h, Option.some.inj h2⟩
theorem callOf_mem {calls : List Cl} (h1 : ∀ i, i < calls.length → P1 calls i = false) {p : Pt} {c : Cl} (hc : c ∈ calls) (hk : ck c = pk2 p) : callOf calls p = some c := by
  obtain ⟨j, hj, e⟩ := List.getElem_of_mem hc
  have hj' : calls[j]? = some c := by rw [List.getElem?_eq_getElem hj, e]
  cases e2 : lastI (calls.map ck) p.cl p.no calls.length with
  | none =>
    refine absurd ?_ (lastI_none e2 j hj)
    rw [List.getElem?_map, hj']
    show some (ck c) = _
    rw [hk]
    rfl
  | some i =>
    obtain ⟨x, h3, _, h5⟩ := callOf_lt e2
    have hu := uniq1 h1 h3 hj' ((callOf_some h5).2.trans hk.symm)
    subst hu
    rw [h5, ← h3, hj']
theorem shP_of {calls : List Cl} (h1 : ∀ i, i < calls.length → P1 calls i = false) {p : Pt} {c : Cl} (hc : c ∈ calls) (hk : ck c = pk2 p) : shP calls p = plcK c.op.k := by
  obtain ⟨j, hj, e⟩ := List.getElem_of_mem hc
  have hj' : calls[j]? = some c := by rw [List.getElem?_eq_getElem hj, e]
  unfold shP
  rw [shF_first (fun i x hi hx hkx => by have := uniq1 h1 hx hj' (hkx.trans hk.symm); omega) hj' hk hj]
  rfl
theorem filt_at {α : Type} (f : α → Bool) : ∀ (l : List α) (i : Nat) (p : α), l[i]? = some p → f p = true → ∃ k, (l.filter f)[k]? = some p ∧ (l.filter f).take k = (l.take i).filter f
  | [], i, p, h, _ => by simp at h
  | a :: l, 0, p, h, hf => by
    simp at h
    subst h
    exact ⟨0, by rw [List.filter_cons, if_pos hf]; rfl, by simp⟩
  | a :: l, i + 1, p, h, hf => by
    obtain ⟨k, h1, h2⟩ := filt_at f l i p (by simpa using h) hf
    by_cases ha : f a = true
    · refine ⟨k + 1, by rw [List.filter_cons, if_pos ha]; simpa using h1, ?_⟩
      rw [List.filter_cons, if_pos ha, List.take_succ_cons, List.take_succ_cons, List.filter_cons, if_pos ha, h2]
    · refine ⟨k, by rw [List.filter_cons, if_neg ha]; exact h1, ?_⟩
      rw [List.filter_cons, if_neg ha, List.take_succ_cons, List.filter_cons, if_neg ha, h2]
theorem filt_from {α : Type} (f : α → Bool) : ∀ (l : List α) (k : Nat) (p : α), (l.filter f)[k]? = some p → f p = true ∧ ∃ i : Nat, l[i]? = some p ∧ (l.filter f).take k = (l.take i).filter f
  | [], k, p, h => by simp at h
  | a :: l, k, p, h => by
    by_cases ha : f a = true
    · rw [List.filter_cons, if_pos ha] at h
      cases k with
      | zero =>
        simp at h
        subst h
        exact ⟨ha, 0, by simp, by simp⟩
      | succ k =>
        obtain ⟨h0, i, h1, h2⟩ := filt_from f l k p (by simpa using h)
        refine ⟨h0, i + 1, by simpa using h1, ?_⟩
        rw [List.filter_cons, if_pos ha, List.take_succ_cons, List.take_succ_cons, List.filter_cons, if_pos ha, h2]
    · rw [List.filter_cons, if_neg ha] at h
      obtain ⟨h0, i, h1, h2⟩ := filt_from f l k p h
      refine ⟨h0, i + 1, by simpa using h1, ?_⟩
      rw [List.filter_cons, if_neg ha, List.take_succ_cons, List.filter_cons, if_neg ha, h2]
/-- What a table is depends on the operations of its shard alone. -/
theorem fin_at (s : Nat) : ∀ (l : List Opr) (S S' : Ms), S s = S' s → fin S l s = fin S' (l.filter fun o => plcK o.k == s) s
  | [], _, _, h => h
  | o :: l, S, S', h => by
    by_cases e : plcK o.k = s
    · rw [List.filter_cons, if_pos (by simpa using e)]
      refine fin_at s l (next S o) (next S' o) ?_
      unfold next putM
      rw [e, if_pos rfl, if_pos rfl, h]
    · rw [List.filter_cons, if_neg (by simpa using e)]
      refine fin_at s l (next S o) S' ?_
      unfold next putM
      rw [if_neg (fun h' => e h'.symm), h]
theorem tell_at {S S' : Ms} {o : Opr} (h : S (plcK o.k) = S' (plcK o.k)) : tell S o = tell S' o := by
  unfold tell
  rw [h]
def Cal (calls : List Cl) (pts : List Pt) : Prop := ∀ p ∈ pts, ∃ c, callOf calls p = some c ∧ hasM c p.tm = true
def Uni (pts : List Pt) : Prop := pts.Pairwise fun p q => pk2 p ≠ pk2 q
def Mono (pts : List Pt) : Prop := (∀ p ∈ pts, 0 ≤ p.tm) ∧ pts.Pairwise fun p q => p.tm ≤ q.tm
theorem prev_le {pts : List Pt} (h : Mono pts) {i : Nat} {p : Pt} (hp : pts[i]? = some p) : prevT pts i ≤ p.tm := by
  cases i with
  | zero => exact h.1 p (List.mem_of_getElem? hp)
  | succ i =>
    have hi := (List.getElem?_eq_some_iff.1 hp).1
    have hq := List.getElem?_eq_getElem (l := pts) (show i < pts.length by omega)
    rw [prevT_succ hq]
    have h2 := List.pairwise_iff_getElem.1 h.2 i (i + 1) (by omega) hi (by omega)
    rw [List.getElem?_eq_getElem hi] at hp
    injection hp with hp
    rw [hp] at h2
    exact h2
theorem R2_iff {calls : List Cl} {pts : List Pt} (hm : Mono pts) : (∀ i, i < pts.length → P2 calls pts i = false) ↔ Cal calls pts ∧ Uni pts := by
  constructor
  · intro h
    refine ⟨fun p hp => ?_, ?_⟩
    · obtain ⟨i, hi, e⟩ := List.getElem_of_mem hp
      have hp' : pts[i]? = some p := by rw [List.getElem?_eq_getElem hi, e]
      have h2 := h i hi
      rw [P2_at hp', Bool.or_eq_false_iff, Bool.or_eq_false_iff, Bool.or_eq_false_iff, Bool.not_eq_false', Bool.not_eq_false'] at h2
      obtain ⟨⟨⟨_, h3⟩, h4⟩, _⟩ := h2
      obtain ⟨c, hc⟩ := Option.isSome_iff_exists.1 h3
      rw [hc] at h4
      exact ⟨c, hc, h4⟩
    · refine List.pairwise_iff_getElem.2 fun i j hi hj hij e => ?_
      have h2 := h j hj
      rw [P2_at (List.getElem?_eq_getElem hj), Bool.or_eq_false_iff] at h2
      cases e2 : lastI (pts.map pk2) pts[j].cl pts[j].no j with
      | some q => rw [e2] at h2; cases h2.2
      | none =>
        refine lastI_none e2 i hij ?_
        rw [List.getElem?_map, List.getElem?_eq_getElem hi]
        show some (pk2 pts[i]) = some (pk2 pts[j])
        rw [e]
  · rintro ⟨h1, h2⟩ i hi
    have hp := List.getElem?_eq_getElem hi
    obtain ⟨c, hc, hh⟩ := h1 _ (List.getElem_mem hi)
    rw [P2_at hp, hc, decide_eq_false (show ¬ pts[i].tm < prevT pts i by have := prev_le hm hp; omega)]
    cases e2 : lastI (pts.map pk2) pts[i].cl pts[i].no i with
    | none => simp [hh]
    | some q =>
      exfalso
      obtain ⟨h3, h4⟩ := lastI_some e2
      rw [List.getElem?_map, List.getElem?_eq_getElem (show q < pts.length by omega)] at h4
      have h5 : pk2 pts[q] = pk2 pts[i] := Option.some.inj h4
      exact List.pairwise_iff_getElem.1 h2 q i (by omega) hi h3 h5
def Ans (calls : List Cl) (pts : List Pt) : Prop := ∀ c ∈ calls, c.tt ≠ -1 → ∃ p ∈ pts, pk2 p = ck c
theorem R3_iff {calls : List Cl} {pts : List Pt} : (∀ i, i < calls.length → P3 calls pts i = false) ↔ Ans calls pts := by
  constructor
  · intro h c hc ht
    obtain ⟨i, hi, e⟩ := List.getElem_of_mem hc
    have h2 := h i hi
    rw [P3_at (by rw [List.getElem?_eq_getElem hi, e]), decide_eq_true ht, Bool.and_true, Bool.not_eq_false'] at h2
    obtain ⟨q, hq⟩ := Option.isSome_iff_exists.1 h2
    obtain ⟨h3, h4⟩ := lastI_some hq
    rw [List.getElem?_map, List.getElem?_eq_getElem h3] at h4
    exact ⟨pts[q], List.getElem_mem h3, Option.some.inj h4⟩
  · intro h i hi
    rw [P3_at (List.getElem?_eq_getElem hi)]
    by_cases ht : calls[i].tt = -1
    · rw [decide_eq_false (fun h' => h' ht), Bool.and_false]
    · obtain ⟨p, hp, e⟩ := h _ (List.getElem_mem hi) ht
      obtain ⟨j, hj, e2⟩ := List.getElem_of_mem hp
      cases e3 : lastI (pts.map pk2) calls[i].cl calls[i].no pts.length with
      | some q => rfl
      | none =>
        refine absurd ?_ (lastI_none e3 j hj)
        rw [List.getElem?_map, List.getElem?_eq_getElem hj, e2]
        show some (pk2 p) = some (ck calls[i])
        rw [e]
def Tol (calls : List Cl) (pts : List Pt) : Prop := ∀ i p, pts[i]? = some p → p.an = tell (fin (fun _ => []) ((opsOf calls pts).take i)) (callAt calls p).op ∧ ((callAt calls p).tt ≠ -1 → p.an = (callAt calls p).an)
theorem R4_iff {calls : List Cl} {pts : List Pt} : (∀ i, i < pts.length → P4 calls pts i = false) ↔ Tol calls pts := by
  constructor
  · intro h i p hp
    have h2 := h i (List.getElem?_eq_some_iff.1 hp).1
    rw [P4_at hp, Bool.or_eq_false_iff, decide_eq_false_iff_not, Bool.and_eq_false_iff, decide_eq_false_iff_not, decide_eq_false_iff_not] at h2
    refine ⟨Classical.byContradiction h2.1, fun ht => ?_⟩
    rcases h2.2 with h3 | h3
    · exact absurd ht h3
    · exact Classical.byContradiction h3
  · intro h i hi
    obtain ⟨h1, h2⟩ := h i _ (List.getElem?_eq_getElem hi)
    rw [P4_at (List.getElem?_eq_getElem hi), decide_eq_false (fun h' => h' h1), Bool.false_or]
    by_cases ht : (callAt calls pts[i]).tt = -1
    · rw [decide_eq_false (fun h' => h' ht), Bool.false_and]
    · rw [show decide (pts[i].an ≠ (callAt calls pts[i]).an) = false from decide_eq_false (fun h' => h' (h2 ht)), Bool.and_false]
theorem fst_iff {P : Nat → Bool} {n : Nat} : fstB P n = -1 ↔ ∀ i, i < n → P i = false := ⟨fun h => fstB_inv h, fun h => fstB_none h⟩
theorem chkG_iff {calls : List Cl} {pts : List Pt} : (chkG calls pts).1 = 0 ↔ ∀ r, r < 4 → Rl calls pts r = -1 := by
  constructor
  · intro h
    unfold chkG at h
    by_cases h0 : Rl calls pts 0 ≠ -1
    · rw [if_pos h0] at h; cases h
    rw [if_neg h0] at h
    by_cases h1 : Rl calls pts 1 ≠ -1
    · rw [if_pos h1] at h; cases h
    rw [if_neg h1] at h
    by_cases h2 : Rl calls pts 2 ≠ -1
    · rw [if_pos h2] at h; cases h
    rw [if_neg h2] at h
    by_cases h3 : Rl calls pts 3 ≠ -1
    · rw [if_pos h3] at h; cases h
    intro r hr
    rcases r with _ | _ | _ | _ | r
    · exact Classical.byContradiction h0
    · exact Classical.byContradiction h1
    · exact Classical.byContradiction h2
    · exact Classical.byContradiction h3
    · omega
  · intro h
    rw [chkG_none h]
theorem chk_one {calls : List Cl} {pts : List Pt} (h : (chkG calls pts).1 ≠ 1) : ∀ i, i < calls.length → P1 calls i = false := by
  refine fst_iff.1 (Classical.byContradiction fun hc => h ?_)
  have hc' : Rl calls pts 0 ≠ -1 := hc
  unfold chkG
  rw [if_pos hc']
theorem chk_good {calls : List Cl} {pts : List Pt} (hm : Mono pts) : (chkG calls pts).1 = 0 ↔ (∀ i, i < calls.length → P1 calls i = false) ∧ (Cal calls pts ∧ Uni pts) ∧ Ans calls pts ∧ Tol calls pts := by
  rw [chkG_iff]
  constructor
  · intro h
    exact ⟨fst_iff.1 (h 0 (by omega)), (R2_iff hm).1 (fst_iff.1 (h 1 (by omega))), R3_iff.1 (fst_iff.1 (h 2 (by omega))), R4_iff.1 (fst_iff.1 (h 3 (by omega)))⟩
  · rintro ⟨h1, h2, h3, h4⟩ r hr
    rcases r with _ | _ | _ | _ | r
    · exact fst_iff.2 h1
    · exact fst_iff.2 ((R2_iff hm).2 h2)
    · exact fst_iff.2 (R3_iff.2 h3)
    · exact fst_iff.2 (R4_iff.2 h4)
    · omega
section
variable {calls : List Cl} {pts : List Pt} (h1 : ∀ i, i < calls.length → P1 calls i = false)
include h1
theorem part1 (s : Nat) : ∀ i, i < (partC calls s).length → P1 (partC calls s) i = false := by
  obtain ⟨a, b⟩ := R1_iff.1 h1
  exact R1_iff.2 ⟨fun x hx => a x (List.mem_filter.1 hx).1, b.filter _⟩
theorem part_call {s : Nat} {p : Pt} {c : Cl} : callOf (partC calls s) p = some c ↔ callOf calls p = some c ∧ plcK c.op.k = s := by
  constructor
  · intro h
    obtain ⟨a, b⟩ := callOf_some h
    obtain ⟨a1, a2⟩ := List.mem_filter.1 a
    exact ⟨callOf_mem h1 a1 b, by simpa using a2⟩
  · rintro ⟨h, e⟩
    obtain ⟨a, b⟩ := callOf_some h
    exact callOf_mem (part1 h1 s) (List.mem_filter.2 ⟨a, by simpa using e⟩) b
theorem part_cal : Cal calls pts ↔ ∀ s, s < 4 → Cal (partC calls s) (partP calls pts s) := by
  constructor
  · intro h s hs p hp
    obtain ⟨a, b⟩ := List.mem_filter.1 hp
    obtain ⟨c, hc, hh⟩ := h p a
    obtain ⟨c1, c2⟩ := callOf_some hc
    have := shP_of h1 c1 c2
    exact ⟨c, (part_call h1).2 ⟨hc, by rw [← this]; simpa using b⟩, hh⟩
  · intro h p hp
    obtain ⟨c, hc, hh⟩ := h (shP calls p) (shP_lt calls p) p (List.mem_filter.2 ⟨hp, by simp⟩)
    exact ⟨c, ((part_call h1).1 hc).1, hh⟩
omit h1 in
theorem part_uni (hk : ∀ p q, pk2 p = pk2 q → shP calls p = shP calls q) : Uni pts ↔ ∀ s, s < 4 → Uni (partP calls pts s) := by
  constructor
  · exact fun h s _ => List.Pairwise.filter _ h
  · intro h
    refine List.pairwise_iff_forall_sublist.2 fun {p q} hs e => ?_
    have e2 := hk p q e
    have h4 := hs.filter fun x => shP calls x == shP calls p
    rw [List.filter_cons, if_pos (by simp), List.filter_cons, if_pos (by simp [e2])] at h4
    exact List.pairwise_iff_forall_sublist.1 (h (shP calls p) (shP_lt calls p)) h4 e
theorem part_ans : Ans calls pts ↔ ∀ s, s < 4 → Ans (partC calls s) (partP calls pts s) := by
  constructor
  · intro h s hs c hcm ht
    obtain ⟨a, b⟩ := List.mem_filter.1 hcm
    obtain ⟨p, hp, e⟩ := h c a ht
    have := shP_of h1 a e.symm
    exact ⟨p, List.mem_filter.2 ⟨hp, by rw [this]; exact b⟩, e⟩
  · intro h c hcm ht
    obtain ⟨p, hp, e⟩ := h (plcK c.op.k) (plcK_lt _) c (List.mem_filter.2 ⟨hcm, by simp⟩) ht
    exact ⟨p, (List.mem_filter.1 hp).1, e⟩
theorem part_ops (hc : Cal calls pts) (s : Nat) (l : List Pt) (hl : ∀ p ∈ l, p ∈ pts) : ((l.map fun p => (callAt calls p).op).filter fun o => plcK o.k == s) = (l.filter fun p => shP calls p == s).map fun p => (callAt (partC calls s) p).op := by
  induction l with
  | nil => rfl
  | cons p l ih =>
    have ih := ih fun q hq => hl q (List.mem_cons_of_mem _ hq)
    obtain ⟨c, hcc, _⟩ := hc p (hl p (List.mem_cons_self ..))
    obtain ⟨c1, c2⟩ := callOf_some hcc
    have hs := shP_of h1 c1 c2
    have hca : callAt calls p = c := by rw [callAt, hcc]; rfl
    rw [List.map_cons, List.filter_cons, List.filter_cons, hca, hs]
    by_cases e : plcK c.op.k = s
    · have hp2 : callAt (partC calls s) p = c := by rw [callAt, (part_call h1).2 ⟨hcc, e⟩]; rfl
      rw [if_pos (by simpa using e), if_pos (by simpa using e), List.map_cons, hp2, ih]
    · rw [if_neg (by simpa using e), if_neg (by simpa using e), ih]
theorem part_tol (hc : Cal calls pts) : Tol calls pts ↔ ∀ s, s < 4 → Tol (partC calls s) (partP calls pts s) := by
  have key : ∀ i p k, pts[i]? = some p → (partP calls pts (shP calls p)).take k = (pts.take i).filter (fun x => shP calls x == shP calls p) → tell (fin (fun _ => []) ((opsOf calls pts).take i)) (callAt calls p).op = tell (fin (fun _ => []) ((opsOf (partC calls (shP calls p)) (partP calls pts (shP calls p))).take k)) (callAt (partC calls (shP calls p)) p).op ∧ callAt calls p = callAt (partC calls (shP calls p)) p := fun i p k hp hk => by
    obtain ⟨c, hcc, _⟩ := hc p (List.mem_of_getElem? hp)
    obtain ⟨c1, c2⟩ := callOf_some hcc
    have hs := shP_of h1 c1 c2
    have hca : callAt calls p = c := by rw [callAt, hcc]; rfl
    have hp2 : callAt (partC calls (shP calls p)) p = c := by rw [callAt, (part_call h1).2 ⟨hcc, hs.symm⟩]; rfl
    refine ⟨?_, hca.trans hp2.symm⟩
    rw [hca, hp2]
    refine tell_at ?_
    rw [← hs]
    rw [fin_at (shP calls p) _ _ (fun _ => []) rfl]
    congr 1
    unfold opsOf
    rw [← List.map_take, ← List.map_take, part_ops h1 hc _ _ fun q hq => List.mem_of_mem_take hq]
    congr 1
    rw [hk]
  constructor
  · intro h s hs k p hp
    obtain ⟨e, i, hi, ht⟩ := filt_from _ _ _ _ hp
    have e : shP calls p = s := by simpa using e
    subst e
    obtain ⟨k1, k2⟩ := key i p k hi ht
    obtain ⟨a, b⟩ := h i p hi
    rw [k1] at a
    rw [k2] at b
    exact ⟨a, b⟩
  · intro h i p hi
    obtain ⟨k, hk, ht⟩ := filt_at (fun x => shP calls x == shP calls p) pts i p hi (by simp)
    obtain ⟨k1, k2⟩ := key i p k hi ht
    obtain ⟨a, b⟩ := h (shP calls p) (shP_lt calls p) k p hk
    rw [← k1] at a
    rw [← k2] at b
    exact ⟨a, b⟩
end
theorem local_iff {calls : List Cl} {pts : List Pt} (h1 : ∀ i, i < calls.length → P1 calls i = false) (hm : Mono pts) : (chkG calls pts).1 = 0 ↔ ∀ s, s < 4 → (chkG (partC calls s) (partP calls pts s)).1 = 0 := by
  have hmp : ∀ s, Mono (partP calls pts s) := fun s => ⟨fun p hp => hm.1 p (List.mem_filter.1 hp).1, hm.2.filter _⟩
  have hk : ∀ p q, pk2 p = pk2 q → shP calls p = shP calls q := fun p q e => by
    have e1 : p.cl = q.cl := congrArg Prod.fst e
    have e2 : p.no = q.no := congrArg Prod.snd e
    unfold shP
    rw [e1, e2]
  rw [chk_good hm]
  constructor
  · rintro ⟨_, ⟨h2, h3⟩, h4, h5⟩ s hs
    exact (chk_good (hmp s)).2 ⟨part1 h1 s, ⟨(part_cal h1).1 h2 s hs, (part_uni hk).1 h3 s hs⟩, (part_ans h1).1 h4 s hs, (part_tol h1 h2).1 h5 s hs⟩
  · intro h
    have hg := fun s hs => (chk_good (hmp s)).1 (h s hs)
    have h2 := (part_cal (pts := pts) h1).2 fun s hs => (hg s hs).2.1.1
    exact ⟨h1, ⟨h2, (part_uni hk).2 fun s hs => (hg s hs).2.1.2⟩, (part_ans h1).2 fun s hs => (hg s hs).2.2.1, (part_tol h1 h2).2 fun s hs => (hg s hs).2.2.2⟩
end
section
open Go.RowKit Go.Maps
attribute [local go_sem ↓] Go.wp_at_zero Go.wp_at_succ

theorem Mono.snoc {l : List Pt} {n : Nat} {p : Pt} (h : Mono (l.take n)) (hp : l[n]? = some p) (h0 : 0 ≤ p.tm) (h1 : ∀ q, 0 < n → l[n - 1]? = some q → q.tm ≤ p.tm) : Mono (l.take (n + 1)) := by
  rw [take_snoc hp]
  refine ⟨fun q hq => ?_, List.pairwise_append.2 ⟨h.2, List.pairwise_singleton .., fun a ha b hb => ?_⟩⟩
  · rcases List.mem_append.1 hq with hq | hq
    · exact h.1 q hq
    · rw [List.mem_singleton.1 hq]; exact h0
  · rw [List.mem_singleton.1 hb]
    obtain ⟨j, hj, e⟩ := List.getElem_of_mem ha
    have hjn : j < n := by rw [List.length_take] at hj; omega
    have hn : n < l.length := (List.getElem?_eq_some_iff.1 hp).1
    have hq := List.getElem?_eq_getElem (l := l) (show n - 1 < l.length by omega)
    have h2 := h1 _ (by omega) hq
    have e2 : l[j] = a := by rw [← e, List.getElem_take]
    by_cases ej : j = n - 1
    · subst ej; rw [← e2]; exact h2
    · have h3 := List.pairwise_iff_getElem.1 h.2 j (n - 1) hj (by rw [List.length_take]; omega) (by omega)
      rw [List.getElem_take, List.getElem_take, e2] at h3
      omega
theorem prt_psl {cl : Nat → List Cl} {pl : Nat → List Pt} {B : Nat} {U V : Nat → Value} {W : World} (h : Prt cl pl B U V W) : PSl W (some ⟨B, 0, none⟩) cl pl 4 := fun i hi => by
  have hb := (Array.getElem?_eq_some_iff.1 h.box).1
  refine ⟨B, 0, U i, V i, rfl, hb, ?_, ?_, h.cs i hi, h.ps i hi⟩
  · rw [Nat.zero_add]
    refine cellB h.box _ _ ?_
    rcases i with _ | _ | _ | _ | i
    · rfl
    · rfl
    · rfl
    · rfl
    · omega
  · rw [Nat.zero_add]
    refine cellB h.box _ _ ?_
    rcases i with _ | _ | _ | _ | i
    · rfl
    · rfl
    · rfl
    · rfl
    · omega
set_option maxRecDepth 20000 in
set_option maxHeartbeats 4000000 in
theorem local_any (calls : List Cl) (pts : List Pt) (vc vp : Value) (w : World) (hc : SlF ccs 10 w vc calls) (hp : SlF pks 5 w vp pts) (wc : ∀ c ∈ calls, wfK (ck c)) (wp : ∀ p ∈ pts, wfK (pk2 p)) (hk : ∀ c ∈ calls, c.op.k.length ≤ 140737488351232) (hlb : calls.length ≤ 3000000000000) (he : EnvK w) : Calls Tryd.prog 6 #[vc, vp] w fun e W' => e = .returned (.bool true) ∧ Below w.heap.size w W' := by
  obtain ⟨pa, pcap, rfl⟩ := hp.slice
  have hLg := large_any calls vc pa pts.length pcap w hc hk hlb
  obtain ⟨va, vcap, rfl⟩ := hc.slice
  obtain ⟨N, hN⟩ : ∃ N, w.heap.size = N := ⟨_, rfl⟩
  have HP : Hid (∀ W, Below N w W → Calls Tryd.prog 8 #[] W fun e W' => e = .returned (.bool true) ∧ Below N w W') := fun W hW => (parts_any W (he.below hW (by have := he.size; omega))).mono fun e W' hh => ⟨hh.1, hW.trans (hh.2.mono (by have := hW.size; omega))⟩
  have HN : Hid (w.heap.size = N) := hN
  rw [hN] at hLg
  cases hb : lgB calls pts.length with
  | true =>
    rw [hb] at hLg
    clear hc hp hk he hN hb wc wp hlb
    go_enter Tryd.func6, Tryd.ntmps6
    go_upto_region 2 with (go_at_call 7; refine hLg.mono ?_; clear hLg; rintro e w1 ⟨rfl, hb1⟩)
    have hP := HP.out w1 hb1
    clear hb1
    go_wp2_with (go_at_call 8; refine hP.mono ?_; clear hP; rintro e w2 ⟨rfl, hb2⟩)
    go_ret
    exact ⟨rfl, by rw [HN.out]; exact hb2⟩
  | false =>
    rw [hb] at hLg
    obtain ⟨l1, l2, -⟩ := lgB_no hb
    obtain ⟨G, hG⟩ : ∃ G, chkG calls pts = G := ⟨_, rfl⟩
    obtain ⟨G1, G2⟩ := G
    obtain ⟨F, hF⟩ : ∃ F, plF (gOf (partC calls) (partP calls pts)) 4 = F := ⟨_, rfl⟩
    obtain ⟨F1, F2⟩ := F
    have H1 : Hid (∀ W, Below N w W → Calls Tryd.prog 9 #[.slice va calls.length vcap, .slice pa pts.length pcap] W fun e W' => ∃ B, e = .returned (.tuple #[.slice (some ⟨B, 0, none⟩) 4 4, .int .i64 0]) ∧ PSl W' (some ⟨B, 0, none⟩) (partC calls) (partP calls pts) 4 ∧ Below W.heap.size W W' ∧ Below N w W') := fun W hW => (Split_any calls pts _ _ W (hc.on hW (by omega)) (hp.on hW (by omega)) (by omega) (by omega) wc wp hk (he.below hW (by have := he.size; omega))).mono fun e W' hh => by
      obtain ⟨B, U, V, h1, h2, h3⟩ := hh
      exact ⟨B, h1, prt_psl h2, h3, hW.trans (h3.mono (by have := hW.size; omega))⟩
    have H2 : Hid (∀ W, Below N w W → Calls Tryd.prog 11 #[.slice va calls.length vcap] W fun e W' => ∃ u, e = .returned u ∧ SlF ccs 10 W' u calls ∧ Below N w W') := fun W hW => (calls_any calls _ W (hc.on hW (by omega)) (by omega)).mono fun e W' hh => by
      obtain ⟨u, h1, h2, h3⟩ := hh
      exact ⟨u, h1, h2, hW.trans (h3.mono (by have := hW.size; omega))⟩
    have H3 : Hid (∀ W u, Below N w W → SlF ccs 10 W u calls → Calls Tryd.prog 12 #[.slice pa pts.length pcap] W fun e W' => ∃ x, e = .returned x ∧ SlF pks 5 W' x pts ∧ SlF ccs 10 W' u calls ∧ Below N w W') := fun W u hW hu => (points_any pts _ W (hp.on hW (by omega)) (by omega)).mono fun e W' hh => by
      obtain ⟨x, h1, h2, h3⟩ := hh
      exact ⟨x, h1, h2, hu.on h3 (Nat.le_refl _), hW.trans (h3.mono (by have := hW.size; omega))⟩
    have H4 : Hid (∀ W u x, Below N w W → SlF ccs 10 W u calls → SlF pks 5 W x pts → Calls Tryd.prog 20 #[u, x] W fun e W' => e = .returned (.tuple #[.agg #[.int .i64 G1, .int .i64 G2], .int .i64 0]) ∧ Below N w W') := fun W u x hW hu hx => (rCheck24_any calls pts u x W hu hx (by omega) (by omega)).mono fun e W' hh => by rw [hG] at hh; exact ⟨hh.1, hW.trans (hh.2.mono (by have := hW.size; omega))⟩
    have H5 : Hid (∀ W B, Below N w W → PSl W (some ⟨B, 0, none⟩) (partC calls) (partP calls pts) 4 → Calls Tryd.prog 15 #[.slice (some ⟨B, 0, none⟩) 4 4] W fun e W' => e = .returned (.tuple #[.int .i64 F1, .int .i64 F2, .int .i64 0]) ∧ Below W.heap.size W W' ∧ Below N w W') := fun W B hW hB => (Check27_any (partC calls) (partP calls pts) 4 _ 4 W hB (by omega) (fun i hi => ⟨Nat.le_trans (List.length_filter_le _ _) (by omega), Nat.le_trans (List.length_filter_le _ _) (by omega), fun c hcm => wc c (List.mem_filter.1 hcm).1, fun p hpm => wp p (List.mem_filter.1 hpm).1⟩) (he.below hW (by have := he.size; omega))).mono fun e W' hh => by rw [hF] at hh; exact ⟨hh.1, hh.2, hW.trans (hh.2.mono (by have := hW.size; omega))⟩
    have HVP : Hid (∀ W, Below N w W → SlF pks 5 W (.slice pa pts.length pcap) pts) := fun W hW => hp.on hW (by omega)
    have HLB : Hid (pts.length ≤ 80) := l2
    have HLO : Hid (G1 ≠ 1 → Mono pts → (F2 = 0 ↔ G1 = 0)) := fun h1 hm => by
      have e1 : (chkG calls pts).1 = G1 := by rw [hG]
      have e2 : (plF (gOf (partC calls) (partP calls pts)) 4).2 = F2 := by rw [hF]
      rw [← e1, ← e2, plF_zero]
      rw [← e1] at h1
      exact (local_iff (chk_one h1) hm).symm
    clear hc hp hk he hN hb wc wp hlb l1 l2 hG hF
    go_enter Tryd.func6, Tryd.ntmps6
    go_upto_region 3 with (go_at_call 7; refine hLg.mono ?_; clear hLg; rintro e w1 ⟨rfl, hb1⟩)
    have HB1 : Hid (Below N w w1) := hb1
    clear hb1
    go_wp2_with fail
    go_loopg [20] pts.length (fun gk j wr => ∃ i : Nat, i + gk = pts.length ∧ j = .int .i64 i ∧ Mono (pts.take i) ∧ Below N w wr)
    case atStart => exact ⟨0, by omega, rfl, ⟨fun p hp => (by cases hp), List.Pairwise.nil⟩, HB1.out⟩
    case round =>
      obtain ⟨i, hii, rfl, hM, hB⟩ := hrel
      by_cases hi1 : i = pts.length
      · subst hi1
        rw [List.take_length] at hM
        have HLO2 : Hid (G1 ≠ 1 → (F2 = 0 ↔ G1 = 0)) := fun h => HLO.out h hM
        have h2 := H2.out wr hB
        clear HLO hM hB HVP HB1
        go_upto_region 10 with (first
          | (go_at_call 11; refine h2.mono ?_; clear h2; rintro e w3 ⟨u, rfl, hu, hb3⟩; have h3 := H3.out w3 u hb3 hu)
          | (go_at_call 12; refine h3.mono ?_; clear h3; rintro e w4 ⟨x, rfl, hx, hu4, hb4⟩; have h4 := H4.out w4 u x hb4 hu4 hx)
          | (go_at_call 20; refine h4.mono ?_; clear h4; rintro e w5 ⟨rfl, hb5⟩))
        have rG := heap_alloc_new w5 (.cells #[.int .i64 G1, .int .i64 G2] 60)
        have hb6 : Below N w (w5.alloc (.cells #[.int .i64 G1, .int .i64 G2] 60)) := hb5.alloc (by have := hb5.size; have := HN.out; omega) _
        obtain ⟨X, hX⟩ : ∃ X, w5.heap.size = X := ⟨_, rfl⟩
        obtain ⟨W6, hW6⟩ : ∃ W, w5.alloc (.cells #[.int .i64 G1, .int .i64 G2] 60) = W := ⟨_, rfl⟩
        rw [hW6] at rG hb6 ⊢
        rw [hX] at rG
        try rw [hX]
        have hX6 : X < W6.heap.size := (Array.getElem?_eq_some_iff.1 rG).1
        have y0 := cellB rG 0 _ rfl
        have HR6 : Hid (W6.heap[X]? = some (.cells #[.int .i64 G1, .int .i64 G2] 60) ∧ Below N w W6 ∧ X < W6.heap.size) := ⟨rG, hb6, hX6⟩
        clear hu hb3 hx hu4 hb4 hb5 rG hb6 hW6 hX hX6 H2 H3 H4
        by_cases g1 : G1 = 1
        · subst g1
          have hP := HP.out W6 HR6.out.2.1
          clear H1 H5 HLO2
          go_wp2_with (go_at_call 8; refine hP.mono ?_; clear hP; rintro e w7 ⟨rfl, hb7⟩)
          go_ret
          exact ⟨rfl, by rw [HN.out]; exact hb7⟩
        · have g2 : (G1 == 1) = false := by simpa using g1
          have hiff := HLO2.out g1
          have HQ : Hid (_ ↔ _) := hiff
          clear HLO2 g1 hiff
          go_upto_region 12 with fail
          have h1 := H1.out W6 HR6.out.2.1
          go_upto_region 13 with (go_at_call 9; refine h1.mono ?_; clear h1; rintro e w7 ⟨B, rfl, hPS, hb67, hb7⟩)
          have h5 := H5.out w7 B hb7 hPS
          have hk7 := hb67.size
          clear hPS
          go_upto_region 14 with (go_at_call 15; refine h5.mono ?_; clear h5; rintro e w8 ⟨rfl, hb78, hb8⟩)
          have hx8 : w8.heap[X]? = some (.cells #[.int .i64 G1, .int .i64 G2] 60) := ((hb78.block X (by have := HR6.out.2.2; omega)).trans (hb67.block X HR6.out.2.2)).trans HR6.out.1
          have z0 := cellB hx8 0 _ rfl
          have hP := HP.out w8 hb8
          clear hx8 hb78 hb8 hb67 hb7 hk7 y0 H1 H5
          by_cases f0 : F2 = 0
          · have g0 : G1 = 0 := HQ.out.1 f0
            subst f0
            subst g0
            clear HQ
            go_wp2_with (go_at_call 8; refine hP.mono ?_; clear hP; rintro e w9 ⟨rfl, hb9⟩)
            go_ret
            exact ⟨rfl, by rw [HN.out]; exact hb9⟩
          · have g0 : ¬ G1 = 0 := fun e => f0 (HQ.out.2 e)
            have f1 : (F2 == 0) = false := by simpa using f0
            have g3 : (G1 == 0) = false := by simpa using g0
            clear HQ f0 g0
            go_wp2_with (go_at_call 8; refine hP.mono ?_; clear hP; rintro e w9 ⟨rfl, hb9⟩)
            go_ret
            exact ⟨rfl, by rw [HN.out]; exact hb9⟩
      · have hi2 : i < pts.length := by omega
        obtain ⟨p, ho⟩ : ∃ p, pts[i]? = some p := ⟨_, List.getElem?_eq_getElem hi2⟩
        have hMs := fun h0 h1 => hM.snoc ho h0 h1
        obtain ⟨g, e', hg', -, y⟩ := (HVP.out _ hB).at ho
        subst hg'
        obtain ⟨tm, pcl, pno, pT, pE⟩ := p
        have y0 : wr.cell? ⟨g, e' + i * 5, none⟩ = some (.int .i64 tm) := y 0 _ rfl
        have y1 : wr.cell? ⟨g, e' + i * 5 + 1, none⟩ = some (.int .i64 pcl) := y 1 _ rfl
        have y2 : wr.cell? ⟨g, e' + i * 5 + 2, none⟩ = some (.int .i64 pno) := y 2 _ rfl
        have y3 : wr.cell? ⟨g, e' + i * 5 + 3, none⟩ = some (.int .i64 pE) := y 3 _ rfl
        have y4 : wr.cell? ⟨g, e' + i * 5 + 4, none⟩ = some (.string (bs pT)) := y 4 _ rfl
        have d0 : (0 : Int) ≤ (i : Int) := by omega
        have d1 : (i : Int) < (pts.length : Int) := by omega
        have hib : i ≤ 100000 := by have := HLB.out; omega
        obtain ⟨D, hD⟩ : ∃ D, wr.heap.size = D := ⟨_, rfl⟩
        have hDN : N ≤ D := by have := hB.size; have := HN.out; omega
        have rD := heap_alloc_new wr (.cells #[.int .i64 tm, .int .i64 pcl, .int .i64 pno, .int .i64 pE, .string (bs pT)] 56)
        have hbA := (Below.refl wr.heap.size wr).alloc (Nat.le_refl _) (.cells #[.int .i64 tm, .int .i64 pcl, .int .i64 pno, .int .i64 pE, .string (bs pT)] 56)
        obtain ⟨WA, hWA⟩ : ∃ W, wr.alloc (.cells #[.int .i64 tm, .int .i64 pcl, .int .i64 pno, .int .i64 pE, .string (bs pT)] 56) = W := ⟨_, rfl⟩
        rw [hWA] at rD hbA
        rw [hD] at rD hbA
        have HBA : Hid (Below N w WA.drew) := below_drew (hB.trans (hbA.mono hDN))
        have HV2 : Hid (SlF pks 5 WA (.slice (some ⟨g, e', none⟩) pts.length pcap) pts) := HVP.out _ (hB.trans (hbA.mono hDN))
        have HMs : Hid (0 ≤ tm → (∀ q, 0 < i → pts[i - 1]? = some q → q.tm ≤ tm) → Mono (pts.take (i + 1))) := hMs
        have HWA : Hid (wr.alloc (.cells #[.int .i64 tm, .int .i64 pcl, .int .i64 pno, .int .i64 pE, .string (bs pT)] 56) = WA) := hWA
        have HD : Hid (wr.heap.size = D) := hD
        have x0 := cellB rD 0 _ rfl
        clear y hB hDN rD hbA hWA hD hMs ho hM HB1
        go_upto_region 6 with fail
        rw [HWA.out]
        try rw [HD.out]
        clear y0 y1 y2 y3 y4 HWA HD
        by_cases t0 : tm < 0
        · clear HV2 HMs HLO H1 H2 H3 H4 H5 HVP
          refine region_Z 99 (fun W => W.cell? ⟨D, 0, none⟩ = some (.int .i64 tm)) (by kernel_rfl) ?_
          have hS0 : WA.drew.cell? ⟨D, 0, none⟩ = some (.int .i64 tm) := x0
          refine Y_take (i := 0) (v := ?_) rfl (by kernel_rfl) (by kernel_rfl) (by kernel_rfl) (by kernel_rfl) (fun _ _ _ h => h) (by rfl) hS0 ?_ ?_
          rotate_left
          · (intro w' hSw; have p0 := hSw; (try go_simp); (try with_reducible rfl))
          simp only [Act.put, List.setIfInBounds_toArray, List.getElem_toArray, List.getElem_cons_zero, List.set_cons_succ, List.set_cons_zero]
          refine Y_take (i := 1) (v := ?_) rfl (by kernel_rfl) (by kernel_rfl) (by kernel_rfl) (by kernel_rfl) (fun _ _ _ h => h) (by rfl) hS0 ?_ ?_
          rotate_left
          · (intro w' hSw; have p0 := hSw; (try go_simp); (try with_reducible rfl))
          simp only [Act.put, List.setIfInBounds_toArray, List.getElem_toArray, List.getElem_cons_succ, List.getElem_cons_zero, List.set_cons_succ, List.set_cons_zero]
          refine Y_take (i := 2) (v := ?_) rfl (by kernel_rfl) (by kernel_rfl) (by kernel_rfl) (by kernel_rfl) (fun _ _ _ h => h) (by rfl) hS0 ?_ ?_
          rotate_left
          · (intro w' hSw; have p0 := hSw; (try go_simp); (try with_reducible rfl))
          simp only [Act.put, List.setIfInBounds_toArray, List.getElem_toArray, List.getElem_cons_succ, List.getElem_cons_zero, List.set_cons_succ, List.set_cons_zero]
          refine Y_take (i := 3) (v := ?_) rfl (by kernel_rfl) (by kernel_rfl) (by kernel_rfl) (by kernel_rfl) (fun _ _ _ h => h) (by rfl) hS0 ?_ ?_
          rotate_left
          · (intro w' hSw; have p0 := hSw; (try go_simp); (try with_reducible rfl))
          simp only [Act.put, List.setIfInBounds_toArray, List.getElem_toArray, List.getElem_cons_succ, List.getElem_cons_zero, List.set_cons_succ, List.set_cons_zero]
          refine Y_skip (i := 4) rfl (by kernel_rfl) (by kernel_rfl) (by kernel_rfl) (by kernel_rfl) (fun _ _ _ h => h) (by rfl) hS0 ?_
          simp only [Act.put, List.setIfInBounds_toArray, List.getElem_toArray, List.getElem_cons_succ, List.getElem_cons_zero, List.set_cons_succ, List.set_cons_zero]
          refine Y_skip (i := 5) rfl (by kernel_rfl) (by kernel_rfl) (by kernel_rfl) (by kernel_rfl) (fun _ _ _ h => h) (by rfl) hS0 ?_
          simp only [Act.put, List.setIfInBounds_toArray, List.getElem_toArray, List.getElem_cons_succ, List.getElem_cons_zero, List.set_cons_succ, List.set_cons_zero]
          refine Y_skip (i := 6) rfl (by kernel_rfl) (by kernel_rfl) (by kernel_rfl) (by kernel_rfl) (fun _ _ _ h => h) (by rfl) hS0 ?_
          simp only [Act.put, List.setIfInBounds_toArray, List.getElem_toArray, List.getElem_cons_succ, List.getElem_cons_zero, List.set_cons_succ, List.set_cons_zero]
          refine Y_skip (i := 7) rfl (by kernel_rfl) (by kernel_rfl) (by kernel_rfl) (by kernel_rfl) (fun _ _ _ h => h) (by rfl) hS0 ?_
          simp only [Act.put, List.setIfInBounds_toArray, List.getElem_toArray, List.getElem_cons_succ, List.getElem_cons_zero, List.set_cons_succ, List.set_cons_zero]
          refine Y_skip (i := 8) rfl (by kernel_rfl) (by kernel_rfl) (by kernel_rfl) (by kernel_rfl) (fun _ _ _ h => h) (by rfl) hS0 ?_
          simp only [Act.put, List.setIfInBounds_toArray, List.getElem_toArray, List.getElem_cons_succ, List.getElem_cons_zero, List.set_cons_succ, List.set_cons_zero]
          refine Y_skip (i := 9) rfl (by kernel_rfl) (by kernel_rfl) (by kernel_rfl) (by kernel_rfl) (fun _ _ _ h => h) (by rfl) hS0 ?_
          simp only [Act.put, List.setIfInBounds_toArray, List.getElem_toArray, List.getElem_cons_succ, List.getElem_cons_zero, List.set_cons_succ, List.set_cons_zero]
          refine Y_skip (i := 10) rfl (by kernel_rfl) (by kernel_rfl) (by kernel_rfl) (by kernel_rfl) (fun _ _ _ h => h) (by rfl) hS0 ?_
          simp only [Act.put, List.setIfInBounds_toArray, List.getElem_toArray, List.getElem_cons_succ, List.getElem_cons_zero, List.set_cons_succ, List.set_cons_zero]
          refine Y_skip (i := 11) rfl (by kernel_rfl) (by kernel_rfl) (by kernel_rfl) (by kernel_rfl) (fun _ _ _ h => h) (by rfl) hS0 ?_
          simp only [Act.put, List.setIfInBounds_toArray, List.getElem_toArray, List.getElem_cons_succ, List.getElem_cons_zero, List.set_cons_succ, List.set_cons_zero]
          refine Y_skip (i := 12) rfl (by kernel_rfl) (by kernel_rfl) (by kernel_rfl) (by kernel_rfl) (fun _ _ _ h => h) (by rfl) hS0 ?_
          simp only [Act.put, List.setIfInBounds_toArray, List.getElem_toArray, List.getElem_cons_succ, List.getElem_cons_zero, List.set_cons_succ, List.set_cons_zero]
          refine Y_skip (i := 13) rfl (by kernel_rfl) (by kernel_rfl) (by kernel_rfl) (by kernel_rfl) (fun _ _ _ h => h) (by rfl) hS0 ?_
          simp only [Act.put, List.setIfInBounds_toArray, List.getElem_toArray, List.getElem_cons_succ, List.getElem_cons_zero, List.set_cons_succ, List.set_cons_zero]
          refine Y_skip (i := 14) rfl (by kernel_rfl) (by kernel_rfl) (by kernel_rfl) (by kernel_rfl) (fun _ _ _ h => h) (by rfl) hS0 ?_
          simp only [Act.put, List.setIfInBounds_toArray, List.getElem_toArray, List.getElem_cons_succ, List.getElem_cons_zero, List.set_cons_succ, List.set_cons_zero]
          refine Y_skip (i := 15) rfl (by kernel_rfl) (by kernel_rfl) (by kernel_rfl) (by kernel_rfl) (fun _ _ _ h => h) (by rfl) hS0 ?_
          simp only [Act.put, List.setIfInBounds_toArray, List.getElem_toArray, List.getElem_cons_succ, List.getElem_cons_zero, List.set_cons_succ, List.set_cons_zero]
          refine Y_skip (i := 16) rfl (by kernel_rfl) (by kernel_rfl) (by kernel_rfl) (by kernel_rfl) (fun _ _ _ h => h) (by rfl) hS0 ?_
          simp only [Act.put, List.setIfInBounds_toArray, List.getElem_toArray, List.getElem_cons_succ, List.getElem_cons_zero, List.set_cons_succ, List.set_cons_zero]
          refine Y_take (i := 17) (v := ?_) rfl (by kernel_rfl) (by kernel_rfl) (by kernel_rfl) (by kernel_rfl) (fun _ _ _ h => h) (by rfl) hS0 ?_ ?_
          rotate_left
          · (intro w' hSw; have p0 := hSw; (try go_simp); (try with_reducible rfl))
          simp only [Act.put, List.setIfInBounds_toArray, List.getElem_toArray, List.getElem_cons_succ, List.getElem_cons_zero, List.set_cons_succ, List.set_cons_zero]
          refine Z_done (by kernel_rfl) ?_ _
          clear hS0
          have hP := HP.out _ HBA.out
          go_wp2_with (go_at_call 8; refine hP.mono ?_; clear hP; rintro e w6 ⟨rfl, hb6⟩)
          go_ret
          exact ⟨rfl, by rw [HN.out]; exact hb6⟩
        · by_cases hi0 : i = 0
          · subst hi0
            have HM2 : Hid (Mono (pts.take (0 + 1))) := HMs.out (by omega) (fun q h => by omega)
            clear HV2 HMs
            refine region_Z 99 (fun W => W.cell? ⟨D, 0, none⟩ = some (.int .i64 tm)) (by kernel_rfl) ?_
            have hS0 : WA.drew.cell? ⟨D, 0, none⟩ = some (.int .i64 tm) := x0
            refine Y_take (i := 0) (v := ?_) rfl (by kernel_rfl) (by kernel_rfl) (by kernel_rfl) (by kernel_rfl) (fun _ _ _ h => h) (by rfl) hS0 ?_ ?_
            rotate_left
            · (intro w' hSw; have p0 := hSw; (try go_simp); (try with_reducible rfl))
            simp only [Act.put, List.setIfInBounds_toArray, List.getElem_toArray, List.getElem_cons_zero, List.set_cons_succ, List.set_cons_zero]
            refine Y_take (i := 1) (v := ?_) rfl (by kernel_rfl) (by kernel_rfl) (by kernel_rfl) (by kernel_rfl) (fun _ _ _ h => h) (by rfl) hS0 ?_ ?_
            rotate_left
            · (intro w' hSw; have p0 := hSw; (try go_simp); (try with_reducible rfl))
            simp only [Act.put, List.setIfInBounds_toArray, List.getElem_toArray, List.getElem_cons_succ, List.getElem_cons_zero, List.set_cons_succ, List.set_cons_zero]
            refine Y_take (i := 2) (v := ?_) rfl (by kernel_rfl) (by kernel_rfl) (by kernel_rfl) (by kernel_rfl) (fun _ _ _ h => h) (by rfl) hS0 ?_ ?_
            rotate_left
            · (intro w' hSw; have p0 := hSw; (try go_simp); (try with_reducible rfl))
            simp only [Act.put, List.setIfInBounds_toArray, List.getElem_toArray, List.getElem_cons_succ, List.getElem_cons_zero, List.set_cons_succ, List.set_cons_zero]
            refine Y_take (i := 3) (v := ?_) rfl (by kernel_rfl) (by kernel_rfl) (by kernel_rfl) (by kernel_rfl) (fun _ _ _ h => h) (by rfl) hS0 ?_ ?_
            rotate_left
            · (intro w' hSw; have p0 := hSw; (try go_simp); (try with_reducible rfl))
            simp only [Act.put, List.setIfInBounds_toArray, List.getElem_toArray, List.getElem_cons_succ, List.getElem_cons_zero, List.set_cons_succ, List.set_cons_zero]
            refine Y_take (i := 4) (v := ?_) rfl (by kernel_rfl) (by kernel_rfl) (by kernel_rfl) (by kernel_rfl) (fun _ _ _ h => h) (by rfl) hS0 ?_ ?_
            rotate_left
            · (intro w' hSw; have p0 := hSw; (try go_simp); (try with_reducible rfl))
            simp only [Act.put, List.setIfInBounds_toArray, List.getElem_toArray, List.getElem_cons_succ, List.getElem_cons_zero, List.set_cons_succ, List.set_cons_zero]
            refine Y_take (i := 5) (v := ?_) rfl (by kernel_rfl) (by kernel_rfl) (by kernel_rfl) (by kernel_rfl) (fun _ _ _ h => h) (by rfl) hS0 ?_ ?_
            rotate_left
            · (intro w' hSw; have p0 := hSw; (try go_simp); (try with_reducible rfl))
            simp only [Act.put, List.setIfInBounds_toArray, List.getElem_toArray, List.getElem_cons_succ, List.getElem_cons_zero, List.set_cons_succ, List.set_cons_zero]
            refine Y_take (i := 6) (v := ?_) rfl (by kernel_rfl) (by kernel_rfl) (by kernel_rfl) (by kernel_rfl) (fun _ _ _ h => h) (by rfl) hS0 ?_ ?_
            rotate_left
            · (intro w' hSw; have p0 := hSw; (try go_simp); (try with_reducible rfl))
            simp only [Act.put, List.setIfInBounds_toArray, List.getElem_toArray, List.getElem_cons_succ, List.getElem_cons_zero, List.set_cons_succ, List.set_cons_zero]
            refine Y_skip (i := 7) rfl (by kernel_rfl) (by kernel_rfl) (by kernel_rfl) (by kernel_rfl) (fun _ _ _ h => h) (by rfl) hS0 ?_
            simp only [Act.put, List.setIfInBounds_toArray, List.getElem_toArray, List.getElem_cons_succ, List.getElem_cons_zero, List.set_cons_succ, List.set_cons_zero]
            refine Y_skip (i := 8) rfl (by kernel_rfl) (by kernel_rfl) (by kernel_rfl) (by kernel_rfl) (fun _ _ _ h => h) (by rfl) hS0 ?_
            simp only [Act.put, List.setIfInBounds_toArray, List.getElem_toArray, List.getElem_cons_succ, List.getElem_cons_zero, List.set_cons_succ, List.set_cons_zero]
            refine Y_skip (i := 9) rfl (by kernel_rfl) (by kernel_rfl) (by kernel_rfl) (by kernel_rfl) (fun _ _ _ h => h) (by rfl) hS0 ?_
            simp only [Act.put, List.setIfInBounds_toArray, List.getElem_toArray, List.getElem_cons_succ, List.getElem_cons_zero, List.set_cons_succ, List.set_cons_zero]
            refine Y_skip (i := 10) rfl (by kernel_rfl) (by kernel_rfl) (by kernel_rfl) (by kernel_rfl) (fun _ _ _ h => h) (by rfl) hS0 ?_
            simp only [Act.put, List.setIfInBounds_toArray, List.getElem_toArray, List.getElem_cons_succ, List.getElem_cons_zero, List.set_cons_succ, List.set_cons_zero]
            refine Y_skip (i := 11) rfl (by kernel_rfl) (by kernel_rfl) (by kernel_rfl) (by kernel_rfl) (fun _ _ _ h => h) (by rfl) hS0 ?_
            simp only [Act.put, List.setIfInBounds_toArray, List.getElem_toArray, List.getElem_cons_succ, List.getElem_cons_zero, List.set_cons_succ, List.set_cons_zero]
            refine Y_skip (i := 12) rfl (by kernel_rfl) (by kernel_rfl) (by kernel_rfl) (by kernel_rfl) (fun _ _ _ h => h) (by rfl) hS0 ?_
            simp only [Act.put, List.setIfInBounds_toArray, List.getElem_toArray, List.getElem_cons_succ, List.getElem_cons_zero, List.set_cons_succ, List.set_cons_zero]
            refine Y_skip (i := 13) rfl (by kernel_rfl) (by kernel_rfl) (by kernel_rfl) (by kernel_rfl) (fun _ _ _ h => h) (by rfl) hS0 ?_
            simp only [Act.put, List.setIfInBounds_toArray, List.getElem_toArray, List.getElem_cons_succ, List.getElem_cons_zero, List.set_cons_succ, List.set_cons_zero]
            refine Y_skip (i := 14) rfl (by kernel_rfl) (by kernel_rfl) (by kernel_rfl) (by kernel_rfl) (fun _ _ _ h => h) (by rfl) hS0 ?_
            simp only [Act.put, List.setIfInBounds_toArray, List.getElem_toArray, List.getElem_cons_succ, List.getElem_cons_zero, List.set_cons_succ, List.set_cons_zero]
            refine Y_skip (i := 15) rfl (by kernel_rfl) (by kernel_rfl) (by kernel_rfl) (by kernel_rfl) (fun _ _ _ h => h) (by rfl) hS0 ?_
            simp only [Act.put, List.setIfInBounds_toArray, List.getElem_toArray, List.getElem_cons_succ, List.getElem_cons_zero, List.set_cons_succ, List.set_cons_zero]
            refine Y_take (i := 16) (v := ?_) rfl (by kernel_rfl) (by kernel_rfl) (by kernel_rfl) (by kernel_rfl) (fun _ _ _ h => h) (by rfl) hS0 ?_ ?_
            rotate_left
            · (intro w' hSw; have p0 := hSw; (try go_simp); (try with_reducible rfl))
            simp only [Act.put, List.setIfInBounds_toArray, List.getElem_toArray, List.getElem_cons_succ, List.getElem_cons_zero, List.set_cons_succ, List.set_cons_zero]
            refine Y_take (i := 17) (v := ?_) rfl (by kernel_rfl) (by kernel_rfl) (by kernel_rfl) (by kernel_rfl) (fun _ _ _ h => h) (by rfl) hS0 ?_ ?_
            rotate_left
            · (intro w' hSw; have p0 := hSw; (try go_simp); (try with_reducible rfl))
            simp only [Act.put, List.setIfInBounds_toArray, List.getElem_toArray, List.getElem_cons_succ, List.getElem_cons_zero, List.set_cons_succ, List.set_cons_zero]
            refine Z_done (by kernel_rfl) ?_ _
            clear hS0 x0
            go_wp2_with fail
            go_roundg (pts.length - (0 + 1))
            case measure => omega
            case rel => exact ⟨0 + 1, by omega, by go_num, HM2.out, HBA.out⟩
          · have i1 : (0 : Int) < (i : Int) := by omega
            have i2 : 0 < i := by omega
            obtain ⟨q, hq⟩ : ∃ q, pts[i - 1]? = some q := ⟨_, List.getElem?_eq_getElem (by omega)⟩
            have HMq : Hid (q.tm ≤ tm → Mono (pts.take (i + 1))) := fun h => HMs.out (by omega) (fun q' _ h' => by rw [hq] at h'; injection h' with h'; subst h'; exact h)
            obtain ⟨h, o, hgq, -, y⟩ := HV2.out.at hq
            injection hgq with hgq
            injection hgq with hga hgb
            subst hga
            subst hgb
            obtain ⟨qtm, qcl, qno, qT, qE⟩ := q
            have q0' : WA.cell? ⟨g, e' + (i - 1) * 5, none⟩ = some (.int .i64 qtm) := y 0 _ rfl
            obtain ⟨im, him⟩ : ∃ im, i - 1 = im := ⟨_, rfl⟩
            have hii2 : (i : Int) - 1 = (im : Int) := by omega
            rw [him] at q0'
            have dm0 : (0 : Int) ≤ (im : Int) := by omega
            have dm1 : (im : Int) < (pts.length : Int) := by omega
            have dm5 : im ≤ 100000 := by omega
            have dmw : IntKind.i64.wrap (im : Int) = (im : Int) := wrap_small _ (by omega) (by omega)
            clear y hq him HV2 HMs hi0
            by_cases t1 : tm < qtm
            · clear HMq HLO H1 H2 H3 H4 H5 HVP
              refine region_Z 99 (fun W => W.cell? ⟨D, 0, none⟩ = some (.int .i64 tm) ∧ W.cell? ⟨g, e' + im * 5, none⟩ = some (.int .i64 qtm)) (by kernel_rfl) ?_
              have hS0 : WA.drew.cell? ⟨D, 0, none⟩ = some (.int .i64 tm) ∧ WA.drew.cell? ⟨g, e' + im * 5, none⟩ = some (.int .i64 qtm) := ⟨x0, q0'⟩
              refine Y_take (i := 0) (v := ?_) rfl (by kernel_rfl) (by kernel_rfl) (by kernel_rfl) (by kernel_rfl) (fun _ _ _ h => h) (by rfl) hS0 ?_ ?_
              rotate_left
              · (intro w' hSw; obtain ⟨p0, p1⟩ := hSw; (try go_simp); (try with_reducible rfl))
              simp only [Act.put, List.setIfInBounds_toArray, List.getElem_toArray, List.getElem_cons_zero, List.set_cons_succ, List.set_cons_zero]
              refine Y_take (i := 1) (v := ?_) rfl (by kernel_rfl) (by kernel_rfl) (by kernel_rfl) (by kernel_rfl) (fun _ _ _ h => h) (by rfl) hS0 ?_ ?_
              rotate_left
              · (intro w' hSw; obtain ⟨p0, p1⟩ := hSw; (try go_simp); (try with_reducible rfl))
              simp only [Act.put, List.setIfInBounds_toArray, List.getElem_toArray, List.getElem_cons_succ, List.getElem_cons_zero, List.set_cons_succ, List.set_cons_zero]
              refine Y_take (i := 2) (v := ?_) rfl (by kernel_rfl) (by kernel_rfl) (by kernel_rfl) (by kernel_rfl) (fun _ _ _ h => h) (by rfl) hS0 ?_ ?_
              rotate_left
              · (intro w' hSw; obtain ⟨p0, p1⟩ := hSw; (try go_simp); (try with_reducible rfl))
              simp only [Act.put, List.setIfInBounds_toArray, List.getElem_toArray, List.getElem_cons_succ, List.getElem_cons_zero, List.set_cons_succ, List.set_cons_zero]
              refine Y_take (i := 3) (v := ?_) rfl (by kernel_rfl) (by kernel_rfl) (by kernel_rfl) (by kernel_rfl) (fun _ _ _ h => h) (by rfl) hS0 ?_ ?_
              rotate_left
              · (intro w' hSw; obtain ⟨p0, p1⟩ := hSw; (try go_simp); (try with_reducible rfl))
              simp only [Act.put, List.setIfInBounds_toArray, List.getElem_toArray, List.getElem_cons_succ, List.getElem_cons_zero, List.set_cons_succ, List.set_cons_zero]
              refine Y_take (i := 4) (v := ?_) rfl (by kernel_rfl) (by kernel_rfl) (by kernel_rfl) (by kernel_rfl) (fun _ _ _ h => h) (by rfl) hS0 ?_ ?_
              rotate_left
              · (intro w' hSw; obtain ⟨p0, p1⟩ := hSw; (try go_simp); (try with_reducible rfl))
              simp only [Act.put, List.setIfInBounds_toArray, List.getElem_toArray, List.getElem_cons_succ, List.getElem_cons_zero, List.set_cons_succ, List.set_cons_zero]
              refine Y_take (i := 5) (v := ?_) rfl (by kernel_rfl) (by kernel_rfl) (by kernel_rfl) (by kernel_rfl) (fun _ _ _ h => h) (by rfl) hS0 ?_ ?_
              rotate_left
              · (intro w' hSw; obtain ⟨p0, p1⟩ := hSw; (try go_simp); (try with_reducible rfl))
              simp only [Act.put, List.setIfInBounds_toArray, List.getElem_toArray, List.getElem_cons_succ, List.getElem_cons_zero, List.set_cons_succ, List.set_cons_zero]
              refine Y_take (i := 6) (v := ?_) rfl (by kernel_rfl) (by kernel_rfl) (by kernel_rfl) (by kernel_rfl) (fun _ _ _ h => h) (by rfl) hS0 ?_ ?_
              rotate_left
              · (intro w' hSw; obtain ⟨p0, p1⟩ := hSw; (try go_simp); (try with_reducible rfl))
              simp only [Act.put, List.setIfInBounds_toArray, List.getElem_toArray, List.getElem_cons_succ, List.getElem_cons_zero, List.set_cons_succ, List.set_cons_zero]
              refine Y_take (i := 7) (v := ?_) rfl (by kernel_rfl) (by kernel_rfl) (by kernel_rfl) (by kernel_rfl) (fun _ _ _ h => h) (by rfl) hS0 ?_ ?_
              rotate_left
              · (intro w' hSw; obtain ⟨p0, p1⟩ := hSw; (try go_simp); (try with_reducible rfl))
              simp only [Act.put, List.setIfInBounds_toArray, List.getElem_toArray, List.getElem_cons_succ, List.getElem_cons_zero, List.set_cons_succ, List.set_cons_zero]
              refine Y_take (i := 8) (v := ?_) rfl (by kernel_rfl) (by kernel_rfl) (by kernel_rfl) (by kernel_rfl) (fun _ _ _ h => h) (by rfl) hS0 ?_ ?_
              rotate_left
              · (intro w' hSw; obtain ⟨p0, p1⟩ := hSw; (try go_simp); (try with_reducible rfl))
              simp only [Act.put, List.setIfInBounds_toArray, List.getElem_toArray, List.getElem_cons_succ, List.getElem_cons_zero, List.set_cons_succ, List.set_cons_zero]
              refine Y_take (i := 9) (v := ?_) rfl (by kernel_rfl) (by kernel_rfl) (by kernel_rfl) (by kernel_rfl) (fun _ _ _ h => h) (by rfl) hS0 ?_ ?_
              rotate_left
              · (intro w' hSw; obtain ⟨p0, p1⟩ := hSw; (try go_simp); (try with_reducible rfl))
              simp only [Act.put, List.setIfInBounds_toArray, List.getElem_toArray, List.getElem_cons_succ, List.getElem_cons_zero, List.set_cons_succ, List.set_cons_zero]
              refine Y_take (i := 10) (v := ?_) rfl (by kernel_rfl) (by kernel_rfl) (by kernel_rfl) (by kernel_rfl) (fun _ _ _ h => h) (by rfl) hS0 ?_ ?_
              rotate_left
              · (intro w' hSw; obtain ⟨p0, p1⟩ := hSw; (try go_simp); (try with_reducible rfl))
              simp only [Act.put, List.setIfInBounds_toArray, List.getElem_toArray, List.getElem_cons_succ, List.getElem_cons_zero, List.set_cons_succ, List.set_cons_zero]
              refine Y_take (i := 11) (v := ?_) rfl (by kernel_rfl) (by kernel_rfl) (by kernel_rfl) (by kernel_rfl) (fun _ _ _ h => h) (by rfl) hS0 ?_ ?_
              rotate_left
              · (intro w' hSw; obtain ⟨p0, p1⟩ := hSw; (try go_simp); (try with_reducible rfl))
              simp only [Act.put, List.setIfInBounds_toArray, List.getElem_toArray, List.getElem_cons_succ, List.getElem_cons_zero, List.set_cons_succ, List.set_cons_zero]
              refine Y_take (i := 12) (v := ?_) rfl (by kernel_rfl) (by kernel_rfl) (by kernel_rfl) (by kernel_rfl) (fun _ _ _ h => h) (by rfl) hS0 ?_ ?_
              rotate_left
              · (intro w' hSw; obtain ⟨p0, p1⟩ := hSw; (try go_simp); (try with_reducible rfl))
              simp only [Act.put, List.setIfInBounds_toArray, List.getElem_toArray, List.getElem_cons_succ, List.getElem_cons_zero, List.set_cons_succ, List.set_cons_zero]
              refine Y_take (i := 13) (v := ?_) rfl (by kernel_rfl) (by kernel_rfl) (by kernel_rfl) (by kernel_rfl) (fun _ _ _ h => h) (by rfl) hS0 ?_ ?_
              rotate_left
              · (intro w' hSw; obtain ⟨p0, p1⟩ := hSw; (try go_simp); (try with_reducible rfl))
              simp only [Act.put, List.setIfInBounds_toArray, List.getElem_toArray, List.getElem_cons_succ, List.getElem_cons_zero, List.set_cons_succ, List.set_cons_zero]
              refine Y_take (i := 14) (v := ?_) rfl (by kernel_rfl) (by kernel_rfl) (by kernel_rfl) (by kernel_rfl) (fun _ _ _ h => h) (by rfl) hS0 ?_ ?_
              rotate_left
              · (intro w' hSw; obtain ⟨p0, p1⟩ := hSw; (try go_simp); (try with_reducible rfl))
              simp only [Act.put, List.setIfInBounds_toArray, List.getElem_toArray, List.getElem_cons_succ, List.getElem_cons_zero, List.set_cons_succ, List.set_cons_zero]
              refine Y_take (i := 15) (v := ?_) rfl (by kernel_rfl) (by kernel_rfl) (by kernel_rfl) (by kernel_rfl) (fun _ _ _ h => h) (by rfl) hS0 ?_ ?_
              rotate_left
              · (intro w' hSw; obtain ⟨p0, p1⟩ := hSw; (try go_simp); (try with_reducible rfl))
              simp only [Act.put, List.setIfInBounds_toArray, List.getElem_toArray, List.getElem_cons_succ, List.getElem_cons_zero, List.set_cons_succ, List.set_cons_zero]
              refine Y_take (i := 16) (v := ?_) rfl (by kernel_rfl) (by kernel_rfl) (by kernel_rfl) (by kernel_rfl) (fun _ _ _ h => h) (by rfl) hS0 ?_ ?_
              rotate_left
              · (intro w' hSw; obtain ⟨p0, p1⟩ := hSw; (try go_simp); (try with_reducible rfl))
              simp only [Act.put, List.setIfInBounds_toArray, List.getElem_toArray, List.getElem_cons_succ, List.getElem_cons_zero, List.set_cons_succ, List.set_cons_zero]
              refine Y_take (i := 17) (v := ?_) rfl (by kernel_rfl) (by kernel_rfl) (by kernel_rfl) (by kernel_rfl) (fun _ _ _ h => h) (by rfl) hS0 ?_ ?_
              rotate_left
              · (intro w' hSw; obtain ⟨p0, p1⟩ := hSw; (try go_simp); (try with_reducible rfl))
              simp only [Act.put, List.setIfInBounds_toArray, List.getElem_toArray, List.getElem_cons_succ, List.getElem_cons_zero, List.set_cons_succ, List.set_cons_zero]
              refine Z_done (by kernel_rfl) ?_ _
              clear hS0
              have hP := HP.out _ HBA.out
              go_wp2_with (go_at_call 8; refine hP.mono ?_; clear hP; rintro e w6 ⟨rfl, hb6⟩)
              go_ret
              exact ⟨rfl, by rw [HN.out]; exact hb6⟩
            · have HM2 : Hid (Mono (pts.take (i + 1))) := HMq.out (by show qtm ≤ tm; omega)
              clear HMq
              refine region_Z 99 (fun W => W.cell? ⟨D, 0, none⟩ = some (.int .i64 tm) ∧ W.cell? ⟨g, e' + im * 5, none⟩ = some (.int .i64 qtm)) (by kernel_rfl) ?_
              have hS0 : WA.drew.cell? ⟨D, 0, none⟩ = some (.int .i64 tm) ∧ WA.drew.cell? ⟨g, e' + im * 5, none⟩ = some (.int .i64 qtm) := ⟨x0, q0'⟩
              refine Y_take (i := 0) (v := ?_) rfl (by kernel_rfl) (by kernel_rfl) (by kernel_rfl) (by kernel_rfl) (fun _ _ _ h => h) (by rfl) hS0 ?_ ?_
              rotate_left
              · (intro w' hSw; obtain ⟨p0, p1⟩ := hSw; (try go_simp); (try with_reducible rfl))
              simp only [Act.put, List.setIfInBounds_toArray, List.getElem_toArray, List.getElem_cons_zero, List.set_cons_succ, List.set_cons_zero]
              refine Y_take (i := 1) (v := ?_) rfl (by kernel_rfl) (by kernel_rfl) (by kernel_rfl) (by kernel_rfl) (fun _ _ _ h => h) (by rfl) hS0 ?_ ?_
              rotate_left
              · (intro w' hSw; obtain ⟨p0, p1⟩ := hSw; (try go_simp); (try with_reducible rfl))
              simp only [Act.put, List.setIfInBounds_toArray, List.getElem_toArray, List.getElem_cons_succ, List.getElem_cons_zero, List.set_cons_succ, List.set_cons_zero]
              refine Y_take (i := 2) (v := ?_) rfl (by kernel_rfl) (by kernel_rfl) (by kernel_rfl) (by kernel_rfl) (fun _ _ _ h => h) (by rfl) hS0 ?_ ?_
              rotate_left
              · (intro w' hSw; obtain ⟨p0, p1⟩ := hSw; (try go_simp); (try with_reducible rfl))
              simp only [Act.put, List.setIfInBounds_toArray, List.getElem_toArray, List.getElem_cons_succ, List.getElem_cons_zero, List.set_cons_succ, List.set_cons_zero]
              refine Y_take (i := 3) (v := ?_) rfl (by kernel_rfl) (by kernel_rfl) (by kernel_rfl) (by kernel_rfl) (fun _ _ _ h => h) (by rfl) hS0 ?_ ?_
              rotate_left
              · (intro w' hSw; obtain ⟨p0, p1⟩ := hSw; (try go_simp); (try with_reducible rfl))
              simp only [Act.put, List.setIfInBounds_toArray, List.getElem_toArray, List.getElem_cons_succ, List.getElem_cons_zero, List.set_cons_succ, List.set_cons_zero]
              refine Y_take (i := 4) (v := ?_) rfl (by kernel_rfl) (by kernel_rfl) (by kernel_rfl) (by kernel_rfl) (fun _ _ _ h => h) (by rfl) hS0 ?_ ?_
              rotate_left
              · (intro w' hSw; obtain ⟨p0, p1⟩ := hSw; (try go_simp); (try with_reducible rfl))
              simp only [Act.put, List.setIfInBounds_toArray, List.getElem_toArray, List.getElem_cons_succ, List.getElem_cons_zero, List.set_cons_succ, List.set_cons_zero]
              refine Y_take (i := 5) (v := ?_) rfl (by kernel_rfl) (by kernel_rfl) (by kernel_rfl) (by kernel_rfl) (fun _ _ _ h => h) (by rfl) hS0 ?_ ?_
              rotate_left
              · (intro w' hSw; obtain ⟨p0, p1⟩ := hSw; (try go_simp); (try with_reducible rfl))
              simp only [Act.put, List.setIfInBounds_toArray, List.getElem_toArray, List.getElem_cons_succ, List.getElem_cons_zero, List.set_cons_succ, List.set_cons_zero]
              refine Y_take (i := 6) (v := ?_) rfl (by kernel_rfl) (by kernel_rfl) (by kernel_rfl) (by kernel_rfl) (fun _ _ _ h => h) (by rfl) hS0 ?_ ?_
              rotate_left
              · (intro w' hSw; obtain ⟨p0, p1⟩ := hSw; (try go_simp); (try with_reducible rfl))
              simp only [Act.put, List.setIfInBounds_toArray, List.getElem_toArray, List.getElem_cons_succ, List.getElem_cons_zero, List.set_cons_succ, List.set_cons_zero]
              refine Y_take (i := 7) (v := ?_) rfl (by kernel_rfl) (by kernel_rfl) (by kernel_rfl) (by kernel_rfl) (fun _ _ _ h => h) (by rfl) hS0 ?_ ?_
              rotate_left
              · (intro w' hSw; obtain ⟨p0, p1⟩ := hSw; (try go_simp); (try with_reducible rfl))
              simp only [Act.put, List.setIfInBounds_toArray, List.getElem_toArray, List.getElem_cons_succ, List.getElem_cons_zero, List.set_cons_succ, List.set_cons_zero]
              refine Y_take (i := 8) (v := ?_) rfl (by kernel_rfl) (by kernel_rfl) (by kernel_rfl) (by kernel_rfl) (fun _ _ _ h => h) (by rfl) hS0 ?_ ?_
              rotate_left
              · (intro w' hSw; obtain ⟨p0, p1⟩ := hSw; (try go_simp); (try with_reducible rfl))
              simp only [Act.put, List.setIfInBounds_toArray, List.getElem_toArray, List.getElem_cons_succ, List.getElem_cons_zero, List.set_cons_succ, List.set_cons_zero]
              refine Y_take (i := 9) (v := ?_) rfl (by kernel_rfl) (by kernel_rfl) (by kernel_rfl) (by kernel_rfl) (fun _ _ _ h => h) (by rfl) hS0 ?_ ?_
              rotate_left
              · (intro w' hSw; obtain ⟨p0, p1⟩ := hSw; (try go_simp); (try with_reducible rfl))
              simp only [Act.put, List.setIfInBounds_toArray, List.getElem_toArray, List.getElem_cons_succ, List.getElem_cons_zero, List.set_cons_succ, List.set_cons_zero]
              refine Y_take (i := 10) (v := ?_) rfl (by kernel_rfl) (by kernel_rfl) (by kernel_rfl) (by kernel_rfl) (fun _ _ _ h => h) (by rfl) hS0 ?_ ?_
              rotate_left
              · (intro w' hSw; obtain ⟨p0, p1⟩ := hSw; (try go_simp); (try with_reducible rfl))
              simp only [Act.put, List.setIfInBounds_toArray, List.getElem_toArray, List.getElem_cons_succ, List.getElem_cons_zero, List.set_cons_succ, List.set_cons_zero]
              refine Y_take (i := 11) (v := ?_) rfl (by kernel_rfl) (by kernel_rfl) (by kernel_rfl) (by kernel_rfl) (fun _ _ _ h => h) (by rfl) hS0 ?_ ?_
              rotate_left
              · (intro w' hSw; obtain ⟨p0, p1⟩ := hSw; (try go_simp); (try with_reducible rfl))
              simp only [Act.put, List.setIfInBounds_toArray, List.getElem_toArray, List.getElem_cons_succ, List.getElem_cons_zero, List.set_cons_succ, List.set_cons_zero]
              refine Y_take (i := 12) (v := ?_) rfl (by kernel_rfl) (by kernel_rfl) (by kernel_rfl) (by kernel_rfl) (fun _ _ _ h => h) (by rfl) hS0 ?_ ?_
              rotate_left
              · (intro w' hSw; obtain ⟨p0, p1⟩ := hSw; (try go_simp); (try with_reducible rfl))
              simp only [Act.put, List.setIfInBounds_toArray, List.getElem_toArray, List.getElem_cons_succ, List.getElem_cons_zero, List.set_cons_succ, List.set_cons_zero]
              refine Y_take (i := 13) (v := ?_) rfl (by kernel_rfl) (by kernel_rfl) (by kernel_rfl) (by kernel_rfl) (fun _ _ _ h => h) (by rfl) hS0 ?_ ?_
              rotate_left
              · (intro w' hSw; obtain ⟨p0, p1⟩ := hSw; (try go_simp); (try with_reducible rfl))
              simp only [Act.put, List.setIfInBounds_toArray, List.getElem_toArray, List.getElem_cons_succ, List.getElem_cons_zero, List.set_cons_succ, List.set_cons_zero]
              refine Y_take (i := 14) (v := ?_) rfl (by kernel_rfl) (by kernel_rfl) (by kernel_rfl) (by kernel_rfl) (fun _ _ _ h => h) (by rfl) hS0 ?_ ?_
              rotate_left
              · (intro w' hSw; obtain ⟨p0, p1⟩ := hSw; (try go_simp); (try with_reducible rfl))
              simp only [Act.put, List.setIfInBounds_toArray, List.getElem_toArray, List.getElem_cons_succ, List.getElem_cons_zero, List.set_cons_succ, List.set_cons_zero]
              refine Y_take (i := 15) (v := ?_) rfl (by kernel_rfl) (by kernel_rfl) (by kernel_rfl) (by kernel_rfl) (fun _ _ _ h => h) (by rfl) hS0 ?_ ?_
              rotate_left
              · (intro w' hSw; obtain ⟨p0, p1⟩ := hSw; (try go_simp); (try with_reducible rfl))
              simp only [Act.put, List.setIfInBounds_toArray, List.getElem_toArray, List.getElem_cons_succ, List.getElem_cons_zero, List.set_cons_succ, List.set_cons_zero]
              refine Y_take (i := 16) (v := ?_) rfl (by kernel_rfl) (by kernel_rfl) (by kernel_rfl) (by kernel_rfl) (fun _ _ _ h => h) (by rfl) hS0 ?_ ?_
              rotate_left
              · (intro w' hSw; obtain ⟨p0, p1⟩ := hSw; (try go_simp); (try with_reducible rfl))
              simp only [Act.put, List.setIfInBounds_toArray, List.getElem_toArray, List.getElem_cons_succ, List.getElem_cons_zero, List.set_cons_succ, List.set_cons_zero]
              refine Y_take (i := 17) (v := ?_) rfl (by kernel_rfl) (by kernel_rfl) (by kernel_rfl) (by kernel_rfl) (fun _ _ _ h => h) (by rfl) hS0 ?_ ?_
              rotate_left
              · (intro w' hSw; obtain ⟨p0, p1⟩ := hSw; (try go_simp); (try with_reducible rfl))
              simp only [Act.put, List.setIfInBounds_toArray, List.getElem_toArray, List.getElem_cons_succ, List.getElem_cons_zero, List.set_cons_succ, List.set_cons_zero]
              refine Z_done (by kernel_rfl) ?_ _
              clear hS0 x0 q0' dm0 dm1 dm5 dmw hii2
              go_wp2_with fail
              go_roundg (pts.length - (i + 1))
              case measure => omega
              case rel => exact ⟨i + 1, by omega, by go_num, HM2.out, HBA.out⟩
end
end Go.Proofs.YtihilkdokfdoeaaDoor
