/- The document's table: Text, walked. -/
import Derived.Test.YtgmobjdjojffgaaDoorTdB
import Derived.Test.YtgmobjdjojffgaaDoorTcA
import Derived.Test.YtgmobjdjojffgaaDoorNsP
namespace Go.Proofs.YtgmobjdjojffgaaDoor
open Go.RowKit
attribute [local go_sem ↓] Go.wp_at_zero Go.wp_at_succ

/-- The row with the least key above the last one. -/
def leastB (last : List UInt8) (m r : Rw) : Bool := lt last r.1 && (m.1.isEmpty || lt r.1 m.1)
def leastR (last : List UInt8) (L : List Rw) : Rw := L.foldl (fun m r => if leastB last m r = true then r else m) ([], [])
theorem least_take {L : List Rw} {j : Nat} {r : Rw} (h : L[j]? = some r) (last : List UInt8) : leastR last (L.take (j + 1)) = if leastB last (leastR last (L.take j)) r = true then r else leastR last (L.take j) := by
  rw [List.take_add_one, h, leastR, List.foldl_append]
  rfl
theorem least_of (last : List UInt8) (L : List Rw) : (leastR last L = ([], []) ∧ ∀ r ∈ L, lt last r.1 = false) ∨ (leastR last L ∈ L ∧ lt last (leastR last L).1 = true ∧ ∀ r ∈ L, lt last r.1 = true → r.1 = (leastR last L).1 ∨ lt (leastR last L).1 r.1 = true) := by
  have key : ∀ n, n ≤ L.length → (leastR last (L.take n) = ([], []) ∧ ∀ r ∈ L.take n, lt last r.1 = false) ∨ (leastR last (L.take n) ∈ L.take n ∧ lt last (leastR last (L.take n)).1 = true ∧ ∀ r ∈ L.take n, lt last r.1 = true → r.1 = (leastR last (L.take n)).1 ∨ lt (leastR last (L.take n)).1 r.1 = true) := by
    intro n
    induction n with
    | zero => exact fun _ => .inl ⟨rfl, fun _ h => by simp at h⟩
    | succ n ih =>
      intro hn
      obtain ⟨r, hr⟩ : ∃ r, L[n]? = some r := ⟨_, List.getElem?_eq_getElem (by omega)⟩
      have hm : ∀ x, x ∈ L.take (n + 1) ↔ x ∈ L.take n ∨ x = r := fun x => by rw [List.take_add_one, hr]; simp
      have hst := least_take hr last
      specialize ih (by omega)
      obtain ⟨m, hmm⟩ : ∃ m, leastR last (L.take n) = m := ⟨_, rfl⟩
      rw [hmm] at ih hst
      rw [hst]
      cases hb : leastB last m r
      · rw [if_neg (by simp)]
        rcases ih with ⟨rfl, i2⟩ | ⟨i1, i2, i3⟩
        · left
          refine ⟨rfl, fun x hx => ?_⟩
          rcases (hm x).1 hx with hx | rfl
          · exact i2 x hx
          · simpa [leastB] using hb
        · right
          refine ⟨(hm m).2 (.inl i1), i2, fun x hx hp => ?_⟩
          rcases (hm x).1 hx with hx | rfl
          · exact i3 x hx hp
          · simp only [leastB, hp, Bool.true_and, Bool.or_eq_false_iff] at hb
            by_cases e : x.1 = m.1
            · exact .inl e
            · exact .inr (lt_tri e hb.2)
      · rw [if_pos rfl]
        simp only [leastB, Bool.and_eq_true, Bool.or_eq_true] at hb
        right
        refine ⟨(hm r).2 (.inr rfl), hb.1, fun x hx hp => ?_⟩
        rcases (hm x).1 hx with hx | rfl
        · rcases ih with ⟨_, i2⟩ | ⟨i1, i2, i3⟩
          · rw [i2 x hx] at hp
            cases hp
          · have hlt : lt r.1 m.1 = true := by
              rcases hb.2 with e | e
              · have : m.1 = [] := by simpa using e
                rw [this] at i2
                cases last <;> simp [lt, Op.bytesLess] at i2
              · exact e
            rcases i3 x hx hp with e | e
            · rw [e]; exact .inr hlt
            · exact .inr (lt_trans hlt e)
        · exact .inl rfl
  have := key L.length (Nat.le_refl _)
  rwa [List.take_length] at this
/-- The key ahead of the n'th row. -/
def lastK (l : List Rw) (n : Nat) : List UInt8 := ((l.take n).getLast?.map (·.1)).getD []
theorem lastK_succ {l : List Rw} {n : Nat} {r : Rw} (h : l[n]? = some r) : lastK l (n + 1) = r.1 := by
  rw [lastK, List.take_add_one, h]
  simp
theorem sorted_lt {l : List Rw} (h : l.Pairwise fun a b => lt a.1 b.1 = true) {i j : Nat} {a b : Rw} (ha : l[i]? = some a) (hb : l[j]? = some b) (hij : i < j) : lt a.1 b.1 = true := by
  obtain ⟨h1, e1⟩ := List.getElem?_eq_some_iff.1 ha
  obtain ⟨h2, e2⟩ := List.getElem?_eq_some_iff.1 hb
  have := List.pairwise_iff_getElem.1 h i j h1 h2 hij
  rw [e1, e2] at this
  exact this
theorem last_lt {l : List Rw} (h : Ok l) {n : Nat} {r : Rw} (hr : l[n]? = some r) : lt (lastK l n) r.1 = true := by
  cases n with
  | zero => exact lt_nil (isK_ne (h.row r (List.mem_of_getElem? hr)).1)
  | succ n =>
    obtain ⟨p, hp⟩ : ∃ p, l[n]? = some p := ⟨_, List.getElem?_eq_getElem (by have := (List.getElem?_eq_some_iff.1 hr).1; omega)⟩
    rw [lastK_succ hp]
    exact sorted_lt h.sorted hp hr (by omega)
theorem least_is {L l : List Rw} (hp : L.Perm l) (h : Ok l) {n : Nat} {r : Rw} (hr : l[n]? = some r) : leastR (lastK l n) L = r := by
  have hl := last_lt h hr
  have hin : r ∈ L := hp.mem_iff.2 (List.mem_of_getElem? hr)
  rcases least_of (lastK l n) L with ⟨_, h2⟩ | ⟨h1, h2, h3⟩
  · rw [h2 r hin] at hl
    cases hl
  · obtain ⟨m, hm⟩ : ∃ m, leastR (lastK l n) L = m := ⟨_, rfl⟩
    rw [hm] at h1 h2 h3 ⊢
    obtain ⟨j, hj⟩ := List.mem_iff_getElem?.1 (hp.mem_iff.1 h1)
    rcases Nat.lt_trichotomy j n with e | rfl | e
    · exfalso
      cases n with
      | zero => omega
      | succ n =>
        obtain ⟨p, hpn⟩ : ∃ p, l[n]? = some p := ⟨_, List.getElem?_eq_getElem (by have := (List.getElem?_eq_some_iff.1 hr).1; omega)⟩
        rw [lastK_succ hpn] at h2
        rcases Nat.lt_or_ge j n with e2 | e2
        · have := lt_asym (sorted_lt h.sorted hj hpn e2)
          rw [h2] at this
          cases this
        · have : j = n := by omega
          subst this
          rw [hpn] at hj
          cases hj
          rw [lt_irr] at h2
          cases h2
    · rw [hr] at hj
      cases hj
      rfl
    · exfalso
      have h4 := sorted_lt h.sorted hr hj e
      rcases h3 r hin hl with e2 | e2
      · rw [e2, lt_irr] at h4
        cases h4
      · rw [lt_asym e2] at h4
        cases h4
theorem gtr_lt (k last : List UInt8) : (!(Op.bytesLess (bs k).toList (bs last).toList || ((bs k).toList == (bs last).toList))) = lt last k := by
  rw [bs_toList, bs_toList]
  have := leq_lt k last
  simp only [lt] at this ⊢
  rw [this]
  simp
theorem lss_lt (k m : List UInt8) : Op.bytesLess (bs k).toList (bs m).toList = lt k m := by rw [bs_toList, bs_toList]
theorem emp_is (m : List UInt8) : (bs m).toList.isEmpty = m.isEmpty := by rw [bs_toList]
set_option maxRecDepth 20000 in
set_option maxHeartbeats 4000000 in
theorem rTextT_any {w : World} {B q : Nat} {L l : List Rw} {u : Value} (h : RfAt w B q L u) (hp : L.Perm l) (hok : Ok l) : Calls Tryd.prog 50 #[.pointer (some ⟨B, q, none⟩)] w fun e W' => e = .returned (.string (bs (textT l))) ∧ Below w.heap.size w W' := by
  obtain ⟨i0, hi, hz0, hz1, hz2⟩ := info_parts Tryd.info9
  have hc := h.cell
  have hlt := h.lt
  have hRs := h.rs
  obtain ⟨ua, uc, rfl, hcap⟩ := hRs.slice
  have hLl : L.length = l.length := hp.length_eq
  have hlen := h.len
  have HP : Hid (∀ W x, Below w.heap.size w W → W.ownsRow w.heap.size 9 1 x (l.length * 2) (strs (flat l)) → Calls Tryd.prog 33 #[x] W fun e W' => e = .returned (.string (bs (textT l))) ∧ Below w.heap.size w W') := fun W x hb ho => by
    obtain ⟨t1, t2⟩ := flat_tot hok
    rw [← flat_len] at ho
    refine (rPack_any (flat l) x W (by omega) (by omega) (Sl.of_owns ho)).mono ?_
    rintro e W' ⟨rfl, h1⟩
    exact ⟨rfl, hb.trans (h1.mono hb.size)⟩
  have HLS : Hid (∀ (n : Nat) (r : Rw), l[n]? = some r → leastR (lastK l n) L = r) := fun n r hr => least_is hp hok hr
  obtain ⟨T, hT⟩ : ∃ T, textT l = T := ⟨_, rfl⟩
  rw [hT] at HP
  rw [hT]
  clear h hT hp hok
  go_enter Tryd.func50, Tryd.ntmps50
  go_wp2
  go_loopg [3, 4, 5] L.length (fun gk x last i wr => ∃ n : Nat, n + gk = L.length ∧ i = .int .i64 n ∧ last = .string (bs (lastK l n)) ∧ wr.ownsRow w.heap.size 9 1 x (n * 2) (strs (flat (l.take n))) ∧ Below w.heap.size w wr)
  case atStart => exact ⟨0, by omega, rfl, rfl, World.ownsRow_nil _ _ _ _, Below.refl _ _⟩
  case round =>
    obtain ⟨n, hn, rfl, rfl, hown, hB⟩ := hrel
    obtain ⟨xa, xc, rfl⟩ := owns_slice hown
    have hcr := (hB.cell (p := ⟨B, q, none⟩) hlt).trans hc
    by_cases hn1 : n = L.length
    · have hP := HP.out _ _ hB (by rw [hn1, hLl, List.take_length] at hown; rw [← hLl, ← hn1] ; rw [hn1, hLl]; exact hown)
      clear hown HP HLS
      subst hn1
      go_wp2_with (go_at_call 33; refine hP.mono ?_; rintro e w1 ⟨rfl, hb1⟩)
      go_ret
      exact ⟨rfl, hb1⟩
    · have hn2 : n < L.length := by omega
      obtain ⟨r, hr⟩ : ∃ r, l[n]? = some r := ⟨_, List.getElem?_eq_getElem (by omega)⟩
      have hls := HLS.out n r hr
      have hF := flat_take hr
      have hLK := lastK_succ hr
      obtain ⟨K, hK⟩ : ∃ K, lastK l n = K := ⟨_, rfl⟩
      rw [hK] at hls ⊢
      have HF : Hid (_) := hF
      have HLK : Hid (_) := hLK
      have HLSr : Hid (leastR K L = r) := hls
      have HB : Hid (Below w.heap.size w wr) := hB
      have HO : Hid (wr.ownsRow w.heap.size 9 1 (.slice xa (n * 2) xc) (n * 2) (strs (flat (l.take n)))) := hown
      have hBl := hB.size
      have HO0 : Hid (∀ z, (Value.slice xa (n * 2) xc).ownBlock = some z → z < wr.heap.size) := fun z hz => (hown.lt z hz).2
      have h00 := heap_alloc_new wr (.cells #[.string ⟨#[]⟩, .string ⟨#[]⟩] 120)
      have hb0 := (Below.refl wr.heap.size wr).alloc (Nat.le_refl _) (.cells #[.string ⟨#[]⟩, .string ⟨#[]⟩] 120)
      rename World => wq
      clear hr hF hLK hls hK hown hB HLS
      go_upto_region 7 with fail
      obtain ⟨WX, hWX⟩ : ∃ W, wq.alloc (.cells #[.string ⟨#[]⟩, .string ⟨#[]⟩] 120) = W := ⟨_, rfl⟩
      obtain ⟨X, hXX⟩ : ∃ X, wq.heap.size = X := ⟨_, rfl⟩
      have hsX : X + 1 ≤ WX.heap.size := by rw [← hWX, ← hXX]; simp
      rw [hWX] at h00 hb0 ⊢
      rw [hXX] at h00 hb0 ⊢
      have hBX : w.heap.size ≤ X := by omega
      have hcX := (hb0.cell (p := ⟨B, q, none⟩) (by show B < X; omega)).trans hcr
      clear hWX
      go_wp2
      go_loopg [24] L.length (fun gj j wj => ∃ p : Nat, p + gj = L.length ∧ j = .int .i64 p ∧ wj.heap[X]? = some (.cells #[.string (bs (leastR K (L.take p)).1), .string (bs (leastR K (L.take p)).2)] 120) ∧ Below X wq wj ∧ X + 1 ≤ wj.heap.size)
      case atStart => exact ⟨0, by omega, rfl, h00, hb0, hsX⟩
      case round =>
        clear h00 hb0 hcX hsX
        obtain ⟨p, hp, rfl, hX, hBj, hsj⟩ := hrel
        have hBw : Below w.heap.size w wr := HB.out.trans (hBj.mono hBX)
        by_cases hp1 : p = L.length
        · subst hp1
          rw [List.take_length, HLSr.out] at hX
          have x0 := cellB hX 0 _ rfl
          have x1 := cellB hX 1 _ rfl
          have hown2 : wr.ownsRow w.heap.size 9 1 (.slice xa (n * 2) xc) (n * 2) (strs (flat (l.take n))) := own_kept HO.out (by rw [hXX]; exact hBj)
          have hml : n * 2 + 2 ≤ maxLen := by unfold maxLen; omega
          have hkb : (n * 2 + 2) * 16 ≤ 140737488355328 := by omega
          have hsz := hBw.size
          obtain ⟨R, hR⟩ : ∃ R, strs (flat (l.take n)) = R := ⟨_, rfl⟩
          rw [hR] at hown2
          have HR : Hid (strs (flat (l.take n)) = R) := hR
          have HBw : Hid (Below w.heap.size w wr) := hBw
          have hXr : X < wr.heap.size := by omega
          have HXb : Hid (_) := hX
          clear hR hX hBj hBw HO
          go_upto_region 14 with (at_builtin; refine wpList_append_own _ rfl _ _ 57 rfl w.heap.size 9 i0 (.string ⟨#[]⟩) 1 16 Tryd.underlying57 hi hz0 hz1 hz2 rfl (by decide) (.slice xa (n * 2) xc) (n * 2) R rfl (hown2.alloc _) _ 2 2 [.string (bs r.1), .string (bs r.2)] rfl rfl (World.news_of_block (heap_alloc_new _ _)) (by simp [Value.oneCell']) hml hkb (by simp; omega) ?_; intro v' w' g1 g2 _)
          have hB3 := (HBw.out.alloc hsz (.cells #[.string (bs r.1), .string (bs r.2)] 9)).grown g2 (by simp; omega) (fun z hz => (hown2.lt z hz).1)
          have hx7 : w'.heap[X]? = some (.cells #[.string (bs r.1), .string (bs r.2)] 120) := by
            refine (g2.block X (by simp; omega) (fun e => ?_)).trans ((Below.heap_alloc wr _ X hXr).trans HXb.out)
            have := (HO0.out X e.symm)
            omega
          have y0 := cellB hx7 0 _ rfl
          obtain ⟨va, vc, rfl⟩ := owns_slice g1
          have HG1 : Hid (_) := g1
          have HB3 : Hid (_) := hB3
          clear g1 g2 hB3 hx7 hown2
          go_wp2
          subst hXX
          go_roundg (L.length - (n + 1))
          case measure => omega
          case rel => exact ⟨n + 1, by omega, by go_num, by rw [HLK.out], by rw [HF.out, strs_append, HR.out, show (n + 1) * 2 = n * 2 + 2 by omega]; exact HG1.out, HB3.out⟩
        · have hp2 : p < L.length := by omega
          obtain ⟨r', hr'⟩ : ∃ r, L[p]? = some r := ⟨_, List.getElem?_eq_getElem hp2⟩
          obtain ⟨g, rfl, hg, d1, d2⟩ := (hRs.on hBw).at hr'
          have hst := least_take hr' K
          obtain ⟨m, hm⟩ : ∃ m, leastR K (L.take p) = m := ⟨_, rfl⟩
          rw [hm] at hX hst
          have hgt := gtr_lt r'.1 K
          have hls := lss_lt r'.1 m.1
          have hem := emp_is m.1
          have hXr : X < wr.heap.size := by omega
          have hX2 := (Below.heap_alloc wr (.cells #[.string (bs r'.1), .string (bs r'.2)] 120) X hXr).trans hX
          have HX2 : Hid ((wr.alloc (.cells #[.string (bs r'.1), .string (bs r'.2)] 120)).heap[X]? = some (.cells #[.string (bs m.1), .string (bs m.2)] 120)) := hX2
          have HBX : Hid (Below X wq (wr.alloc (.cells #[.string (bs r'.1), .string (bs r'.2)] 120))) := hBj.alloc (by omega) _
          have hss : ((wr.setCell ⟨X, 0, none⟩ (.string (bs r'.1))).setCell ⟨X, 1, none⟩ (.string (bs r'.2))).heap.size = wr.heap.size := by simp only [World.setCell, Array.size_modify]
          have HX3 : Hid ((((wr.setCell ⟨X, 0, none⟩ (.string (bs r'.1))).setCell ⟨X, 1, none⟩ (.string (bs r'.2))).alloc (.cells #[.string (bs r'.1), .string (bs r'.2)] 120)).heap[X]? = some (.cells #[.string (bs r'.1), .string (bs r'.2)] 120)) :=
            (Below.heap_alloc _ _ X (by rw [hss]; exact hXr)).trans (setB (setB hX 0 (.string (bs r'.1))) 1 (.string (bs r'.2)))
          have HBX3 : Hid (Below X wq (((wr.setCell ⟨X, 0, none⟩ (.string (bs r'.1))).setCell ⟨X, 1, none⟩ (.string (bs r'.2))).alloc (.cells #[.string (bs r'.1), .string (bs r'.2)] 120))) :=
            ((hBj.setCell (p := ⟨X, 0, none⟩) (Nat.le_refl _) _).setCell (p := ⟨X, 1, none⟩) (Nat.le_refl _) _).alloc (by rw [hss]; omega) _
          have HS3 : Hid (X + 1 ≤ (((wr.setCell ⟨X, 0, none⟩ (.string (bs r'.1))).setCell ⟨X, 1, none⟩ (.string (bs r'.2))).alloc (.cells #[.string (bs r'.1), .string (bs r'.2)] 120)).heap.size) := by
            show _ ≤ _
            rw [World.size_alloc, hss]
            omega
          have x0 := cellB hX 0 _ rfl
          have x1 := cellB hX 1 _ rfl
          have xf0 := frozenB hX 0
          have xf1 := frozenB hX 1
          clear hr' hm hX hX2 hBj hBw HO HB HF HLK HLSr hss
          cases b1 : lt K r'.1
          · have HST : Hid (leastR K (L.take (p + 1)) = m) := by show _ = _; rw [hst, leastB, b1]; simp
            rw [b1] at hgt
            clear hst
            go_wp2
            go_roundg (L.length - (p + 1))
            case measure => omega
            case rel => exact ⟨p + 1, by omega, by go_num, by rw [HST.out]; exact HX2.out, HBX.out, by simp; omega⟩
          · rw [b1] at hgt
            cases b2 : m.1.isEmpty
            · rw [b2] at hem
              cases b3 : lt r'.1 m.1
              · have HST : Hid (leastR K (L.take (p + 1)) = m) := by show _ = _; rw [hst, leastB, b1, b2, b3]; simp
                rw [b3] at hls
                clear hst
                go_wp2
                go_roundg (L.length - (p + 1))
                case measure => omega
                case rel => exact ⟨p + 1, by omega, by go_num, by rw [HST.out]; exact HX2.out, HBX.out, by simp; omega⟩
              · have HST : Hid (leastR K (L.take (p + 1)) = r') := by show _ = _; rw [hst, leastB, b1, b2, b3]; simp
                rw [b3] at hls
                clear hst
                go_wp2
                go_roundg (L.length - (p + 1))
                case measure => omega
                case rel => exact ⟨p + 1, by omega, by go_num, by rw [HST.out]; exact HX3.out, HBX3.out, HS3.out⟩
            · rw [b2] at hem
              have HST : Hid (leastR K (L.take (p + 1)) = r') := by show _ = _; rw [hst, leastB, b1, b2]; simp
              clear hst
              go_wp2
              go_roundg (L.length - (p + 1))
              case measure => omega
              case rel => exact ⟨p + 1, by omega, by go_num, by rw [HST.out]; exact HX3.out, HBX3.out, HS3.out⟩
end Go.Proofs.YtgmobjdjojffgaaDoor
