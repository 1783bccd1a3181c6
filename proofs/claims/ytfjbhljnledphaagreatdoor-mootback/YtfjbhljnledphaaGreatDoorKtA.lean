/- Configurations' numbers as lists: pack, list, unpack, walked. -/
import Derived.Test.YtfjbhljnledphaaGreatDoorKtP
import Derived.Test.YtfjbhljnledphaaGreatDoorNsP
import Derived.Test.YtfjbhljnledphaaGreatDoorNsQ
import Derived.Test.YtfjbhljnledphaaGreatDoorNsR
import Derived.Test.YtfjbhljnledphaaGreatDoorNsM
namespace Go.Proofs.YtfjbhljnledphaaGreatDoor
open Go.RowKit
attribute [local go_sem ↓] Go.wp_at_zero Go.wp_at_succ

set_option maxRecDepth 20000 in
set_option maxHeartbeats 1000000 in
theorem cpack_any (ns : List Int) (gv : Value) (w : World) (hu : Il w gv ns) (hs : ∀ n ∈ ns, 0 ≤ n ∧ n ≤ 4) (hl : ns.length ≤ 4) (he : EnvP w) :
    Calls Tryz.prog 32 #[gv] w fun e W' => e = .returned (.string (bs (numsL ns))) ∧ Below w.heap.size w W' := by
  obtain ⟨i0, hi, hz0, hz1, hz2⟩ := info_parts Tryz.info9
  have HP : Hid (∀ W u, Below w.heap.size w W → W.ownsRow w.heap.size 9 1 u ns.length (strs (numsT ns)) → Calls Tryz.prog 30 #[u] W fun e W' => e = .returned (.string (bs (numsL ns))) ∧ Below w.heap.size w W') := fun W u hb ho => by
    obtain ⟨_, t1, t2⟩ := numsL_bounds (ns := ns) fun n hn => by have := hs n hn; omega
    rw [← t2] at ho
    refine (Pack_any (numsT ns) u W (by omega) (by omega) (he.next hb) (Sl.of_owns ho)).mono ?_
    rintro e W' ⟨rfl, h1⟩
    exact ⟨rfl, hb.trans (h1.mono hb.size)⟩
  have HE : Hid (∀ W, Below w.heap.size w W → EnvP W) := fun W hb => he.next hb
  have HU : Hid (∀ W, Below w.heap.size w W → Il W gv ns) := fun W hb => hu.next hb
  have HS : Hid (∀ n ∈ ns, 0 ≤ n ∧ n ≤ 4) := hs
  obtain ⟨Z, hZ⟩ : ∃ Z, numsL ns = Z := ⟨_, rfl⟩
  rw [hZ] at HP
  rw [hZ]
  obtain ⟨pa, pc, rfl⟩ := hu.slice
  clear hu hs hZ he
  go_enter Tryz.func32, Tryz.ntmps32
  go_wp2_with fail
  go_loopg [3, 8] ns.length (fun gk u i wr => ∃ k : Nat, k + gk = ns.length ∧ i = .int .i64 k ∧ wr.ownsRow w.heap.size 9 1 u k (strs (numsT (ns.take k))) ∧ Below w.heap.size w wr)
  case atStart => exact ⟨0, by omega, rfl, World.ownsRow_nil _ _ _ _, Below.refl _ _⟩
  case round =>
    obtain ⟨k, hk, rfl, hown, hB⟩ := hrel
    by_cases hlt : k < ns.length
    · obtain ⟨n, hn⟩ : ∃ n, ns[k]? = some n := ⟨_, List.getElem?_eq_getElem hlt⟩
      have hn4 := HS.out n (List.mem_of_getElem? hn)
      obtain ⟨b1, o1, hpa, _, q1⟩ := (HU.out _ hB).at hn
      subst hpa
      have hN := Num_any n wr (by omega) (by omega) (HE.out _ hB)
      have HT : Hid (strs (numsT (ns.take (k + 1))) = strs (numsT (ns.take k)) ++ [.string (bs (Lib.itoa n))]) := by
        show _ = _
        rw [List.take_add_one, hn]
        simp [numsT, strs]
      have k0 : (0 : Int) ≤ (k : Int) := by omega
      have k1 : (k : Int) < (ns.length : Int) := by omega
      have hml : k + 1 ≤ maxLen := by unfold maxLen; omega
      have hkb : (k + 1) * 16 ≤ 140737488355328 := by omega
      obtain ⟨ua, uc, rfl⟩ := owns_slice hown
      obtain ⟨R, hR⟩ : ∃ R, strs (numsT (ns.take k)) = R := ⟨_, rfl⟩
      rw [hR] at hown HT
      obtain ⟨I, hI⟩ : ∃ I, Lib.itoa n = I := ⟨_, rfl⟩
      rw [hI] at hN HT
      have HO : Hid (wr.ownsRow w.heap.size 9 1 (.slice ua k uc) k R) := hown
      have HB : Hid (Below w.heap.size w wr) := hB
      clear hn hn4 hI hR hown hB HP
      go_wp2_with (first
        | (go_at_call 31; refine hN.mono ?_; clear hN; rintro e w1 ⟨rfl, hb1⟩; have hown := own_kept HO.out hb1; have hB := HB.out.trans (hb1.mono HB.out.size); clear hb1)
        | (at_builtin; refine wpList_append_own _ rfl _ _ 73 rfl w.heap.size 9 i0 (.string ⟨#[]⟩) 1 16 Tryz.underlying73 hi hz0 hz1 hz2 rfl (by decide) (.slice ua k uc) k R rfl (hown.alloc _) _ 1 1 [.string (bs I)] rfl rfl (World.news_of_block (heap_alloc_new _ _)) (by simp [Value.oneCell']) hml hkb (by have := hB.size; simp; omega) ?_; intro v' w' g1 g2 _))
      have hB3 := (hB.alloc hB.size (.cells #[.string (bs I)] 9)).grown g2 (by have := hB.size; simp; omega) (fun q hq => (hown.lt q hq).1)
      go_roundg (ns.length - (k + 1))
      case measure => omega
      case rel => exact ⟨k + 1, by omega, by go_num, by rw [HT.out]; exact g1, hB3⟩
    · have hkl : k = ns.length := by omega
      subst hkl
      obtain ⟨ua, uc, rfl⟩ := owns_slice hown
      rw [List.take_length] at hown
      have hP := HP.out _ _ hB hown
      clear hown HP hB
      go_wp2_with (go_at_call 30; refine hP.mono ?_; rintro e w1 ⟨rfl, hb1⟩)
      go_ret
      exact ⟨rfl, hb1⟩
set_option maxRecDepth 20000 in
set_option maxHeartbeats 1000000 in
theorem rlist_any (ns : List Int) (gv : Value) (w : World) (hu : Il w gv ns) (hs : ∀ n ∈ ns, 0 ≤ n ∧ n ≤ 4) (hl : ns.length ≤ 4) :
    Calls Tryz.prog 35 #[gv] w fun e W' => e = .returned (.string (bs (numsL ns))) ∧ Below w.heap.size w W' := by
  obtain ⟨i0, hi, hz0, hz1, hz2⟩ := info_parts Tryz.info9
  have HP : Hid (∀ W u, Below w.heap.size w W → W.ownsRow w.heap.size 9 1 u ns.length (strs (numsT ns)) → Calls Tryz.prog 33 #[u] W fun e W' => e = .returned (.string (bs (numsL ns))) ∧ Below w.heap.size w W') := fun W u hb ho => by
    obtain ⟨_, t1, t2⟩ := numsL_bounds (ns := ns) fun n hn => by have := hs n hn; omega
    rw [← t2] at ho
    refine (rPack_any (numsT ns) u W (by omega) (by omega) (Sl.of_owns ho)).mono ?_
    rintro e W' ⟨rfl, h1⟩
    exact ⟨rfl, hb.trans (h1.mono hb.size)⟩
  
  have HU : Hid (∀ W, Below w.heap.size w W → Il W gv ns) := fun W hb => hu.next hb
  have HS : Hid (∀ n ∈ ns, 0 ≤ n ∧ n ≤ 4) := hs
  obtain ⟨Z, hZ⟩ : ∃ Z, numsL ns = Z := ⟨_, rfl⟩
  rw [hZ] at HP
  rw [hZ]
  obtain ⟨pa, pc, rfl⟩ := hu.slice
  clear hu hs hZ
  go_enter Tryz.func35, Tryz.ntmps35
  go_wp2_with fail
  go_loopg [3, 8] ns.length (fun gk u i wr => ∃ k : Nat, k + gk = ns.length ∧ i = .int .i64 k ∧ wr.ownsRow w.heap.size 9 1 u k (strs (numsT (ns.take k))) ∧ Below w.heap.size w wr)
  case atStart => exact ⟨0, by omega, rfl, World.ownsRow_nil _ _ _ _, Below.refl _ _⟩
  case round =>
    obtain ⟨k, hk, rfl, hown, hB⟩ := hrel
    by_cases hlt : k < ns.length
    · obtain ⟨n, hn⟩ : ∃ n, ns[k]? = some n := ⟨_, List.getElem?_eq_getElem hlt⟩
      have hn4 := HS.out n (List.mem_of_getElem? hn)
      obtain ⟨b1, o1, hpa, _, q1⟩ := (HU.out _ hB).at hn
      subst hpa
      have hN := rNum_any n wr (by omega) (by omega)
      have HT : Hid (strs (numsT (ns.take (k + 1))) = strs (numsT (ns.take k)) ++ [.string (bs (Lib.itoa n))]) := by
        show _ = _
        rw [List.take_add_one, hn]
        simp [numsT, strs]
      have k0 : (0 : Int) ≤ (k : Int) := by omega
      have k1 : (k : Int) < (ns.length : Int) := by omega
      have hml : k + 1 ≤ maxLen := by unfold maxLen; omega
      have hkb : (k + 1) * 16 ≤ 140737488355328 := by omega
      obtain ⟨ua, uc, rfl⟩ := owns_slice hown
      obtain ⟨R, hR⟩ : ∃ R, strs (numsT (ns.take k)) = R := ⟨_, rfl⟩
      rw [hR] at hown HT
      obtain ⟨I, hI⟩ : ∃ I, Lib.itoa n = I := ⟨_, rfl⟩
      rw [hI] at hN HT
      have HO : Hid (wr.ownsRow w.heap.size 9 1 (.slice ua k uc) k R) := hown
      have HB : Hid (Below w.heap.size w wr) := hB
      clear hn hn4 hI hR hown hB HP
      go_wp2_with (first
        | (go_at_call 34; refine hN.mono ?_; clear hN; rintro e w1 ⟨rfl, hb1⟩; have hown := own_kept HO.out hb1; have hB := HB.out.trans (hb1.mono HB.out.size); clear hb1)
        | (at_builtin; refine wpList_append_own _ rfl _ _ 73 rfl w.heap.size 9 i0 (.string ⟨#[]⟩) 1 16 Tryz.underlying73 hi hz0 hz1 hz2 rfl (by decide) (.slice ua k uc) k R rfl (hown.alloc _) _ 1 1 [.string (bs I)] rfl rfl (World.news_of_block (heap_alloc_new _ _)) (by simp [Value.oneCell']) hml hkb (by have := hB.size; simp; omega) ?_; intro v' w' g1 g2 _))
      have hB3 := (hB.alloc hB.size (.cells #[.string (bs I)] 9)).grown g2 (by have := hB.size; simp; omega) (fun q hq => (hown.lt q hq).1)
      go_roundg (ns.length - (k + 1))
      case measure => omega
      case rel => exact ⟨k + 1, by omega, by go_num, by rw [HT.out]; exact g1, hB3⟩
    · have hkl : k = ns.length := by omega
      subst hkl
      obtain ⟨ua, uc, rfl⟩ := owns_slice hown
      rw [List.take_length] at hown
      have hP := HP.out _ _ hB hown
      clear hown HP hB
      go_wp2_with (go_at_call 33; refine hP.mono ?_; rintro e w1 ⟨rfl, hb1⟩)
      go_ret
      exact ⟨rfl, hb1⟩
theorem Sl_at {w : World} {a : Option Addr} {c : Nat} {l : List (List UInt8)} (h : Sl w (.slice a l.length c) l) {i : Nat} {t : List UInt8} (hi : l[i]? = some t) : ∃ b o, a = some ⟨b, o, none⟩ ∧ w.cell? ⟨b, o + i, none⟩ = some (.string (bs t)) := by
  rcases h with ⟨rfl, _⟩ | ⟨b, o, cap, hv, hlt, h⟩
  · cases hi
  · injection hv with h1 _ _
    exact ⟨b, o, h1, h i t hi⟩
theorem mem_pack_len {l : List (List UInt8)} {t : List UInt8} (h : t ∈ l) : t.length ≤ (packL l).length := by
  induction l with
  | nil => cases h
  | cons a l ih =>
    have e : packL (a :: l) = one a ++ packL l := by simp [packL]
    rw [e, List.length_append]
    rcases List.mem_cons.1 h with rfl | h
    · have : t.length ≤ (one t).length := by simp only [one, List.length_append, List.length_cons]; omega
      omega
    · have := ih h
      omega
/-- What unpack leaves. -/
def UnPost (s : List UInt8) (w : World) (v : Value) (E : Int) (W' : World) : Prop :=
  match unN s with
  | some ns => E = 0 ∧ Il W' v ns ∧ ns.length ≤ s.length ∧ ∀ k, v.ownBlock = some k → w.heap.size ≤ k ∧ k < W'.heap.size
  | none => E = 4 ∧ v = .slice none 0 0
theorem texts_count (s : List UInt8) : (texts s).length ≤ s.length := by
  unfold texts
  split
  · rw [List.length_map]; exact items_count
  · simp
set_option maxRecDepth 20000 in
set_option maxHeartbeats 2000000 in
theorem cunpack_any (s : List UInt8) (w : World) (hs : s.length ≤ 1000000) (he : Env w) :
    Calls Tryz.prog 38 #[.string (bs s)] w fun e W' => ∃ v E, e = .returned (.tuple #[v, .int .i64 E]) ∧ UnPost s w v E W' ∧ Below w.heap.size w W' := by
  have hU := Unpack_any s w hs he
  rcases err_cases s with e0 | e0
  · have HUN : Hid (unN s = numsOf (texts s)) := by show _ = _; unfold unN; rw [if_pos e0]
    have HTL : Hid ((texts s).length ≤ s.length) := texts_count s
    rw [e0] at hU
    have HTS : Hid (∀ t ∈ texts s, t.length ≤ s.length) := fun t ht => by
      have h1 := pack_texts (good_err.1 e0)
      have h2 := mem_pack_len ht
      rw [h1] at h2
      exact h2
    have HPS : Hid (∀ v E W', (∀ ns, numsOf (texts s) = some ns → E = 0 ∧ Il W' v ns ∧ ns.length ≤ s.length ∧ ∀ k, v.ownBlock = some k → w.heap.size ≤ k ∧ k < W'.heap.size) → (numsOf (texts s) = none → E = 4 ∧ v = .slice none 0 0) → UnPost s w v E W') := fun v E W' h1 h2 => by
      unfold UnPost
      rw [HUN.out]
      cases h : numsOf (texts s) with
      | none => exact h2 h
      | some ns => exact h1 ns h
    obtain ⟨L, hL⟩ : ∃ L, texts s = L := ⟨_, rfl⟩
    rw [hL] at hU HUN HTL HTS HPS
    obtain ⟨i0, hi, hz0, hz1, hz2⟩ := info_parts Tryz.info3
    have HE : Hid (∀ W, Below w.heap.size w W → Env W) := fun W hb => he.next hb
    have HSZ : Hid (s.length ≤ 1000000) := hs
    have hl : L.length ≤ 1000000 := Nat.le_trans HTL.out hs
    clear he hs hL e0
    go_enter Tryz.func38, Tryz.ntmps38
    go_wp2_with (first
      | (go_at_call 36; refine hU.mono ?_; clear hU; rintro e w1 ⟨v, rfl, hown, hb1⟩; obtain ⟨va, vc, rfl⟩ := owns_slice hown; have HO1 : Hid (w1.ownsRow w.heap.size 9 1 (.slice va L.length vc) L.length (strs L)) := hown; have HB1 : Hid (Below w.heap.size w w1) := hb1; clear hown hb1))
    go_loopg [6, 21] L.length (fun gk u i wr => ∃ (k : Nat) (ns : List Int), k + gk = L.length ∧ i = .int .i64 k ∧ numsOf (L.take k) = some ns ∧ wr.ownsRow w1.heap.size 3 1 u k (zcs ns) ∧ ns.length = k ∧ Below w1.heap.size w1 wr)
    case atStart => exact ⟨0, [], by omega, rfl, rfl, World.ownsRow_nil _ _ _ _, rfl, Below.refl _ _⟩
    case round =>
      obtain ⟨k, ns, hk, rfl, hns, hown, hnl, hB⟩ := hrel
      by_cases hlt : k < L.length
      · obtain ⟨t, ht⟩ : ∃ t, L[k]? = some t := ⟨_, List.getElem?_eq_getElem hlt⟩
        have hts := HTS.out t (List.mem_of_getElem? ht)
        obtain ⟨b1, o1, hva, q1⟩ := Sl_at ((Sl.of_owns HO1.out).below hB (Nat.le_refl _)) ht
        subst hva
        have hN := ToNum_any (bs t) wr (by show t.toArray.size ≤ _; rw [List.size_toArray]; have := HSZ.out; omega) (HE.out _ (HB1.out.trans (hB.mono HB1.out.size)))
        rw [show (bs t).data.toList = t from rfl] at hN
        have k0 : (0 : Int) ≤ (k : Int) := by omega
        have k1 : (k : Int) < (L.length : Int) := by omega
        rcases tn_cases t with et | et
        · have HT : Hid (numsOf (L.take (k + 1)) = some (ns ++ [tnV t])) := numsOf_take ht et hns
          rw [et] at hN
          obtain ⟨X, hX⟩ : ∃ X, tnV t = X := ⟨_, rfl⟩
          rw [hX] at hN HT
          have hml : k + 1 ≤ maxLen := by unfold maxLen; omega
          have hkb : (k + 1) * 8 ≤ 140737488355328 := by omega
          obtain ⟨ua, uc, rfl⟩ := owns_slice hown
          have HO : Hid (wr.ownsRow w1.heap.size 3 1 (.slice ua k uc) k (zcs ns) ∧ ns.length = k) := ⟨hown, hnl⟩
          have HB : Hid (Below w1.heap.size w1 wr) := hB
          clear ht hts et hX hns hown hB hnl HPS
          go_wp2_with (first
            | (go_at_call 37; refine hN.mono ?_; clear hN; rintro e w2 ⟨rfl, hb2⟩; have hown := own_kept HO.out.1 hb2; have hB := HB.out.trans (hb2.mono HB.out.size); clear hb2)
            | (at_builtin; refine wpList_append_own _ rfl _ _ 22 rfl w1.heap.size 3 i0 (.int .i64 0) 1 8 Tryz.underlying22 hi hz0 hz1 hz2 rfl (by decide) (.slice ua k uc) k (zcs ns) rfl (hown.alloc _) _ 1 1 [.int .i64 X] rfl rfl (World.news_of_block (heap_alloc_new _ _)) (by simp [Value.oneCell']) hml hkb (by have := hB.size; simp; omega) ?_; intro v' w' g1 g2 _))
          have hB3 := (hB.alloc hB.size (.cells #[.int .i64 X] 3)).grown g2 (by have := hB.size; simp; omega) (fun q hq => (hown.lt q hq).1)
          go_roundg (L.length - (k + 1))
          case measure => omega
          case rel => exact ⟨k + 1, ns ++ [X], by omega, by go_num, HT.out, by rw [zcs_snoc]; exact g1, by have := HO.out.2; simp; omega, hB3⟩
        · have HT : Hid (numsOf L = none) := numsOf_at ht (by rw [et]; decide)
          rw [et] at hN
          obtain ⟨X, hX⟩ : ∃ X, tnV t = X := ⟨_, rfl⟩
          rw [hX] at hN
          have HB : Hid (Below w1.heap.size w1 wr) := hB
          obtain ⟨ua, uc, rfl⟩ := owns_slice hown
          clear ht hts et hX hns hown hB hnl
          go_wp2_with (first
            | (go_at_call 37; refine hN.mono ?_; clear hN; rintro e w2 ⟨rfl, hb2⟩; have hB := HB.out.trans (hb2.mono HB.out.size); clear hb2))
          exact bodyPost_ret (v := .tuple #[.slice none 0 0, .int .i64 4]) (by simp [results, Tryz.f38, go_sem]) rfl ⟨_, _, rfl, HPS.out _ _ _ (fun ns h => by rw [HT.out] at h; cases h) (fun _ => ⟨rfl, rfl⟩), HB1.out.trans (hB.mono HB1.out.size)⟩
      · have hkl : k = L.length := by omega
        subst hkl
        obtain ⟨ua, uc, rfl⟩ := owns_slice hown
        have HR : Hid (_ ∧ _ ∧ _ ∧ _) := ⟨hns, hown, hnl, hB⟩
        clear hns hown hnl hB
        go_wp2
        obtain ⟨hns, hown, hnl, hB⟩ := HR.out
        rw [List.take_length] at hns
        refine bodyPost_ret (v := .tuple #[.slice ua L.length uc, .int .i64 0]) (by simp [results, Tryz.f38, go_sem]) rfl ⟨_, _, rfl, HPS.out _ _ _ (fun ms h => ?_) (fun h => by rw [hns] at h; cases h), HB1.out.trans (hB.mono HB1.out.size)⟩
        rw [hns] at h
        injection h with h
        subst h
        have hil : Il wr (.slice ua L.length uc) ns := by
          rw [← hnl] at hown ⊢
          exact Il_owns hown
        exact ⟨rfl, hil, by have := HTL.out; omega, fun k hk => by
          have := hown.lt k hk
          have := HB1.out.size
          omega⟩
  · have HU : Hid (unN s = none) := by show _ = _; unfold unN; rw [if_neg (by rw [e0]; decide)]
    have hT : texts s = [] := texts_bad (by rw [e0]; decide)
    rw [e0, hT] at hU
    clear e0 hT
    go_enter Tryz.func38, Tryz.ntmps38
    go_wp2_with (first
      | (go_at_call 36; refine hU.mono ?_; clear hU; rintro e w1 ⟨v, rfl, hown, hb1⟩; obtain ⟨va, vc, rfl⟩ := owns_slice hown; clear hown))
    exact bodyPost_ret (v := .tuple #[.slice none 0 0, .int .i64 4]) (by simp [results, Tryz.f38, go_sem]) rfl ⟨_, _, rfl, by unfold UnPost; rw [HU.out]; exact ⟨rfl, rfl⟩, hb1⟩
end Go.Proofs.YtfjbhljnledphaaGreatDoor
