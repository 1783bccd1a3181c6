/- Configurations' texts: ChainTexts, walked. -/
import Derived.Test.YtfjbhljnledphaaGreatDoorKtE
import Derived.Test.YtfjbhljnledphaaGreatDoorKtL
import Derived.Test.YtfjbhljnledphaaGreatDoorChW
namespace Go.Proofs.YtfjbhljnledphaaGreatDoor
open Go.RowKit
attribute [local go_sem ↓] Go.wp_at_zero Go.wp_at_succ

/-- What both Reads tell of a text. -/
def rdV (s : List UInt8) : Int × List Int × List Int := (readC s).getD (0, [], [0, 0, 0, 0])
def rdE (s : List UInt8) : Int := if (readC s).isSome = true then 0 else 4
theorem rdE_cases (s : List UInt8) : rdE s = 0 ∨ rdE s = 4 := by
  unfold rdE
  split
  · exact .inl rfl
  · exact .inr rfl
theorem rdV_form (s : List UInt8) : ∃ n g p q r t, rdV s = (n, g, [p, q, r, t]) := by
  unfold rdV
  cases h : readC s with
  | none => exact ⟨0, [], 0, 0, 0, 0, rfl⟩
  | some x =>
    obtain ⟨n, g, o⟩ := x
    obtain ⟨_, h2, _⟩ := cfg_read h
    obtain ⟨p, q, r, t, rfl⟩ := list4 h2
    exact ⟨n, g, p, q, r, t, rfl⟩
theorem rdV_len {s : List UInt8} {n : Int} {g : List Int} {o : List Int} (hV : rdV s = (n, g, o)) : g.length ≤ 1000 := by
  unfold rdV at hV
  cases h : readC s with
  | none => rw [h] at hV; injection hV with _ hV; injection hV with hV _; subst hV; decide
  | some x =>
    obtain ⟨n', g', o'⟩ := x
    rw [h] at hV
    injection hV with _ hV
    injection hV with hV _
    subst hV
    obtain ⟨h1, h2, _⟩ := cfg_read h
    have := (okC_small h1 h2).2.2.1
    show g'.length ≤ 1000
    omega
theorem rd_of {s : List UInt8} {base : Nat} {x : Value} {E : Int} {W' : World} (hp : RdPost s base x E W') {n : Int} {g : List Int} {p q r t : Int} (hV : rdV s = (n, g, [p, q, r, t])) : ∃ va vc, x = .agg (cf n (.slice va g.length vc) p q r t) ∧ E = rdE s ∧ Il W' (.slice va g.length vc) g := by
  unfold RdPost at hp
  unfold rdV at hV
  unfold rdE
  cases h : readC s with
  | none =>
    rw [h] at hp hV
    obtain ⟨rfl, rfl⟩ := hp
    replace hV : ((0 : Int), ([] : List Int), ([0, 0, 0, 0] : List Int)) = (n, g, [p, q, r, t]) := hV
    simp at hV
    obtain ⟨rfl, rfl, rfl, rfl, rfl, rfl⟩ := hV
    exact ⟨none, 0, rfl, rfl, .inl ⟨rfl, none, 0, rfl⟩⟩
  | some y =>
    obtain ⟨n', g', o'⟩ := y
    rw [h] at hp hV
    obtain ⟨rfl, v, a, b, c, d, e1, rfl, hi, _⟩ := hp
    replace hV : (n', g', o') = (n, g, [p, q, r, t]) := hV
    rw [e1] at hV
    simp at hV
    obtain ⟨rfl, rfl, rfl, rfl, rfl, rfl⟩ := hV
    obtain ⟨va, vc, rfl⟩ := hi.slice
    exact ⟨va, vc, rfl, rfl, hi⟩
theorem rd_text {s : List UInt8} {n : Int} {g : List Int} {p q r t : Int} (hV : rdV s = (n, g, [p, q, r, t])) (hE : rdE s = 0) : okC n g [p, q, r, t] = true ∧ cfgT n g [p, q, r, t] = s := by
  unfold rdE at hE
  unfold rdV at hV
  cases h : readC s with
  | none => rw [h] at hE; simp at hE
  | some y =>
    obtain ⟨n', g', o'⟩ := y
    rw [h] at hV
    replace hV : (n', g', o') = (n, g, [p, q, r, t]) := hV
    obtain ⟨h1, h2, h3⟩ := cfg_read h
    injection hV with e1 e2
    injection e2 with e2 e3
    subst e1 e2 e3
    exact ⟨h1, h3⟩
set_option maxRecDepth 20000 in
set_option maxHeartbeats 8000000 in
theorem texts_ok (num : Int) (n0 : 0 ≤ num) (n1 : num ≤ 1099511627776) (pa : Option Addr) (pc : Nat) (gs : List Nat) (a b c d : Nat) (hg : gs ∈ subs0) (ho : [a, b, c, d] ∈ owners0 gs) (s : List UInt8) (w : World) (hu : Il w (.slice pa gs.length pc) (zi gs)) (hs : s.length ≤ 10000) (he : Env w) :
    Calls Tryz.prog 3 #[.agg (cf num (.slice pa gs.length pc) a b c d), .string (bs s)] w fun e W' => e = .returned (.bool true) ∧ Below w.heap.size w W' := by
  have hok : okC num (zi gs) [(a : Int), b, c, d] = true := ok_conf hg ho n0 n1
  have hl : (zi gs).length ≤ 100 := by rw [zi_len]; have := (conf_of hg).1; omega
  have HC : Hid (gs ∈ subs0 ∧ [a, b, c, d] ∈ owners0 gs ∧ 0 ≤ num ∧ num ≤ 1099511627776) := ⟨hg, ho, n0, n1⟩
  have hss : (bs s).size = s.length := bs_size s
  have hP : EnvP w := ⟨he.pow, he.size⟩
  obtain ⟨A, hA⟩ : ∃ A, (cfgT num (zi gs) [(a : Int), b, c, d]) = A := ⟨_, rfl⟩
  have HT : Hid (∀ W, Below w.heap.size w W → Calls Tryz.prog 7 #[.agg (cf num (.slice pa gs.length pc) a b c d)] W fun e W' => e = .returned (.tuple #[.string (bs A), .int .i64 0]) ∧ Below W.heap.size W W') := fun W hW => by
    have := cText_any num (.slice pa gs.length pc) (zi gs) a b c d W (hu.next hW) (by omega) (hP.next hW)
    rw [hok, if_pos rfl, if_pos rfl] at this
    rw [hA] at this
    exact this
  have HRT : Hid (∀ W, Below w.heap.size w W → Calls Tryz.prog 8 #[.agg (cf num (.slice pa gs.length pc) a b c d)] W fun e W' => e = .returned (.tuple #[.string (bs A), .int .i64 0]) ∧ Below W.heap.size W W') := fun W hW => by
    have := rText_any num (.slice pa gs.length pc) (zi gs) a b c d W (hu.next hW) (by omega)
    rw [hok, if_pos rfl, if_pos rfl] at this
    rw [hA] at this
    exact this
  have HRef : Hid (∀ W, Calls Tryz.prog 9 #[.agg (cf num (.slice pa gs.length pc) a b c d)] W fun e W' => e = .returned (.agg (cf num (.slice pa gs.length pc) a b c d)) ∧ Below W.heap.size W W') := fun W => cref_any num (.slice pa gs.length pc) ⟨_, _, _, rfl⟩ a b c d W
  have HChk : Hid (∀ W, Below w.heap.size w W → Calls Tryz.prog 13 #[.agg (cf num (.slice pa gs.length pc) a b c d)] W fun e W' => e = .returned (.int .i64 0) ∧ Below W.heap.size W W') := fun W hW => by
    have := Check_wide num (.slice pa gs.length pc) (zi gs) a b c d W (hu.next hW) (by omega)
    rw [hok, if_pos rfl] at this
    exact this
  have HRChk : Hid (∀ W, Below w.heap.size w W → Calls Tryz.prog 14 #[.agg (cf num (.slice pa gs.length pc) a b c d)] W fun e W' => e = .returned (.int .i64 0) ∧ Below W.heap.size W W') := fun W hW => by
    have := rCheck_any num (.slice pa gs.length pc) (zi gs) a b c d W (hu.next hW) (by omega)
    rw [hok, if_pos rfl] at this
    exact this
  have HLL : Hid (((zi (gs.map (cnt [a, b, c, d]))) : List Int).length ≤ 1000) := by show _ ≤ _; rw [zi_len, List.length_map]; rw [zi_len] at hl; omega
  have HLO : Hid (∀ W, Below w.heap.size w W → Calls Tryz.prog 17 #[.agg (cf num (.slice pa gs.length pc) a b c d)] W fun e W' => ∃ v, e = .returned v ∧ Il W' v (zi (gs.map (cnt [a, b, c, d]))) ∧ Below W.heap.size W W') := fun W hW => Loads_any num n0 n1 (.slice pa gs.length pc) gs a b c d W (hu.next hW) hg ho
  obtain ⟨n9, g9, p, q, r, t, hV⟩ := rdV_form s
  obtain ⟨G, hG⟩ : ∃ G, rdE s = G := ⟨_, rfl⟩
  have HGE : Hid (G = 0 ∨ G = 4) := by show _ ∨ _; rw [← hG]; exact rdE_cases s
  have HRead : Hid (∀ W, Below w.heap.size w W → Calls Tryz.prog 10 #[.string (bs s)] W fun e W' => ∃ va vc, e = .returned (.tuple #[.agg (cf n9 (.slice va g9.length vc) p q r t), .int .i64 G]) ∧ Il W' (.slice va g9.length vc) g9 ∧ Below W.heap.size W W') := fun W hW => by
    refine (cRead_any s W (by omega) (he.next hW)).mono ?_
    rintro e W' ⟨x, E, rfl, hp, hb⟩
    obtain ⟨va, vc, rfl, rfl, h3⟩ := rd_of hp hV
    exact ⟨va, vc, by rw [hG], h3, hb⟩
  have HRRead : Hid (∀ W, Calls Tryz.prog 11 #[.string (bs s)] W fun e W' => ∃ va vc, e = .returned (.tuple #[.agg (cf n9 (.slice va g9.length vc) p q r t), .int .i64 G]) ∧ Il W' (.slice va g9.length vc) g9 ∧ Below W.heap.size W W') := fun W => by
    refine (rRead_any s W (by omega)).mono ?_
    rintro e W' ⟨x, E, rfl, hp, hb⟩
    obtain ⟨va, vc, rfl, rfl, h3⟩ := rd_of hp hV
    exact ⟨va, vc, by rw [hG], h3, hb⟩
  have HG9 : Hid (g9.length ≤ 1000) := rdV_len hV
  have HTX : Hid (G = 0 → ∀ W, Below w.heap.size w W → ∀ {va : Option Addr} {vc : Nat}, Il W (.slice va g9.length vc) g9 → Calls Tryz.prog 7 #[.agg (cf n9 (.slice va g9.length vc) p q r t)] W fun e W' => e = .returned (.tuple #[.string (bs s), .int .i64 0]) ∧ Below W.heap.size W W') := fun h W hW va vc hi => by
    obtain ⟨k1, k2⟩ := rd_text hV (hG.trans h)
    have := cText_any n9 (.slice va g9.length vc) g9 p q r t W hi (by have := HG9.out; omega) (hP.next hW)
    rw [k1, if_pos rfl, if_pos rfl, k2] at this
    exact this
  have HReadA : Hid (∀ W, Below w.heap.size w W → Calls Tryz.prog 10 #[.string (bs A)] W fun e W' => ∃ va vc, e = .returned (.tuple #[.agg (cf num (.slice va gs.length vc) a b c d), .int .i64 0]) ∧ Il W' (.slice va gs.length vc) (zi gs) ∧ Below W.heap.size W W') := fun W hW => by
    have h1 := read_cfg hok (by rfl)
    have h2 := cfg_tot hok (by rfl)
    have h3 : A.length ≤ 1000000 := by
      rw [← hA]
      have := pack_len (cfgTs num (zi gs) [(a : Int), b, c, d]) (by omega)
      unfold cfgT
      omega
    rw [hA] at h1
    refine (cRead_any A W h3 (he.next hW)).mono ?_
    rintro e W' ⟨x, E, rfl, hp, hb⟩
    unfold RdPost at hp
    rw [h1] at hp
    obtain ⟨rfl, v, p', q', r', t', e1, rfl, hi, _⟩ := hp
    injection e1 with e1 e2
    injection e2 with e2 e3
    injection e3 with e3 e4
    injection e4 with e4 _
    subst e1 e2 e3 e4
    obtain ⟨va, vc, rfl⟩ := hi.slice
    rw [zi_len] at hi ⊢
    exact ⟨va, vc, rfl, hi, hb⟩
  have hb0 : Below w.heap.size w (w.alloc (.cells (cf num (.slice pa gs.length pc) a b c d) 25)) := (Below.refl _ w).alloc (Nat.le_refl _) _
  have r0 := heap_alloc_new w (.cells (cf num (.slice pa gs.length pc) a b c d) 25)
  obtain ⟨W0, hW0⟩ : ∃ W, w.alloc (.cells (cf num (.slice pa gs.length pc) a b c d) 25) = W := ⟨_, rfl⟩
  obtain ⟨B, hB⟩ : ∃ B, w.heap.size = B := ⟨_, rfl⟩
  have hsz : B < W0.heap.size := by rw [← hW0, ← hB]; simp
  rw [hW0] at hb0 r0
  rw [hB] at r0
  have HV : Hid (w.alloc (.cells (cf num (.slice pa gs.length pc) a b c d) 25) = W0) := hW0
  have HVB : Hid (w.heap.size = B) := hB
  have HB0 : Hid (Below w.heap.size w W0) := hb0
  have HS0 : Hid (∀ W, Below W0.heap.size W0 W → W.heap[B]? = some (.cells (cf num (.slice pa gs.length pc) a b c d) 25)) := fun W hW => (hW.block _ hsz).trans r0
  have K0 : Hid (W0.rangeAt B 0 (cfL num (.slice pa gs.length pc) a b c d)) := blk_range (L := (cfL num (.slice pa gs.length pc) a b c d)) r0
  have x1 := cellB r0 1 _ rfl
  have HI0 : Hid (Il W0 (.slice pa gs.length pc) (zi gs)) := hu.next hb0
  have hq1 : ¬ (100 : Int) < (gs.length : Int) := by rw [zi_len] at hl; omega
  have hq2 : ¬ (10000 : Int) < (s.length : Int) := by omega
  clear hW0 hB r0 hb0 hsz hu hs he hP hV hG hA hok hl hg ho n0 n1
  go_enter Tryz.func3, Tryz.ntmps3
  go_upto_region 1 with fail
  rw [HV.out, HVB.out]
  clear HV
  go_upto_region 4 with (first
    | (refine wpList_load_mid rfl 25 _ rfl B 0 rfl (cfL num (.slice pa gs.length pc) a b c d) _ K0.out Tryz.underlying25 rfl Tryz.size25 ?_)
    | (go_at_call 7; refine (HT.out W0 HB0.out).mono ?_; rintro e w1 ⟨rfl, hb1⟩; have H1 : Hid (Below W0.heap.size W0 w1) := hb1; clear hb1))
  clear x1 hq1 hq2
  have HB1 : Hid (Below w.heap.size w w1) := HB0.out.trans (H1.out.mono HB0.out.size)
  have K1 : Hid (w1.rangeAt B 0 (cfL num (.slice pa gs.length pc) a b c d)) := blk_range (L := (cfL num (.slice pa gs.length pc) a b c d)) (HS0.out _ H1.out)
  go_upto_region 5 with (first
    | (refine wpList_load_mid rfl 25 _ rfl B 0 rfl (cfL num (.slice pa gs.length pc) a b c d) _ K1.out Tryz.underlying25 rfl Tryz.size25 ?_)
    | (go_at_call 9; refine (HRef.out _).mono ?_; rintro e w2 ⟨rfl, hb2⟩; have HB2 : Hid (Below w.heap.size w w2) := HB1.out.trans (hb2.mono HB1.out.size); have H2 : Hid (Below W0.heap.size W0 w2) := H1.out.trans (hb2.mono H1.out.size); clear hb2)
    | (go_at_call 8; refine (HRT.out _ HB2.out).mono ?_; rintro e w3 ⟨rfl, hb3⟩; have HB3 : Hid (Below w.heap.size w w3) := HB2.out.trans (hb3.mono HB2.out.size); have H3 : Hid (Below W0.heap.size W0 w3) := H2.out.trans (hb3.mono H2.out.size); clear hb3))
  clear K0 K1
  go_upto_region 6 with (first
    | (go_at_call 10; refine (HRead.out _ HB3.out).mono ?_; rintro e w4 ⟨va9, vc9, rfl, i9, hb4⟩; have HB4 : Hid (Below w.heap.size w w4) := HB3.out.trans (hb4.mono HB3.out.size); have H4 : Hid (Below W0.heap.size W0 w4) := H3.out.trans (hb4.mono H3.out.size); have HI9 : Hid (Il w4 (.slice va9 g9.length vc9) g9) := i9; clear hb4 i9))
  have hb5 := H4.out.alloc H4.out.size (.cells (cf n9 (.slice va9 g9.length vc9) p q r t) 25)
  have hbw5 := HB4.out.alloc HB4.out.size (.cells (cf n9 (.slice va9 g9.length vc9) p q r t) 25)
  have r9 := heap_alloc_new w4 (.cells (cf n9 (.slice va9 g9.length vc9) p q r t) 25)
  have i9 := HI9.out.next ((Below.refl _ w4).alloc (Nat.le_refl _) (.cells (cf n9 (.slice va9 g9.length vc9) p q r t) 25))
  have hs9 : w4.heap.size < (w4.alloc (.cells (cf n9 (.slice va9 g9.length vc9) p q r t) 25)).heap.size := by simp
  obtain ⟨W4, hW4⟩ : ∃ W, w4.alloc (.cells (cf n9 (.slice va9 g9.length vc9) p q r t) 25) = W := ⟨_, rfl⟩
  obtain ⟨B9, hB9⟩ : ∃ B, w4.heap.size = B := ⟨_, rfl⟩
  rw [hW4] at hb5 hbw5 r9 i9 hs9 ⊢
  rw [hB9] at r9 hs9 ⊢
  have HB5 : Hid (Below w.heap.size w W4) := hbw5
  have HS5 : Hid (∀ W, Below W4.heap.size W4 W → W.heap[B]? = some (.cells (cf num (.slice pa gs.length pc) a b c d) 25) ∧ W.heap[B9]? = some (.cells (cf n9 (.slice va9 g9.length vc9) p q r t) 25)) := fun W hW => ⟨HS0.out _ (hb5.trans (hW.mono hb5.size)), (hW.block _ hs9).trans r9⟩
  have HI5 : Hid (Il W4 (.slice pa gs.length pc) (zi gs) ∧ Il W4 (.slice va9 g9.length vc9) g9) := ⟨HI0.out.next hb5, i9⟩
  clear hb5 hbw5 r9 i9 hs9 hW4 hB9 HI9
  go_upto_region 7 with (first
    | (go_at_call 11; refine (HRRead.out _).mono ?_; rintro e w5 ⟨va11, vc11, rfl, i11, hb5⟩; have H5 : Hid (Below W4.heap.size W4 w5) := hb5; have HI11 : Hid (Il w5 (.slice va11 g9.length vc11) g9) := i11; clear hb5 i11))
  have hb6 := H5.out.alloc H5.out.size (.cells (cf n9 (.slice va11 g9.length vc11) p q r t) 32)
  have r11 := heap_alloc_new w5 (.cells (cf n9 (.slice va11 g9.length vc11) p q r t) 32)
  have i11 := HI11.out.next ((Below.refl _ w5).alloc (Nat.le_refl _) (.cells (cf n9 (.slice va11 g9.length vc11) p q r t) 32))
  have hs11 : w5.heap.size < (w5.alloc (.cells (cf n9 (.slice va11 g9.length vc11) p q r t) 32)).heap.size := by simp
  obtain ⟨W6, hW6⟩ : ∃ W, w5.alloc (.cells (cf n9 (.slice va11 g9.length vc11) p q r t) 32) = W := ⟨_, rfl⟩
  obtain ⟨B11, hB11⟩ : ∃ B, w5.heap.size = B := ⟨_, rfl⟩
  rw [hW6] at hb6 r11 i11 hs11 ⊢
  rw [hB11] at r11 hs11 ⊢
  have HB6 : Hid (Below w.heap.size w W6) := HB5.out.trans (hb6.mono HB5.out.size)
  have HS6 : Hid (∀ W, Below W6.heap.size W6 W → W.heap[B]? = some (.cells (cf num (.slice pa gs.length pc) a b c d) 25) ∧ W.heap[B9]? = some (.cells (cf n9 (.slice va9 g9.length vc9) p q r t) 25) ∧ W.heap[B11]? = some (.cells (cf n9 (.slice va11 g9.length vc11) p q r t) 32)) := fun W hW => by
    obtain ⟨j1, j2⟩ := HS5.out _ (hb6.trans (hW.mono hb6.size))
    exact ⟨j1, j2, (hW.block _ hs11).trans r11⟩
  have HI6 : Hid (Il W6 (.slice pa gs.length pc) (zi gs) ∧ Il W6 (.slice va9 g9.length vc9) g9 ∧ Il W6 (.slice va11 g9.length vc11) g9) := ⟨HI5.out.1.next hb6, HI5.out.2.next hb6, i11⟩
  have HSame : Hid (∀ W, Below W6.heap.size W6 W → Calls Tryz.prog 12 #[.agg (cf n9 (.slice va9 g9.length vc9) p q r t), .agg (cf n9 (.slice va11 g9.length vc11) p q r t)] W fun e W' => e = .returned (.bool true) ∧ Below W.heap.size W W') := fun W hW => same_any n9 g9 _ _ p q r t W (HI6.out.2.1.next hW) (HI6.out.2.2.next hW) HG9.out
  clear hb6 r11 i11 hs11 hW6 hB11 HI11 H1 H2 H3 H4 H5
  refine region_Z 99 (fun w' => w'.heap[B]? = some (.cells (cf num (.slice pa gs.length pc) a b c d) 25) ∧ w'.heap[B9]? = some (.cells (cf n9 (.slice va9 g9.length vc9) p q r t) 25) ∧ w'.heap[B11]? = some (.cells (cf n9 (.slice va11 g9.length vc11) p q r t) 32)) (by kernel_rfl) ?_
  have hbD : Below W6.heap.size W6 W6.drew := below_drew (Below.refl _ _)
  have hS0 := HS6.out _ hbD
  refine Y_take (i := 0) (v := ?_) rfl (by kernel_rfl) (by kernel_rfl) (by kernel_rfl) (by kernel_rfl) (fun _ _ _ h => h) (by rfl) hS0 ?_ ?_
  rotate_left
  · (intro w' hSw; go_simp; (try with_reducible rfl))
  simp only [Act.put, List.getElem_toArray, List.getElem_cons_zero, List.setIfInBounds_toArray, List.set_cons_succ, List.set_cons_zero]
  refine Y_take (i := 1) (v := ?_) rfl (by kernel_rfl) (by kernel_rfl) (by kernel_rfl) (by kernel_rfl) (fun _ _ _ h => h) (by rfl) hS0 ?_ ?_
  rotate_left
  · (intro w' hSw; go_simp; (try with_reducible rfl))
  simp only [Act.put, List.getElem_toArray, List.getElem_cons_succ, List.getElem_cons_zero, List.setIfInBounds_toArray, List.set_cons_succ, List.set_cons_zero]
  refine Y_take (i := 2) (v := ?_) rfl (by kernel_rfl) (by kernel_rfl) (by kernel_rfl) (by kernel_rfl) (fun _ _ _ h => h) (by rfl) hS0 ?_ ?_
  rotate_left
  · (intro w' hSw; go_simp; (try with_reducible rfl))
  simp only [Act.put, List.getElem_toArray, List.getElem_cons_succ, List.getElem_cons_zero, List.setIfInBounds_toArray, List.set_cons_succ, List.set_cons_zero]
  refine Y_take (i := 3) (v := ?_) rfl (by kernel_rfl) (by kernel_rfl) (by kernel_rfl) (by kernel_rfl) (fun _ _ _ h => h) (by rfl) hS0 ?_ ?_
  rotate_left
  · (intro w' hSw; go_simp; (try with_reducible rfl))
  simp only [Act.put, List.getElem_toArray, List.getElem_cons_succ, List.getElem_cons_zero, List.setIfInBounds_toArray, List.set_cons_succ, List.set_cons_zero]
  refine Y_take (i := 4) (v := ?_) rfl (by kernel_rfl) (by kernel_rfl) (by kernel_rfl) (by kernel_rfl) (fun _ _ _ h => h) (by rfl) hS0 ?_ ?_
  rotate_left
  · (intro w' hSw; go_simp; (try with_reducible rfl))
  simp only [Act.put, List.getElem_toArray, List.getElem_cons_succ, List.getElem_cons_zero, List.setIfInBounds_toArray, List.set_cons_succ, List.set_cons_zero]
  refine Y_take (i := 5) (v := ?_) rfl (by kernel_rfl) (by kernel_rfl) (by kernel_rfl) (by kernel_rfl) (fun _ _ _ h => h) (by rfl) hS0 ?_ ?_
  rotate_left
  · (intro w' hSw; go_simp; (try with_reducible rfl))
  simp only [Act.put, List.getElem_toArray, List.getElem_cons_succ, List.getElem_cons_zero, List.setIfInBounds_toArray, List.set_cons_succ, List.set_cons_zero]
  refine Y_take (i := 6) (v := ?_) rfl (by kernel_rfl) (by kernel_rfl) (by kernel_rfl) (by kernel_rfl) (fun _ _ _ h => h) (by rfl) hS0 ?_ ?_
  rotate_left
  · (intro w' hSw; go_simp; (try with_reducible rfl))
  simp only [Act.put, List.getElem_toArray, List.getElem_cons_succ, List.getElem_cons_zero, List.setIfInBounds_toArray, List.set_cons_succ, List.set_cons_zero]
  refine Y_take (i := 7) (v := ?_) rfl (by kernel_rfl) (by kernel_rfl) (by kernel_rfl) (by kernel_rfl) (fun _ _ _ h => h) (by rfl) hS0 ?_ ?_
  rotate_left
  · (intro w' hSw; go_simp; (try with_reducible rfl))
  simp only [Act.put, List.getElem_toArray, List.getElem_cons_succ, List.getElem_cons_zero, List.setIfInBounds_toArray, List.set_cons_succ, List.set_cons_zero]
  refine Y_take (i := 8) (v := ?_) rfl (by kernel_rfl) (by kernel_rfl) (by kernel_rfl) (by kernel_rfl) (fun _ _ _ h => h) (by rfl) hS0 ?_ ?_
  rotate_left
  · (intro w' hSw; go_simp; (try with_reducible rfl))
  simp only [Act.put, List.getElem_toArray, List.getElem_cons_succ, List.getElem_cons_zero, List.setIfInBounds_toArray, List.set_cons_succ, List.set_cons_zero]
  refine Y_take (i := 9) (v := ?_) rfl (by kernel_rfl) (by kernel_rfl) (by kernel_rfl) (by kernel_rfl) (fun _ _ _ h => h) (by rfl) hS0 ?_ ?_
  rotate_left
  · (intro w' hSw; have e0 := cellB hSw.2.1 0 _ rfl; have e1 := cellB hSw.2.1 1 _ rfl; have e2 := cellB hSw.2.1 2 _ rfl; have e3 := cellB hSw.2.1 3 _ rfl; have e4 := cellB hSw.2.1 4 _ rfl; have e5 := cellB hSw.2.1 5 _ rfl; go_simp; (try with_reducible rfl))
  simp only [Act.put, List.getElem_toArray, List.getElem_cons_succ, List.getElem_cons_zero, List.setIfInBounds_toArray, List.set_cons_succ, List.set_cons_zero]
  refine Y_take (i := 10) (v := ?_) rfl (by kernel_rfl) (by kernel_rfl) (by kernel_rfl) (by kernel_rfl) (fun _ _ _ h => h) (by rfl) hS0 ?_ ?_
  rotate_left
  · (intro w' hSw; have e0 := cellB hSw.2.2 0 _ rfl; have e1 := cellB hSw.2.2 1 _ rfl; have e2 := cellB hSw.2.2 2 _ rfl; have e3 := cellB hSw.2.2 3 _ rfl; have e4 := cellB hSw.2.2 4 _ rfl; have e5 := cellB hSw.2.2 5 _ rfl; go_simp; (try with_reducible rfl))
  simp only [Act.put, List.getElem_toArray, List.getElem_cons_succ, List.getElem_cons_zero, List.setIfInBounds_toArray, List.set_cons_succ, List.set_cons_zero]
  refine Z_step (i := 11) (by kernel_rfl) rfl (fun K' hK => ?_)
  go_simp
  refine (HSame.out _ hbD).mono ?_
  rintro e w7 ⟨rfl, hb7'⟩
  have hb7 := hbD.trans (hb7'.mono hbD.size)
  have hS7 := HS6.out _ hb7
  refine hK _ _ (fun _ => hS7) ?_
  clear hK K'
  refine Y_take (i := 12) (v := ?_) rfl (by kernel_rfl) (by kernel_rfl) (by kernel_rfl) (by kernel_rfl) (fun _ _ _ h => h) (by rfl) hS7 ?_ ?_
  rotate_left
  · (intro w' hSw; go_simp; (try with_reducible rfl))
  simp only [Act.put, List.getElem_toArray, List.getElem_cons_succ, List.getElem_cons_zero, List.setIfInBounds_toArray, List.set_cons_succ, List.set_cons_zero]
  refine Y_take (i := 13) (v := ?_) rfl (by kernel_rfl) (by kernel_rfl) (by kernel_rfl) (by kernel_rfl) (fun _ _ _ h => h) (by rfl) hS7 ?_ ?_
  rotate_left
  · (intro w' hSw; go_simp; (try with_reducible rfl))
  simp only [Act.put, List.getElem_toArray, List.getElem_cons_succ, List.getElem_cons_zero, List.setIfInBounds_toArray, List.set_cons_succ, List.set_cons_zero]
  refine Y_take (i := 14) (v := ?_) rfl (by kernel_rfl) (by kernel_rfl) (by kernel_rfl) (by kernel_rfl) (fun _ _ _ h => h) (by rfl) hS7 ?_ ?_
  rotate_left
  · (intro w' hSw; go_simp; (try with_reducible rfl))
  simp only [Act.put, List.getElem_toArray, List.getElem_cons_succ, List.getElem_cons_zero, List.setIfInBounds_toArray, List.set_cons_succ, List.set_cons_zero]
  refine Y_take (i := 15) (v := ?_) rfl (by kernel_rfl) (by kernel_rfl) (by kernel_rfl) (by kernel_rfl) (fun _ _ _ h => h) (by rfl) hS7 ?_ ?_
  rotate_left
  · (intro w' hSw; go_simp; (try with_reducible rfl))
  simp only [Act.put, List.getElem_toArray, List.getElem_cons_succ, List.getElem_cons_zero, List.setIfInBounds_toArray, List.set_cons_succ, List.set_cons_zero]
  refine Y_take (i := 16) (v := ?_) rfl (by kernel_rfl) (by kernel_rfl) (by kernel_rfl) (by kernel_rfl) (fun _ _ _ h => h) (by rfl) hS7 ?_ ?_
  rotate_left
  · (intro w' hSw; go_simp; (try with_reducible rfl))
  simp only [Act.put, List.getElem_toArray, List.getElem_cons_succ, List.getElem_cons_zero, List.setIfInBounds_toArray, List.set_cons_succ, List.set_cons_zero]
  refine Y_take (i := 17) (v := ?_) rfl (by kernel_rfl) (by kernel_rfl) (by kernel_rfl) (by kernel_rfl) (fun _ _ _ h => h) (by rfl) hS7 ?_ ?_
  rotate_left
  · (intro w' hSw; go_simp; (try with_reducible rfl))
  simp only [Act.put, List.getElem_toArray, List.getElem_cons_succ, List.getElem_cons_zero, List.setIfInBounds_toArray, List.set_cons_succ, List.set_cons_zero]
  refine Y_take (i := 18) (v := ?_) rfl (by kernel_rfl) (by kernel_rfl) (by kernel_rfl) (by kernel_rfl) (fun _ _ _ h => h) (by rfl) hS7 ?_ ?_
  rotate_left
  · (intro w' hSw; go_simp; (try with_reducible rfl))
  simp only [Act.put, List.getElem_toArray, List.getElem_cons_succ, List.getElem_cons_zero, List.setIfInBounds_toArray, List.set_cons_succ, List.set_cons_zero]
  refine Y_take (i := 19) (v := ?_) rfl (by kernel_rfl) (by kernel_rfl) (by kernel_rfl) (by kernel_rfl) (fun _ _ _ h => h) (by rfl) hS7 ?_ ?_
  rotate_left
  · (intro w' hSw; go_simp; (try with_reducible rfl))
  simp only [Act.put, List.getElem_toArray, List.getElem_cons_succ, List.getElem_cons_zero, List.setIfInBounds_toArray, List.set_cons_succ, List.set_cons_zero]
  refine Y_take (i := 20) (v := ?_) rfl (by kernel_rfl) (by kernel_rfl) (by kernel_rfl) (by kernel_rfl) (fun _ _ _ h => h) (by rfl) hS7 ?_ ?_
  rotate_left
  · (intro w' hSw; have e0 := cellB hSw.1 0 _ rfl; have e1 := cellB hSw.1 1 _ rfl; have e2 := cellB hSw.1 2 _ rfl; have e3 := cellB hSw.1 3 _ rfl; have e4 := cellB hSw.1 4 _ rfl; have e5 := cellB hSw.1 5 _ rfl; go_simp; (try with_reducible rfl))
  simp only [Act.put, List.getElem_toArray, List.getElem_cons_succ, List.getElem_cons_zero, List.setIfInBounds_toArray, List.set_cons_succ, List.set_cons_zero]
  refine Y_take (i := 22) (v := ?_) rfl (by kernel_rfl) (by kernel_rfl) (by kernel_rfl) (by kernel_rfl) (fun _ _ _ h => h) (by rfl) hS7 ?_ ?_
  rotate_left
  · (intro w' hSw; have e0 := cellB hSw.1 0 _ rfl; have e1 := cellB hSw.1 1 _ rfl; have e2 := cellB hSw.1 2 _ rfl; have e3 := cellB hSw.1 3 _ rfl; have e4 := cellB hSw.1 4 _ rfl; have e5 := cellB hSw.1 5 _ rfl; go_simp; (try with_reducible rfl))
  simp only [Act.put, List.getElem_toArray, List.getElem_cons_succ, List.getElem_cons_zero, List.setIfInBounds_toArray, List.set_cons_succ, List.set_cons_zero]
  refine Z_step (i := 21) (by kernel_rfl) rfl (fun K' hK => ?_)
  go_simp
  refine (HChk.out _ (HB6.out.trans (hb7.mono HB6.out.size))).mono ?_
  rintro e w8 ⟨rfl, hb8'⟩
  have hb8 := hb7.trans (hb8'.mono hb7.size)
  have hS8 := HS6.out _ hb8
  refine hK _ _ (fun _ => hS8) ?_
  clear hK K'
  refine Z_step (i := 23) (by kernel_rfl) rfl (fun K' hK => ?_)
  go_simp
  refine (HRef.out _).mono ?_
  rintro e w9 ⟨rfl, hb9'⟩
  have hb9 := hb8.trans (hb9'.mono hb8.size)
  have hS9 := HS6.out _ hb9
  refine hK _ _ (fun _ => hS9) ?_
  clear hK K'
  refine Z_step (i := 24) (by kernel_rfl) rfl (fun K' hK => ?_)
  go_simp
  refine (HRChk.out _ (HB6.out.trans (hb9.mono HB6.out.size))).mono ?_
  rintro e w10 ⟨rfl, hb10'⟩
  have hb10 := hb9.trans (hb10'.mono hb9.size)
  have hS10 := HS6.out _ hb10
  refine hK _ _ (fun _ => hS10) ?_
  clear hK K'
  refine Z_step (i := 25) (by kernel_rfl) rfl (fun K' hK => ?_)
  go_simp
  refine hK _ _ (fun _ => hS10) ?_
  clear hK K'
  refine Z_step (i := 26) (by kernel_rfl) rfl (fun K' hK => ?_)
  go_simp
  refine hK _ _ (fun _ => hS10) (Z_done (by kernel_rfl) ?_ _)
  clear hK K'
  have HB10 : Hid (Below w.heap.size w w10) := HB6.out.trans (hb10.mono HB6.out.size)
  have HI10 : Hid (Il w10 (.slice pa gs.length pc) (zi gs) ∧ Il w10 (.slice va9 g9.length vc9) g9) := ⟨HI6.out.1.next hb10, HI6.out.2.1.next hb10⟩
  have HS10 : Hid (∀ W, Below w10.heap.size w10 W → W.heap[B]? = some (.cells (cf num (.slice pa gs.length pc) a b c d) 25) ∧ W.heap[B9]? = some (.cells (cf n9 (.slice va9 g9.length vc9) p q r t) 25)) := fun W hW => by
    obtain ⟨j1, j2, _⟩ := HS6.out _ (hb10.trans (hW.mono hb10.size))
    exact ⟨j1, j2⟩
  clear hb7' hb8' hb9' hb10' hS0 hS7 hS8 hS9 hS10 hb7 hb8 hb9 hb10 hbD HSame HChk HRChk HRead HRRead HT HRT HS6 HS5 HI6 HI5 HI0 HS0
  have HGL : Hid (gs.length ≤ 4) := (conf_of HC.out.1).1
  obtain ⟨i0, hi, hz0, hz1, hz2⟩ := info_parts Tryz.info3
  have y1 := cellB (HS10.out _ (Below.refl _ w10)).1 1 _ rfl
  go_wp2_with fail
  go_loopg [13, 83] gs.length (fun gk u i wr => ∃ k : Nat, k + gk = gs.length ∧ i = .int .i64 k ∧ wr.ownsRow w10.heap.size 3 1 u k (zcs (zi ((gs.take k).map (cnt [a, b, c, d])))) ∧ Below w10.heap.size w10 wr)
  case atStart => exact ⟨0, by omega, rfl, World.ownsRow_nil _ _ _ _, Below.refl _ _⟩
  case round =>
    obtain ⟨k, hk, rfl, hown, hB⟩ := hrel
    obtain ⟨ua, uc, rfl⟩ := owns_slice hown
    by_cases hlt : k < gs.length
    · obtain ⟨x, hx⟩ : ∃ x, gs[k]? = some x := ⟨_, List.getElem?_eq_getElem hlt⟩
      have hil := HI10.out.1.next hB
      rw [← zi_len gs] at hil
      obtain ⟨b1, o1, hpa, _, q1⟩ := hil.at (zi_at gs k x hx)
      subst hpa
      have HT : Hid (zcs (zi ((gs.take (k + 1)).map (cnt [a, b, c, d]))) = zcs (zi ((gs.take k).map (cnt [a, b, c, d]))) ++ [.int .i64 (cnt [a, b, c, d] x : Nat)]) := by
        show _ = _
        rw [List.take_add_one, hx]
        simp [zi, zcs]
      obtain ⟨R, hR⟩ : ∃ R, zcs (zi ((gs.take k).map (cnt [a, b, c, d]))) = R := ⟨_, rfl⟩
      rw [hR] at hown HT
      have hLd := fun W => rLoad_any num (.slice (some ⟨b1, o1, none⟩) gs.length pc) ⟨_, _, _, rfl⟩ a b c d x W
      obtain ⟨y, hy⟩ : ∃ y, cnt [a, b, c, d] x = y := ⟨_, rfl⟩
      rw [hy] at HT hLd
      have KB : Hid (wr.rangeAt B 0 (cfL num (.slice (some ⟨b1, o1, none⟩) gs.length pc) a b c d)) := blk_range (L := cfL num (.slice (some ⟨b1, o1, none⟩) gs.length pc) a b c d) (HS10.out _ hB).1
      have k0 : (0 : Int) ≤ (k : Int) := by omega
      have k1 : (k : Int) < (gs.length : Int) := by omega
      have hml : k + 1 ≤ maxLen := by unfold maxLen; have := HGL.out; omega
      have hkb : (k + 1) * 8 ≤ 140737488355328 := by have := HGL.out; omega
      have HB : Hid (Below w10.heap.size w10 wr) := hB
      have HO : Hid (wr.ownsRow w10.heap.size 3 1 (.slice ua k uc) k R) := hown
      clear hx hR hy hB hown y1 hil
      go_wp2_with (first
        | (refine wpList_load_mid rfl 25 _ rfl B 0 rfl (cfL num (.slice (some ⟨b1, o1, none⟩) gs.length pc) a b c d) _ KB.out Tryz.underlying25 rfl Tryz.size25 ?_)
        | (go_at_call 9; refine (HRef.out _).mono ?_; rintro e w13 ⟨rfl, hb13⟩; have HB13 : Hid (Below wr.heap.size wr w13) := hb13; clear hb13)
        | (go_at_call 15; refine (hLd _).mono ?_; rintro e w14 ⟨rfl, hb14⟩; have hb14' := HB13.out.trans (hb14.mono HB13.out.size); have hown := own_kept HO.out hb14'; have hB := HB.out.trans (hb14'.mono HB.out.size); clear hb14 hb14')
        | (at_builtin; refine wpList_append_own _ rfl _ _ 22 rfl w10.heap.size 3 i0 (.int .i64 0) 1 8 Tryz.underlying22 hi hz0 hz1 hz2 rfl (by decide) (.slice ua k uc) k R rfl (hown.alloc _) _ 1 1 [.int .i64 y] rfl rfl (World.news_of_block (heap_alloc_new _ _)) (by simp [Value.oneCell']) hml hkb (by have := hB.size; simp; omega) ?_; intro v' w' g1 g2 _))
      have hB3 := (hB.alloc hB.size (.cells #[.int .i64 (y : Int)] 3)).grown g2 (by have := hB.size; simp; omega) (fun q hq => (hown.lt q hq).1)
      go_roundg (gs.length - (k + 1))
      case measure => omega
      case rel => exact ⟨k + 1, by omega, by go_num, by rw [HT.out]; exact g1, hB3⟩
    · have hkl : k = gs.length := by omega
      subst hkl
      have hLI : Il wr (.slice ua gs.length uc) (zi (gs.map (cnt [a, b, c, d]))) := by
        rw [List.take_length] at hown
        rw [show gs.length = (zi (gs.map (cnt [a, b, c, d]))).length by rw [zi_len, List.length_map]] at hown ⊢
        exact Il_owns hown
      have hbw := HB10.out.trans (hB.mono HB10.out.size)
      have hR := HReadA.out wr hbw
      have HLI : Hid (Il wr (.slice ua gs.length uc) (zi (gs.map (cnt [a, b, c, d])))) := hLI
      have HBr : Hid (Below w10.heap.size w10 wr) := hB
      have HBwr : Hid (Below w.heap.size w wr) := hbw
      clear hown hLI hB hbw y1 hi hz0 hz1 hz2
      go_upto_region 17 with (first
        | (go_at_call 10; refine hR.mono ?_; clear hR; rintro e w15 ⟨va16, vc16, rfl, i16, hb15⟩; have H15 : Hid (Il w15 (.slice va16 gs.length vc16) (zi gs) ∧ Below wr.heap.size wr w15) := ⟨i16, hb15⟩; clear i16 hb15))
      obtain ⟨i16, hb15⟩ := H15.out
      have hbN := hb15.alloc hb15.size (.cells (cf num (.slice va16 gs.length vc16) a b c d) 25)
      have hbT := HBr.out.trans (hbN.mono HBr.out.size)
      have r16 := heap_alloc_new w15 (.cells (cf num (.slice va16 gs.length vc16) a b c d) 25)
      have i16' := i16.next ((Below.refl _ w15).alloc (Nat.le_refl _) (.cells (cf num (.slice va16 gs.length vc16) a b c d) 25))
      have hs16 : w15.heap.size < (w15.alloc (.cells (cf num (.slice va16 gs.length vc16) a b c d) 25)).heap.size := by simp
      obtain ⟨W16, hW16⟩ : ∃ W, w15.alloc (.cells (cf num (.slice va16 gs.length vc16) a b c d) 25) = W := ⟨_, rfl⟩
      obtain ⟨B16, hB16⟩ : ∃ B, w15.heap.size = B := ⟨_, rfl⟩
      rw [hW16] at hbN hbT r16 i16' hs16 ⊢
      rw [hB16] at r16 hs16 ⊢
      have HS16 : Hid (∀ W, Below W16.heap.size W16 W → W.heap[B]? = some (.cells (cf num (.slice pa gs.length pc) a b c d) 25) ∧ W.heap[B16]? = some (.cells (cf num (.slice va16 gs.length vc16) a b c d) 25)) := fun W hW => ⟨(HS10.out _ (hbT.trans (hW.mono hbT.size))).1, (hW.block _ hs16).trans r16⟩
      have HSm16 : Hid (∀ W, Below W16.heap.size W16 W → Calls Tryz.prog 12 #[.agg (cf num (.slice va16 gs.length vc16) a b c d), .agg (cf num (.slice pa gs.length pc) a b c d)] W fun e W' => e = .returned (.bool true) ∧ Below W.heap.size W W') := fun W hW => same_any num (zi gs) _ _ a b c d W (i16'.next hW) (HI10.out.1.next (hbT.trans (hW.mono hbT.size))) (by rw [zi_len]; have := HGL.out; omega)
      have HN16 : Hid (Below wr.heap.size wr W16 ∧ Below w10.heap.size w10 W16) := ⟨hbN, hbT⟩
      clear hbN hbT r16 i16' hs16 hW16 hB16 i16 hb15 H15
      refine region_Z 99 (fun w' => w'.heap[B]? = some (.cells (cf num (.slice pa gs.length pc) a b c d) 25) ∧ w'.heap[B16]? = some (.cells (cf num (.slice va16 gs.length vc16) a b c d) 25)) (by kernel_rfl) ?_
      have hbD : Below W16.heap.size W16 W16.drew := below_drew (Below.refl _ _)
      have hS0 := HS16.out _ hbD
      refine Y_take (i := 0) (v := ?_) rfl (by kernel_rfl) (by kernel_rfl) (by kernel_rfl) (by kernel_rfl) (fun _ _ _ h => h) (by rfl) hS0 ?_ ?_
      rotate_left
      · (intro w' hSw; go_simp; (try with_reducible rfl))
      simp only [Act.put, List.getElem_toArray, List.getElem_cons_zero, List.setIfInBounds_toArray, List.set_cons_succ, List.set_cons_zero]
      refine Y_take (i := 1) (v := ?_) rfl (by kernel_rfl) (by kernel_rfl) (by kernel_rfl) (by kernel_rfl) (fun _ _ _ h => h) (by rfl) hS0 ?_ ?_
      rotate_left
      · (intro w' hSw; go_simp; (try with_reducible rfl))
      simp only [Act.put, List.getElem_toArray, List.getElem_cons_succ, List.getElem_cons_zero, List.setIfInBounds_toArray, List.set_cons_succ, List.set_cons_zero]
      refine Y_take (i := 2) (v := ?_) rfl (by kernel_rfl) (by kernel_rfl) (by kernel_rfl) (by kernel_rfl) (fun _ _ _ h => h) (by rfl) hS0 ?_ ?_
      rotate_left
      · (intro w' hSw; go_simp; (try with_reducible rfl))
      simp only [Act.put, List.getElem_toArray, List.getElem_cons_succ, List.getElem_cons_zero, List.setIfInBounds_toArray, List.set_cons_succ, List.set_cons_zero]
      refine Y_take (i := 3) (v := ?_) rfl (by kernel_rfl) (by kernel_rfl) (by kernel_rfl) (by kernel_rfl) (fun _ _ _ h => h) (by rfl) hS0 ?_ ?_
      rotate_left
      · (intro w' hSw; have e0 := cellB hSw.2 0 _ rfl; have e1 := cellB hSw.2 1 _ rfl; have e2 := cellB hSw.2 2 _ rfl; have e3 := cellB hSw.2 3 _ rfl; have e4 := cellB hSw.2 4 _ rfl; have e5 := cellB hSw.2 5 _ rfl; go_simp; (try with_reducible rfl))
      simp only [Act.put, List.getElem_toArray, List.getElem_cons_succ, List.getElem_cons_zero, List.setIfInBounds_toArray, List.set_cons_succ, List.set_cons_zero]
      refine Y_take (i := 4) (v := ?_) rfl (by kernel_rfl) (by kernel_rfl) (by kernel_rfl) (by kernel_rfl) (fun _ _ _ h => h) (by rfl) hS0 ?_ ?_
      rotate_left
      · (intro w' hSw; have e0 := cellB hSw.1 0 _ rfl; have e1 := cellB hSw.1 1 _ rfl; have e2 := cellB hSw.1 2 _ rfl; have e3 := cellB hSw.1 3 _ rfl; have e4 := cellB hSw.1 4 _ rfl; have e5 := cellB hSw.1 5 _ rfl; go_simp; (try with_reducible rfl))
      simp only [Act.put, List.getElem_toArray, List.getElem_cons_succ, List.getElem_cons_zero, List.setIfInBounds_toArray, List.set_cons_succ, List.set_cons_zero]
      refine Z_step (i := 5) (by kernel_rfl) rfl (fun K' hK => ?_)
      go_simp
      refine (HRef.out _).mono ?_
      rintro e w17 ⟨rfl, hb17'⟩
      have hb17 := hbD.trans (hb17'.mono hbD.size)
      have hS17 := HS16.out _ hb17
      refine hK _ _ (fun _ => hS17) ?_
      clear hK K'
      refine Z_step (i := 6) (by kernel_rfl) rfl (fun K' hK => ?_)
      go_simp
      refine (HSm16.out _ hb17).mono ?_
      rintro e w18 ⟨rfl, hb18'⟩
      have hb18 := hb17.trans (hb18'.mono hb17.size)
      have hS18 := HS16.out _ hb18
      refine hK _ _ (fun _ => hS18) ?_
      clear hK K'
      refine Z_step (i := 7) (by kernel_rfl) rfl (fun K' hK => ?_)
      go_simp
      refine hK _ _ (fun _ => hS18) ?_
      clear hK K'
      refine Z_step (i := 8) (by kernel_rfl) rfl (fun K' hK => ?_)
      go_simp
      refine hK _ _ (fun _ => hS18) (Z_done (by kernel_rfl) ?_ _)
      clear hK K'
      have HbT : Hid (Below w10.heap.size w10 w18) := HN16.out.2.trans (hb18.mono HN16.out.2.size)
      have HLT : Hid (Il w18 (.slice ua gs.length uc) (zi (gs.map (cnt [a, b, c, d])))) := HLI.out.next (HN16.out.1.trans (hb18.mono HN16.out.1.size))
      have HBT : Hid (Below w.heap.size w w18) := HB10.out.trans (HbT.out.mono HB10.out.size)
      have HIT : Hid (Il w18 (.slice pa gs.length pc) (zi gs) ∧ Il w18 (.slice va9 g9.length vc9) g9) := ⟨HI10.out.1.next HbT.out, HI10.out.2.next HbT.out⟩
      have HST : Hid (∀ W, Below w18.heap.size w18 W → W.heap[B]? = some (.cells (cf num (.slice pa gs.length pc) a b c d) 25) ∧ W.heap[B9]? = some (.cells (cf n9 (.slice va9 g9.length vc9) p q r t) 25)) := fun W hW => HS10.out W (HbT.out.trans (hW.mono HbT.out.size))
      clear hb17' hb18' hS0 hS17 hS18 hb17 hb18 hbD HS16 HSm16
      rcases HGE.out with rfl | rfl
      · have HT9 := HTX.out rfl
        have KR9 : Hid (w18.rangeAt B9 0 (cfL n9 (.slice va9 g9.length vc9) p q r t)) := blk_range (L := (cfL n9 (.slice va9 g9.length vc9) p q r t)) (HST.out _ (Below.refl _ _)).2
        go_upto_region 21 with (first
          | (refine wpList_load_mid rfl 25 _ rfl B9 0 rfl (cfL n9 (.slice va9 g9.length vc9) p q r t) _ KR9.out Tryz.underlying25 rfl Tryz.size25 ?_)
          | (go_at_call 7; refine (HT9 w18 HBT.out HIT.out.2).mono ?_; rintro e w20 ⟨rfl, hb20⟩; have HB20 : Hid (Below w18.heap.size w18 w20) := hb20; clear hb20))
        have HBW20 : Hid (Below w.heap.size w w20) := HBT.out.trans (HB20.out.mono HBT.out.size)
        have HK2 : Hid (w20.rangeAt B 0 (cfL num (.slice pa gs.length pc) a b c d)) := blk_range (L := (cfL num (.slice pa gs.length pc) a b c d)) (HST.out _ HB20.out).1
        have HL20 : Hid (Il w20 (.slice ua gs.length uc) (zi (gs.map (cnt [a, b, c, d])))) := HLT.out.next HB20.out
        clear HT9 KR9
        go_wp2_with (first
            | (refine wpList_load_mid rfl 25 _ rfl B 0 rfl (cfL num (.slice pa gs.length pc) a b c d) _ HK2.out Tryz.underlying25 rfl Tryz.size25 ?_)
            | (go_at_call 17; refine (HLO.out w20 HBW20.out).mono ?_; rintro e w21 ⟨lw, rfl, i21, hb21⟩; have hB21 := (HBW20.out).trans (hb21.mono (HBW20.out).size); have hL21 := (HL20.out).next hb21; have HI21 : Hid (Il w21 lw (zi (gs.map (cnt [a, b, c, d])))) := i21; obtain ⟨xa, xc, rfl⟩ := i21.slice; clear hb21 i21)
            | (go_at_call 16; refine (Ints_any (zi (gs.map (cnt [a, b, c, d]))) _ _ _ HI21.out hL21 HLL.out).mono ?_; rintro e w22 ⟨rfl, hb22⟩; have hB22 := hB21.trans (hb22.mono hB21.size); clear hb22 hL21)
            | (go_at_call 6; refine (three_any _).mono ?_; rintro e w23 ⟨rfl, hb23⟩; have hB23 := hB22.trans (hb23.mono hB22.size); clear hb23))
        go_ret
        exact ⟨rfl, hB23⟩
      · have HK2 : Hid (w18.rangeAt B 0 (cfL num (.slice pa gs.length pc) a b c d)) := blk_range (L := (cfL num (.slice pa gs.length pc) a b c d)) (HST.out _ (Below.refl _ _)).1
        go_wp2_with (first
            | (refine wpList_load_mid rfl 25 _ rfl B 0 rfl (cfL num (.slice pa gs.length pc) a b c d) _ HK2.out Tryz.underlying25 rfl Tryz.size25 ?_)
            | (go_at_call 17; refine (HLO.out w18 HBT.out).mono ?_; rintro e w21 ⟨lw, rfl, i21, hb21⟩; have hB21 := (HBT.out).trans (hb21.mono (HBT.out).size); have hL21 := (HLT.out).next hb21; have HI21 : Hid (Il w21 lw (zi (gs.map (cnt [a, b, c, d])))) := i21; obtain ⟨xa, xc, rfl⟩ := i21.slice; clear hb21 i21)
            | (go_at_call 16; refine (Ints_any (zi (gs.map (cnt [a, b, c, d]))) _ _ _ HI21.out hL21 HLL.out).mono ?_; rintro e w22 ⟨rfl, hb22⟩; have hB22 := hB21.trans (hb22.mono hB21.size); clear hb22 hL21)
            | (go_at_call 6; refine (three_any _).mono ?_; rintro e w23 ⟨rfl, hb23⟩; have hB23 := hB22.trans (hb23.mono hB22.size); clear hb23))
        go_ret
        exact ⟨rfl, hB23⟩
set_option maxRecDepth 20000 in
set_option maxHeartbeats 8000000 in
theorem texts_bad2 (num : Int) (pa : Option Addr) (pc : Nat) (ns : List Int) (a b c d : Int) (hok : okC num ns [a, b, c, d] = false) (s : List UInt8) (w : World) (hu : Il w (.slice pa ns.length pc) ns) (hl : ns.length ≤ 100) (hs : s.length ≤ 10000) (he : Env w) :
    Calls Tryz.prog 3 #[.agg (cf num (.slice pa ns.length pc) a b c d), .string (bs s)] w fun e W' => e = .returned (.bool true) ∧ Below w.heap.size w W' := by
  have hss : (bs s).size = s.length := bs_size s
  have hP : EnvP w := ⟨he.pow, he.size⟩
  obtain ⟨A, hA⟩ : ∃ A, ([] : List UInt8) = A := ⟨_, rfl⟩
  have HT : Hid (∀ W, Below w.heap.size w W → Calls Tryz.prog 7 #[.agg (cf num (.slice pa ns.length pc) a b c d)] W fun e W' => e = .returned (.tuple #[.string (bs A), .int .i64 4]) ∧ Below W.heap.size W W') := fun W hW => by
    have := cText_any num (.slice pa ns.length pc) ns a b c d W (hu.next hW) (by omega) (hP.next hW)
    rw [hok, if_neg (by decide), if_neg (by decide)] at this
    rw [hA] at this
    exact this
  have HRT : Hid (∀ W, Below w.heap.size w W → Calls Tryz.prog 8 #[.agg (cf num (.slice pa ns.length pc) a b c d)] W fun e W' => e = .returned (.tuple #[.string (bs A), .int .i64 4]) ∧ Below W.heap.size W W') := fun W hW => by
    have := rText_any num (.slice pa ns.length pc) ns a b c d W (hu.next hW) (by omega)
    rw [hok, if_neg (by decide), if_neg (by decide)] at this
    rw [hA] at this
    exact this
  have HRef : Hid (∀ W, Calls Tryz.prog 9 #[.agg (cf num (.slice pa ns.length pc) a b c d)] W fun e W' => e = .returned (.agg (cf num (.slice pa ns.length pc) a b c d)) ∧ Below W.heap.size W W') := fun W => cref_any num (.slice pa ns.length pc) ⟨_, _, _, rfl⟩ a b c d W
  have HChk : Hid (∀ W, Below w.heap.size w W → Calls Tryz.prog 13 #[.agg (cf num (.slice pa ns.length pc) a b c d)] W fun e W' => e = .returned (.int .i64 4) ∧ Below W.heap.size W W') := fun W hW => by
    have := Check_wide num (.slice pa ns.length pc) ns a b c d W (hu.next hW) (by omega)
    rw [hok, if_neg (by decide)] at this
    exact this
  have HRChk : Hid (∀ W, Below w.heap.size w W → Calls Tryz.prog 14 #[.agg (cf num (.slice pa ns.length pc) a b c d)] W fun e W' => e = .returned (.int .i64 4) ∧ Below W.heap.size W W') := fun W hW => by
    have := rCheck_any num (.slice pa ns.length pc) ns a b c d W (hu.next hW) (by omega)
    rw [hok, if_neg (by decide)] at this
    exact this
  have HLL : Hid (([] : List Int).length ≤ 1000) := by show _ ≤ _; decide
  have HLO : Hid (∀ W, Below w.heap.size w W → Calls Tryz.prog 17 #[.agg (cf num (.slice pa ns.length pc) a b c d)] W fun e W' => ∃ v, e = .returned v ∧ Il W' v [] ∧ Below W.heap.size W W') := fun W hW => (Loads_bad num (.slice pa ns.length pc) ns a b c d W (fun W' hW' => HChk.out W' (hW.trans (hW'.mono hW.size))) ⟨_, _, rfl⟩).mono (fun e W' h => ⟨_, h.1, .inl ⟨rfl, none, 0, rfl⟩, h.2⟩)
  obtain ⟨n9, g9, p, q, r, t, hV⟩ := rdV_form s
  obtain ⟨G, hG⟩ : ∃ G, rdE s = G := ⟨_, rfl⟩
  have HGE : Hid (G = 0 ∨ G = 4) := by show _ ∨ _; rw [← hG]; exact rdE_cases s
  have HRead : Hid (∀ W, Below w.heap.size w W → Calls Tryz.prog 10 #[.string (bs s)] W fun e W' => ∃ va vc, e = .returned (.tuple #[.agg (cf n9 (.slice va g9.length vc) p q r t), .int .i64 G]) ∧ Il W' (.slice va g9.length vc) g9 ∧ Below W.heap.size W W') := fun W hW => by
    refine (cRead_any s W (by omega) (he.next hW)).mono ?_
    rintro e W' ⟨x, E, rfl, hp, hb⟩
    obtain ⟨va, vc, rfl, rfl, h3⟩ := rd_of hp hV
    exact ⟨va, vc, by rw [hG], h3, hb⟩
  have HRRead : Hid (∀ W, Calls Tryz.prog 11 #[.string (bs s)] W fun e W' => ∃ va vc, e = .returned (.tuple #[.agg (cf n9 (.slice va g9.length vc) p q r t), .int .i64 G]) ∧ Il W' (.slice va g9.length vc) g9 ∧ Below W.heap.size W W') := fun W => by
    refine (rRead_any s W (by omega)).mono ?_
    rintro e W' ⟨x, E, rfl, hp, hb⟩
    obtain ⟨va, vc, rfl, rfl, h3⟩ := rd_of hp hV
    exact ⟨va, vc, by rw [hG], h3, hb⟩
  have HG9 : Hid (g9.length ≤ 1000) := rdV_len hV
  have HTX : Hid (G = 0 → ∀ W, Below w.heap.size w W → ∀ {va : Option Addr} {vc : Nat}, Il W (.slice va g9.length vc) g9 → Calls Tryz.prog 7 #[.agg (cf n9 (.slice va g9.length vc) p q r t)] W fun e W' => e = .returned (.tuple #[.string (bs s), .int .i64 0]) ∧ Below W.heap.size W W') := fun h W hW va vc hi => by
    obtain ⟨k1, k2⟩ := rd_text hV (hG.trans h)
    have := cText_any n9 (.slice va g9.length vc) g9 p q r t W hi (by have := HG9.out; omega) (hP.next hW)
    rw [k1, if_pos rfl, if_pos rfl, k2] at this
    exact this
  have hb0 : Below w.heap.size w (w.alloc (.cells (cf num (.slice pa ns.length pc) a b c d) 25)) := (Below.refl _ w).alloc (Nat.le_refl _) _
  have r0 := heap_alloc_new w (.cells (cf num (.slice pa ns.length pc) a b c d) 25)
  obtain ⟨W0, hW0⟩ : ∃ W, w.alloc (.cells (cf num (.slice pa ns.length pc) a b c d) 25) = W := ⟨_, rfl⟩
  obtain ⟨B, hB⟩ : ∃ B, w.heap.size = B := ⟨_, rfl⟩
  have hsz : B < W0.heap.size := by rw [← hW0, ← hB]; simp
  rw [hW0] at hb0 r0
  rw [hB] at r0
  have HV : Hid (w.alloc (.cells (cf num (.slice pa ns.length pc) a b c d) 25) = W0) := hW0
  have HVB : Hid (w.heap.size = B) := hB
  have HB0 : Hid (Below w.heap.size w W0) := hb0
  have HS0 : Hid (∀ W, Below W0.heap.size W0 W → W.heap[B]? = some (.cells (cf num (.slice pa ns.length pc) a b c d) 25)) := fun W hW => (hW.block _ hsz).trans r0
  have K0 : Hid (W0.rangeAt B 0 (cfL num (.slice pa ns.length pc) a b c d)) := blk_range (L := (cfL num (.slice pa ns.length pc) a b c d)) r0
  have x1 := cellB r0 1 _ rfl
  have HI0 : Hid (Il W0 (.slice pa ns.length pc) ns) := hu.next hb0
  have hq1 : ¬ (100 : Int) < (ns.length : Int) := by omega
  have hq2 : ¬ (10000 : Int) < (s.length : Int) := by omega
  clear hW0 hB r0 hb0 hsz hu hs he hP hV hG hA hok hl
  go_enter Tryz.func3, Tryz.ntmps3
  go_upto_region 1 with fail
  rw [HV.out, HVB.out]
  clear HV
  go_upto_region 4 with (first
    | (refine wpList_load_mid rfl 25 _ rfl B 0 rfl (cfL num (.slice pa ns.length pc) a b c d) _ K0.out Tryz.underlying25 rfl Tryz.size25 ?_)
    | (go_at_call 7; refine (HT.out W0 HB0.out).mono ?_; rintro e w1 ⟨rfl, hb1⟩; have H1 : Hid (Below W0.heap.size W0 w1) := hb1; clear hb1))
  clear x1 hq1 hq2
  have HB1 : Hid (Below w.heap.size w w1) := HB0.out.trans (H1.out.mono HB0.out.size)
  have K1 : Hid (w1.rangeAt B 0 (cfL num (.slice pa ns.length pc) a b c d)) := blk_range (L := (cfL num (.slice pa ns.length pc) a b c d)) (HS0.out _ H1.out)
  go_upto_region 5 with (first
    | (refine wpList_load_mid rfl 25 _ rfl B 0 rfl (cfL num (.slice pa ns.length pc) a b c d) _ K1.out Tryz.underlying25 rfl Tryz.size25 ?_)
    | (go_at_call 9; refine (HRef.out _).mono ?_; rintro e w2 ⟨rfl, hb2⟩; have HB2 : Hid (Below w.heap.size w w2) := HB1.out.trans (hb2.mono HB1.out.size); have H2 : Hid (Below W0.heap.size W0 w2) := H1.out.trans (hb2.mono H1.out.size); clear hb2)
    | (go_at_call 8; refine (HRT.out _ HB2.out).mono ?_; rintro e w3 ⟨rfl, hb3⟩; have HB3 : Hid (Below w.heap.size w w3) := HB2.out.trans (hb3.mono HB2.out.size); have H3 : Hid (Below W0.heap.size W0 w3) := H2.out.trans (hb3.mono H2.out.size); clear hb3))
  clear K0 K1
  go_upto_region 6 with (first
    | (go_at_call 10; refine (HRead.out _ HB3.out).mono ?_; rintro e w4 ⟨va9, vc9, rfl, i9, hb4⟩; have HB4 : Hid (Below w.heap.size w w4) := HB3.out.trans (hb4.mono HB3.out.size); have H4 : Hid (Below W0.heap.size W0 w4) := H3.out.trans (hb4.mono H3.out.size); have HI9 : Hid (Il w4 (.slice va9 g9.length vc9) g9) := i9; clear hb4 i9))
  have hb5 := H4.out.alloc H4.out.size (.cells (cf n9 (.slice va9 g9.length vc9) p q r t) 25)
  have hbw5 := HB4.out.alloc HB4.out.size (.cells (cf n9 (.slice va9 g9.length vc9) p q r t) 25)
  have r9 := heap_alloc_new w4 (.cells (cf n9 (.slice va9 g9.length vc9) p q r t) 25)
  have i9 := HI9.out.next ((Below.refl _ w4).alloc (Nat.le_refl _) (.cells (cf n9 (.slice va9 g9.length vc9) p q r t) 25))
  have hs9 : w4.heap.size < (w4.alloc (.cells (cf n9 (.slice va9 g9.length vc9) p q r t) 25)).heap.size := by simp
  obtain ⟨W4, hW4⟩ : ∃ W, w4.alloc (.cells (cf n9 (.slice va9 g9.length vc9) p q r t) 25) = W := ⟨_, rfl⟩
  obtain ⟨B9, hB9⟩ : ∃ B, w4.heap.size = B := ⟨_, rfl⟩
  rw [hW4] at hb5 hbw5 r9 i9 hs9 ⊢
  rw [hB9] at r9 hs9 ⊢
  have HB5 : Hid (Below w.heap.size w W4) := hbw5
  have HS5 : Hid (∀ W, Below W4.heap.size W4 W → W.heap[B]? = some (.cells (cf num (.slice pa ns.length pc) a b c d) 25) ∧ W.heap[B9]? = some (.cells (cf n9 (.slice va9 g9.length vc9) p q r t) 25)) := fun W hW => ⟨HS0.out _ (hb5.trans (hW.mono hb5.size)), (hW.block _ hs9).trans r9⟩
  have HI5 : Hid (Il W4 (.slice pa ns.length pc) ns ∧ Il W4 (.slice va9 g9.length vc9) g9) := ⟨HI0.out.next hb5, i9⟩
  clear hb5 hbw5 r9 i9 hs9 hW4 hB9 HI9
  go_upto_region 7 with (first
    | (go_at_call 11; refine (HRRead.out _).mono ?_; rintro e w5 ⟨va11, vc11, rfl, i11, hb5⟩; have H5 : Hid (Below W4.heap.size W4 w5) := hb5; have HI11 : Hid (Il w5 (.slice va11 g9.length vc11) g9) := i11; clear hb5 i11))
  have hb6 := H5.out.alloc H5.out.size (.cells (cf n9 (.slice va11 g9.length vc11) p q r t) 32)
  have r11 := heap_alloc_new w5 (.cells (cf n9 (.slice va11 g9.length vc11) p q r t) 32)
  have i11 := HI11.out.next ((Below.refl _ w5).alloc (Nat.le_refl _) (.cells (cf n9 (.slice va11 g9.length vc11) p q r t) 32))
  have hs11 : w5.heap.size < (w5.alloc (.cells (cf n9 (.slice va11 g9.length vc11) p q r t) 32)).heap.size := by simp
  obtain ⟨W6, hW6⟩ : ∃ W, w5.alloc (.cells (cf n9 (.slice va11 g9.length vc11) p q r t) 32) = W := ⟨_, rfl⟩
  obtain ⟨B11, hB11⟩ : ∃ B, w5.heap.size = B := ⟨_, rfl⟩
  rw [hW6] at hb6 r11 i11 hs11 ⊢
  rw [hB11] at r11 hs11 ⊢
  have HB6 : Hid (Below w.heap.size w W6) := HB5.out.trans (hb6.mono HB5.out.size)
  have HS6 : Hid (∀ W, Below W6.heap.size W6 W → W.heap[B]? = some (.cells (cf num (.slice pa ns.length pc) a b c d) 25) ∧ W.heap[B9]? = some (.cells (cf n9 (.slice va9 g9.length vc9) p q r t) 25) ∧ W.heap[B11]? = some (.cells (cf n9 (.slice va11 g9.length vc11) p q r t) 32)) := fun W hW => by
    obtain ⟨j1, j2⟩ := HS5.out _ (hb6.trans (hW.mono hb6.size))
    exact ⟨j1, j2, (hW.block _ hs11).trans r11⟩
  have HI6 : Hid (Il W6 (.slice pa ns.length pc) ns ∧ Il W6 (.slice va9 g9.length vc9) g9 ∧ Il W6 (.slice va11 g9.length vc11) g9) := ⟨HI5.out.1.next hb6, HI5.out.2.next hb6, i11⟩
  have HSame : Hid (∀ W, Below W6.heap.size W6 W → Calls Tryz.prog 12 #[.agg (cf n9 (.slice va9 g9.length vc9) p q r t), .agg (cf n9 (.slice va11 g9.length vc11) p q r t)] W fun e W' => e = .returned (.bool true) ∧ Below W.heap.size W W') := fun W hW => same_any n9 g9 _ _ p q r t W (HI6.out.2.1.next hW) (HI6.out.2.2.next hW) HG9.out
  clear hb6 r11 i11 hs11 hW6 hB11 HI11 H1 H2 H3 H4 H5
  refine region_Z 99 (fun w' => w'.heap[B]? = some (.cells (cf num (.slice pa ns.length pc) a b c d) 25) ∧ w'.heap[B9]? = some (.cells (cf n9 (.slice va9 g9.length vc9) p q r t) 25) ∧ w'.heap[B11]? = some (.cells (cf n9 (.slice va11 g9.length vc11) p q r t) 32)) (by kernel_rfl) ?_
  have hbD : Below W6.heap.size W6 W6.drew := below_drew (Below.refl _ _)
  have hS0 := HS6.out _ hbD
  refine Y_take (i := 0) (v := ?_) rfl (by kernel_rfl) (by kernel_rfl) (by kernel_rfl) (by kernel_rfl) (fun _ _ _ h => h) (by rfl) hS0 ?_ ?_
  rotate_left
  · (intro w' hSw; go_simp; (try with_reducible rfl))
  simp only [Act.put, List.getElem_toArray, List.getElem_cons_zero, List.setIfInBounds_toArray, List.set_cons_succ, List.set_cons_zero]
  refine Y_take (i := 1) (v := ?_) rfl (by kernel_rfl) (by kernel_rfl) (by kernel_rfl) (by kernel_rfl) (fun _ _ _ h => h) (by rfl) hS0 ?_ ?_
  rotate_left
  · (intro w' hSw; go_simp; (try with_reducible rfl))
  simp only [Act.put, List.getElem_toArray, List.getElem_cons_succ, List.getElem_cons_zero, List.setIfInBounds_toArray, List.set_cons_succ, List.set_cons_zero]
  refine Y_take (i := 2) (v := ?_) rfl (by kernel_rfl) (by kernel_rfl) (by kernel_rfl) (by kernel_rfl) (fun _ _ _ h => h) (by rfl) hS0 ?_ ?_
  rotate_left
  · (intro w' hSw; go_simp; (try with_reducible rfl))
  simp only [Act.put, List.getElem_toArray, List.getElem_cons_succ, List.getElem_cons_zero, List.setIfInBounds_toArray, List.set_cons_succ, List.set_cons_zero]
  refine Y_take (i := 3) (v := ?_) rfl (by kernel_rfl) (by kernel_rfl) (by kernel_rfl) (by kernel_rfl) (fun _ _ _ h => h) (by rfl) hS0 ?_ ?_
  rotate_left
  · (intro w' hSw; go_simp; (try with_reducible rfl))
  simp only [Act.put, List.getElem_toArray, List.getElem_cons_succ, List.getElem_cons_zero, List.setIfInBounds_toArray, List.set_cons_succ, List.set_cons_zero]
  refine Y_take (i := 4) (v := ?_) rfl (by kernel_rfl) (by kernel_rfl) (by kernel_rfl) (by kernel_rfl) (fun _ _ _ h => h) (by rfl) hS0 ?_ ?_
  rotate_left
  · (intro w' hSw; go_simp; (try with_reducible rfl))
  simp only [Act.put, List.getElem_toArray, List.getElem_cons_succ, List.getElem_cons_zero, List.setIfInBounds_toArray, List.set_cons_succ, List.set_cons_zero]
  refine Y_take (i := 5) (v := ?_) rfl (by kernel_rfl) (by kernel_rfl) (by kernel_rfl) (by kernel_rfl) (fun _ _ _ h => h) (by rfl) hS0 ?_ ?_
  rotate_left
  · (intro w' hSw; go_simp; (try with_reducible rfl))
  simp only [Act.put, List.getElem_toArray, List.getElem_cons_succ, List.getElem_cons_zero, List.setIfInBounds_toArray, List.set_cons_succ, List.set_cons_zero]
  refine Y_take (i := 6) (v := ?_) rfl (by kernel_rfl) (by kernel_rfl) (by kernel_rfl) (by kernel_rfl) (fun _ _ _ h => h) (by rfl) hS0 ?_ ?_
  rotate_left
  · (intro w' hSw; go_simp; (try with_reducible rfl))
  simp only [Act.put, List.getElem_toArray, List.getElem_cons_succ, List.getElem_cons_zero, List.setIfInBounds_toArray, List.set_cons_succ, List.set_cons_zero]
  refine Y_take (i := 7) (v := ?_) rfl (by kernel_rfl) (by kernel_rfl) (by kernel_rfl) (by kernel_rfl) (fun _ _ _ h => h) (by rfl) hS0 ?_ ?_
  rotate_left
  · (intro w' hSw; go_simp; (try with_reducible rfl))
  simp only [Act.put, List.getElem_toArray, List.getElem_cons_succ, List.getElem_cons_zero, List.setIfInBounds_toArray, List.set_cons_succ, List.set_cons_zero]
  refine Y_take (i := 8) (v := ?_) rfl (by kernel_rfl) (by kernel_rfl) (by kernel_rfl) (by kernel_rfl) (fun _ _ _ h => h) (by rfl) hS0 ?_ ?_
  rotate_left
  · (intro w' hSw; go_simp; (try with_reducible rfl))
  simp only [Act.put, List.getElem_toArray, List.getElem_cons_succ, List.getElem_cons_zero, List.setIfInBounds_toArray, List.set_cons_succ, List.set_cons_zero]
  refine Y_take (i := 9) (v := ?_) rfl (by kernel_rfl) (by kernel_rfl) (by kernel_rfl) (by kernel_rfl) (fun _ _ _ h => h) (by rfl) hS0 ?_ ?_
  rotate_left
  · (intro w' hSw; have e0 := cellB hSw.2.1 0 _ rfl; have e1 := cellB hSw.2.1 1 _ rfl; have e2 := cellB hSw.2.1 2 _ rfl; have e3 := cellB hSw.2.1 3 _ rfl; have e4 := cellB hSw.2.1 4 _ rfl; have e5 := cellB hSw.2.1 5 _ rfl; go_simp; (try with_reducible rfl))
  simp only [Act.put, List.getElem_toArray, List.getElem_cons_succ, List.getElem_cons_zero, List.setIfInBounds_toArray, List.set_cons_succ, List.set_cons_zero]
  refine Y_take (i := 10) (v := ?_) rfl (by kernel_rfl) (by kernel_rfl) (by kernel_rfl) (by kernel_rfl) (fun _ _ _ h => h) (by rfl) hS0 ?_ ?_
  rotate_left
  · (intro w' hSw; have e0 := cellB hSw.2.2 0 _ rfl; have e1 := cellB hSw.2.2 1 _ rfl; have e2 := cellB hSw.2.2 2 _ rfl; have e3 := cellB hSw.2.2 3 _ rfl; have e4 := cellB hSw.2.2 4 _ rfl; have e5 := cellB hSw.2.2 5 _ rfl; go_simp; (try with_reducible rfl))
  simp only [Act.put, List.getElem_toArray, List.getElem_cons_succ, List.getElem_cons_zero, List.setIfInBounds_toArray, List.set_cons_succ, List.set_cons_zero]
  refine Z_step (i := 11) (by kernel_rfl) rfl (fun K' hK => ?_)
  go_simp
  refine (HSame.out _ hbD).mono ?_
  rintro e w7 ⟨rfl, hb7'⟩
  have hb7 := hbD.trans (hb7'.mono hbD.size)
  have hS7 := HS6.out _ hb7
  refine hK _ _ (fun _ => hS7) ?_
  clear hK K'
  refine Y_take (i := 12) (v := ?_) rfl (by kernel_rfl) (by kernel_rfl) (by kernel_rfl) (by kernel_rfl) (fun _ _ _ h => h) (by rfl) hS7 ?_ ?_
  rotate_left
  · (intro w' hSw; go_simp; (try with_reducible rfl))
  simp only [Act.put, List.getElem_toArray, List.getElem_cons_succ, List.getElem_cons_zero, List.setIfInBounds_toArray, List.set_cons_succ, List.set_cons_zero]
  refine Y_take (i := 13) (v := ?_) rfl (by kernel_rfl) (by kernel_rfl) (by kernel_rfl) (by kernel_rfl) (fun _ _ _ h => h) (by rfl) hS7 ?_ ?_
  rotate_left
  · (intro w' hSw; go_simp; (try with_reducible rfl))
  simp only [Act.put, List.getElem_toArray, List.getElem_cons_succ, List.getElem_cons_zero, List.setIfInBounds_toArray, List.set_cons_succ, List.set_cons_zero]
  refine Y_take (i := 14) (v := ?_) rfl (by kernel_rfl) (by kernel_rfl) (by kernel_rfl) (by kernel_rfl) (fun _ _ _ h => h) (by rfl) hS7 ?_ ?_
  rotate_left
  · (intro w' hSw; go_simp; (try with_reducible rfl))
  simp only [Act.put, List.getElem_toArray, List.getElem_cons_succ, List.getElem_cons_zero, List.setIfInBounds_toArray, List.set_cons_succ, List.set_cons_zero]
  refine Y_take (i := 15) (v := ?_) rfl (by kernel_rfl) (by kernel_rfl) (by kernel_rfl) (by kernel_rfl) (fun _ _ _ h => h) (by rfl) hS7 ?_ ?_
  rotate_left
  · (intro w' hSw; go_simp; (try with_reducible rfl))
  simp only [Act.put, List.getElem_toArray, List.getElem_cons_succ, List.getElem_cons_zero, List.setIfInBounds_toArray, List.set_cons_succ, List.set_cons_zero]
  refine Y_take (i := 16) (v := ?_) rfl (by kernel_rfl) (by kernel_rfl) (by kernel_rfl) (by kernel_rfl) (fun _ _ _ h => h) (by rfl) hS7 ?_ ?_
  rotate_left
  · (intro w' hSw; go_simp; (try with_reducible rfl))
  simp only [Act.put, List.getElem_toArray, List.getElem_cons_succ, List.getElem_cons_zero, List.setIfInBounds_toArray, List.set_cons_succ, List.set_cons_zero]
  refine Y_take (i := 17) (v := ?_) rfl (by kernel_rfl) (by kernel_rfl) (by kernel_rfl) (by kernel_rfl) (fun _ _ _ h => h) (by rfl) hS7 ?_ ?_
  rotate_left
  · (intro w' hSw; go_simp; (try with_reducible rfl))
  simp only [Act.put, List.getElem_toArray, List.getElem_cons_succ, List.getElem_cons_zero, List.setIfInBounds_toArray, List.set_cons_succ, List.set_cons_zero]
  refine Y_take (i := 18) (v := ?_) rfl (by kernel_rfl) (by kernel_rfl) (by kernel_rfl) (by kernel_rfl) (fun _ _ _ h => h) (by rfl) hS7 ?_ ?_
  rotate_left
  · (intro w' hSw; go_simp; (try with_reducible rfl))
  simp only [Act.put, List.getElem_toArray, List.getElem_cons_succ, List.getElem_cons_zero, List.setIfInBounds_toArray, List.set_cons_succ, List.set_cons_zero]
  refine Y_take (i := 19) (v := ?_) rfl (by kernel_rfl) (by kernel_rfl) (by kernel_rfl) (by kernel_rfl) (fun _ _ _ h => h) (by rfl) hS7 ?_ ?_
  rotate_left
  · (intro w' hSw; go_simp; (try with_reducible rfl))
  simp only [Act.put, List.getElem_toArray, List.getElem_cons_succ, List.getElem_cons_zero, List.setIfInBounds_toArray, List.set_cons_succ, List.set_cons_zero]
  refine Y_take (i := 20) (v := ?_) rfl (by kernel_rfl) (by kernel_rfl) (by kernel_rfl) (by kernel_rfl) (fun _ _ _ h => h) (by rfl) hS7 ?_ ?_
  rotate_left
  · (intro w' hSw; have e0 := cellB hSw.1 0 _ rfl; have e1 := cellB hSw.1 1 _ rfl; have e2 := cellB hSw.1 2 _ rfl; have e3 := cellB hSw.1 3 _ rfl; have e4 := cellB hSw.1 4 _ rfl; have e5 := cellB hSw.1 5 _ rfl; go_simp; (try with_reducible rfl))
  simp only [Act.put, List.getElem_toArray, List.getElem_cons_succ, List.getElem_cons_zero, List.setIfInBounds_toArray, List.set_cons_succ, List.set_cons_zero]
  refine Y_take (i := 22) (v := ?_) rfl (by kernel_rfl) (by kernel_rfl) (by kernel_rfl) (by kernel_rfl) (fun _ _ _ h => h) (by rfl) hS7 ?_ ?_
  rotate_left
  · (intro w' hSw; have e0 := cellB hSw.1 0 _ rfl; have e1 := cellB hSw.1 1 _ rfl; have e2 := cellB hSw.1 2 _ rfl; have e3 := cellB hSw.1 3 _ rfl; have e4 := cellB hSw.1 4 _ rfl; have e5 := cellB hSw.1 5 _ rfl; go_simp; (try with_reducible rfl))
  simp only [Act.put, List.getElem_toArray, List.getElem_cons_succ, List.getElem_cons_zero, List.setIfInBounds_toArray, List.set_cons_succ, List.set_cons_zero]
  refine Z_step (i := 21) (by kernel_rfl) rfl (fun K' hK => ?_)
  go_simp
  refine (HChk.out _ (HB6.out.trans (hb7.mono HB6.out.size))).mono ?_
  rintro e w8 ⟨rfl, hb8'⟩
  have hb8 := hb7.trans (hb8'.mono hb7.size)
  have hS8 := HS6.out _ hb8
  refine hK _ _ (fun _ => hS8) ?_
  clear hK K'
  refine Z_step (i := 23) (by kernel_rfl) rfl (fun K' hK => ?_)
  go_simp
  refine (HRef.out _).mono ?_
  rintro e w9 ⟨rfl, hb9'⟩
  have hb9 := hb8.trans (hb9'.mono hb8.size)
  have hS9 := HS6.out _ hb9
  refine hK _ _ (fun _ => hS9) ?_
  clear hK K'
  refine Z_step (i := 24) (by kernel_rfl) rfl (fun K' hK => ?_)
  go_simp
  refine (HRChk.out _ (HB6.out.trans (hb9.mono HB6.out.size))).mono ?_
  rintro e w10 ⟨rfl, hb10'⟩
  have hb10 := hb9.trans (hb10'.mono hb9.size)
  have hS10 := HS6.out _ hb10
  refine hK _ _ (fun _ => hS10) ?_
  clear hK K'
  refine Z_step (i := 25) (by kernel_rfl) rfl (fun K' hK => ?_)
  go_simp
  refine hK _ _ (fun _ => hS10) ?_
  clear hK K'
  refine Z_step (i := 26) (by kernel_rfl) rfl (fun K' hK => ?_)
  go_simp
  refine hK _ _ (fun _ => hS10) (Z_done (by kernel_rfl) ?_ _)
  clear hK K'
  have HB10 : Hid (Below w.heap.size w w10) := HB6.out.trans (hb10.mono HB6.out.size)
  have HI10 : Hid (Il w10 (.slice pa ns.length pc) ns ∧ Il w10 (.slice va9 g9.length vc9) g9) := ⟨HI6.out.1.next hb10, HI6.out.2.1.next hb10⟩
  have HS10 : Hid (∀ W, Below w10.heap.size w10 W → W.heap[B]? = some (.cells (cf num (.slice pa ns.length pc) a b c d) 25) ∧ W.heap[B9]? = some (.cells (cf n9 (.slice va9 g9.length vc9) p q r t) 25)) := fun W hW => by
    obtain ⟨j1, j2, _⟩ := HS6.out _ (hb10.trans (hW.mono hb10.size))
    exact ⟨j1, j2⟩
  clear hb7' hb8' hb9' hb10' hS0 hS7 hS8 hS9 hS10 hb7 hb8 hb9 hb10 hbD HSame HChk HRChk HRead HRRead HT HRT HS6 HS5 HI6 HI5 HI0 HS0
  have HLT : Hid (Il w10 (.slice none 0 0) []) := .inl ⟨rfl, none, 0, rfl⟩
  have HBT : Hid (Below w.heap.size w w10) := HB10.out
  have HIT : Hid (Il w10 (.slice pa ns.length pc) ns ∧ Il w10 (.slice va9 g9.length vc9) g9) := HI10.out
  have HST : Hid (∀ W, Below w10.heap.size w10 W → W.heap[B]? = some (.cells (cf num (.slice pa ns.length pc) a b c d) 25) ∧ W.heap[B9]? = some (.cells (cf n9 (.slice va9 g9.length vc9) p q r t) 25)) := HS10.out
  rcases HGE.out with rfl | rfl
  · have HT9 := HTX.out rfl
    have KR9 : Hid (w10.rangeAt B9 0 (cfL n9 (.slice va9 g9.length vc9) p q r t)) := blk_range (L := (cfL n9 (.slice va9 g9.length vc9) p q r t)) (HST.out _ (Below.refl _ _)).2
    go_upto_region 21 with (first
      | (refine wpList_load_mid rfl 25 _ rfl B9 0 rfl (cfL n9 (.slice va9 g9.length vc9) p q r t) _ KR9.out Tryz.underlying25 rfl Tryz.size25 ?_)
      | (go_at_call 7; refine (HT9 w10 HBT.out HIT.out.2).mono ?_; rintro e w20 ⟨rfl, hb20⟩; have HB20 : Hid (Below w10.heap.size w10 w20) := hb20; clear hb20))
    have HBW20 : Hid (Below w.heap.size w w20) := HBT.out.trans (HB20.out.mono HBT.out.size)
    have HK2 : Hid (w20.rangeAt B 0 (cfL num (.slice pa ns.length pc) a b c d)) := blk_range (L := (cfL num (.slice pa ns.length pc) a b c d)) (HST.out _ HB20.out).1
    have HL20 : Hid (Il w20 (.slice none 0 0) []) := HLT.out.next HB20.out
    clear HT9 KR9
    go_wp2_with (first
        | (refine wpList_load_mid rfl 25 _ rfl B 0 rfl (cfL num (.slice pa ns.length pc) a b c d) _ HK2.out Tryz.underlying25 rfl Tryz.size25 ?_)
        | (go_at_call 17; refine (HLO.out w20 HBW20.out).mono ?_; rintro e w21 ⟨lw, rfl, i21, hb21⟩; have hB21 := (HBW20.out).trans (hb21.mono (HBW20.out).size); have hL21 := (HL20.out).next hb21; have HI21 : Hid (Il w21 lw []) := i21; obtain ⟨xa, xc, rfl⟩ := i21.slice; clear hb21 i21)
        | (go_at_call 16; refine (Ints_any [] _ _ _ HI21.out hL21 HLL.out).mono ?_; rintro e w22 ⟨rfl, hb22⟩; have hB22 := hB21.trans (hb22.mono hB21.size); clear hb22 hL21)
        | (go_at_call 6; refine (three_any _).mono ?_; rintro e w23 ⟨rfl, hb23⟩; have hB23 := hB22.trans (hb23.mono hB22.size); clear hb23))
    go_ret
    exact ⟨rfl, hB23⟩
  · have HK2 : Hid (w10.rangeAt B 0 (cfL num (.slice pa ns.length pc) a b c d)) := blk_range (L := (cfL num (.slice pa ns.length pc) a b c d)) (HST.out _ (Below.refl _ _)).1
    go_wp2_with (first
        | (refine wpList_load_mid rfl 25 _ rfl B 0 rfl (cfL num (.slice pa ns.length pc) a b c d) _ HK2.out Tryz.underlying25 rfl Tryz.size25 ?_)
        | (go_at_call 17; refine (HLO.out w10 HBT.out).mono ?_; rintro e w21 ⟨lw, rfl, i21, hb21⟩; have hB21 := (HBT.out).trans (hb21.mono (HBT.out).size); have hL21 := (HLT.out).next hb21; have HI21 : Hid (Il w21 lw []) := i21; obtain ⟨xa, xc, rfl⟩ := i21.slice; clear hb21 i21)
        | (go_at_call 16; refine (Ints_any [] _ _ _ HI21.out hL21 HLL.out).mono ?_; rintro e w22 ⟨rfl, hb22⟩; have hB22 := hB21.trans (hb22.mono hB21.size); clear hb22 hL21)
        | (go_at_call 6; refine (three_any _).mono ?_; rintro e w23 ⟨rfl, hb23⟩; have hB23 := hB22.trans (hb23.mono hB22.size); clear hb23))
    go_ret
    exact ⟨rfl, hB23⟩
set_option maxRecDepth 20000 in
set_option maxHeartbeats 2000000 in
theorem texts_big (num : Int) (pa : Option Addr) (pc : Nat) (ns : List Int) (a b c d : Int) (s : List UInt8) (w : World) (h : 100 < ns.length ∨ 10000 < s.length) :
    Calls Tryz.prog 3 #[.agg (cf num (.slice pa ns.length pc) a b c d), .string (bs s)] w fun e W' => e = .returned (.bool true) ∧ Below w.heap.size w W' := by
  have hss : (bs s).size = s.length := bs_size s
  have hb0 : Below w.heap.size w (w.alloc (.cells (cf num (.slice pa ns.length pc) a b c d) 25)) := (Below.refl _ w).alloc (Nat.le_refl _) _
  have r0 := heap_alloc_new w (.cells (cf num (.slice pa ns.length pc) a b c d) 25)
  obtain ⟨W0, hW0⟩ : ∃ W, w.alloc (.cells (cf num (.slice pa ns.length pc) a b c d) 25) = W := ⟨_, rfl⟩
  rw [hW0] at hb0 r0
  have HV : Hid (w.alloc (.cells (cf num (.slice pa ns.length pc) a b c d) 25) = W0) := hW0
  have x1 := cellB r0 1 _ rfl
  clear hW0 r0
  by_cases h1 : 100 < ns.length
  · have hq1 : (100 : Int) < (ns.length : Int) := by omega
    go_enter Tryz.func3, Tryz.ntmps3
    go_upto_region 1 with fail
    rw [HV.out]
    clear HV
    go_wp2_with (first
      | (go_at_call 6; refine (three_any _).mono ?_; rintro e w5 ⟨rfl, hb5⟩; have hB5 := hb0.trans (hb5.mono hb0.size)))
    go_ret
    exact ⟨rfl, hB5⟩
  · have hq1 : ¬ (100 : Int) < (ns.length : Int) := by omega
    have hq2 : (10000 : Int) < (s.length : Int) := by omega
    go_enter Tryz.func3, Tryz.ntmps3
    go_upto_region 1 with fail
    rw [HV.out]
    clear HV
    go_wp2_with (first
      | (go_at_call 6; refine (three_any _).mono ?_; rintro e w5 ⟨rfl, hb5⟩; have hB5 := hb0.trans (hb5.mono hb0.size)))
    go_ret
    exact ⟨rfl, hB5⟩
theorem ctexts_any (num : Int) (gv : Value) (ns : List Int) (a b c d : Int) (s : List UInt8) (w : World) (hu : Il w gv ns) (he : Env w) :
    Calls Tryz.prog 3 #[.agg (cf num gv a b c d), .string (bs s)] w fun e W' => e = .returned (.bool true) ∧ Below w.heap.size w W' := by
  obtain ⟨pa, pc, rfl⟩ := hu.slice
  by_cases h1 : 100 < ns.length ∨ 10000 < s.length
  · exact texts_big num pa pc ns a b c d s w h1
  · by_cases hok : okC num ns [a, b, c, d] = true
    · obtain ⟨gs, hg, rfl, o, ho, ho4, n0, n1⟩ := okC_all hok
      obtain ⟨a', b', c', d', rfl⟩ := four_of ((conf_of hg).2.2 _ ho).1
      have e4 : a = a' ∧ b = b' ∧ c = c' ∧ d = d' := by simpa [zi] using ho4
      obtain ⟨rfl, rfl, rfl, rfl⟩ := e4
      rw [zi_len] at hu ⊢
      exact texts_ok num n0 n1 pa pc gs a' b' c' d' hg ho s w hu (by omega) he
    · exact texts_bad2 num pa pc ns a b c d (by simpa using hok) s w hu (by omega) (by omega) he
end Go.Proofs.YtfjbhljnledphaaGreatDoor
