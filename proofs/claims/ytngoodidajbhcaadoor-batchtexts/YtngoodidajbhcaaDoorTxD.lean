/- The law BatchTexts, walked. -/
import Derived.Test.YtngoodidajbhcaaDoorTxA
import Derived.Test.YtngoodidajbhcaaDoorTxC
import Derived.Test.YtngoodidajbhcaaDoorBtI
namespace Go.Proofs.YtngoodidajbhcaaDoor
open Go.RowKit
attribute [local go_sem ↓] Go.wp_at_zero Go.wp_at_succ

set_option maxRecDepth 20000 in
set_option maxHeartbeats 2000000 in
theorem btexts_any (l : List Rq) (v0 : Value) (s : List UInt8) (w : World) (hbd : ∀ a ∈ l, a.2.2.length ≤ 140737488355328) (he : Env w) (hv : Rql w v0 l) :
    Calls Tryd.prog 3 #[v0, .string (bs s)] w fun e W' => e = .returned (.bool true) ∧ Below w.heap.size w W' := by
  obtain ⟨a0, c0, rfl⟩ := hv.slice
  have hss : (bs s).size = s.length := bs_size s
  have HBD : Hid (∀ a ∈ l, a.2.2.length ≤ 140737488355328) := hbd
  clear hbd
  by_cases h1 : 100 < l.length
  · have h1' : (100 : Int) < (l.length : Int) := by omega
    go_enter Tryd.func3, Tryd.ntmps3
    go_wp2_with (first | (go_at_call 4; refine (Bat.one_any _).mono ?_; rintro e w2 ⟨rfl, hb2⟩))
    go_ret
    exact ⟨rfl, hb2⟩
  by_cases h2 : 30000 < s.length
  · have h1' : (l.length : Int) ≤ 100 := by omega
    have h2' : (30000 : Int) < (s.length : Int) := by omega
    go_enter Tryd.func3, Tryd.ntmps3
    go_wp2_with (first | (go_at_call 4; refine (Bat.one_any _).mono ?_; rintro e w2 ⟨rfl, hb2⟩))
    go_ret
    exact ⟨rfl, hb2⟩
  have h1' : (l.length : Int) ≤ 100 := by omega
  have h2' : (s.length : Int) ≤ 30000 := by omega
  have hl100 : l.length ≤ 100 := by omega
  have hs3 : s.length ≤ 30000 := by omega
  clear h1 h2
  obtain ⟨i0, hi, hz0, hz1, hz2⟩ := info_parts Tryd.info9
  go_enter Tryd.func3, Tryd.ntmps3
  go_wp2_with fail
  go_loopg [5, 6, 27] l.length (fun gk p n i wr => ∃ k : Nat, k + gk = l.length ∧ i = .int .i64 k ∧ n = .int .i64 (tot ((txs l).take k)) ∧ tot ((txs l).take k) ≤ 30000 ∧ wr.ownsRow w.heap.size 9 1 p k (strs ((txs l).take k)) ∧ Below w.heap.size w wr)
  case atStart => exact ⟨0, by omega, rfl, rfl, by simp [tot], World.ownsRow_nil _ _ _ _, Below.refl _ _⟩
  case round =>
    obtain ⟨k, hgk, rfl, rfl, hn, hown, hB⟩ := hrel
    obtain ⟨pa, pc, rfl⟩ := owns_slice hown
    by_cases hlt : k < l.length
    · obtain ⟨⟨c, n, t⟩, ha⟩ : ∃ a, l[k]? = some a := ⟨_, List.getElem?_eq_getElem hlt⟩
      have htb : t.length ≤ 140737488355328 := HBD.out _ (List.mem_of_getElem? ha)
      obtain ⟨ab, ao, rfl, hab, x0, x1, x2⟩ := (hv.below hB (Nat.le_refl _)).at ha
      simp only at x0 x1 x2
      have m0 : (0 : Int) ≤ (k : Int) := by omega
      have m1 : (k : Int) < (l.length : Int) := by omega
      have HT : Hid (strs ((txs l).take (k + 1)) = strs ((txs l).take k) ++ [.string (bs t)] ∧ tot ((txs l).take (k + 1)) = tot ((txs l).take k) + t.length) := ⟨by rw [take_txs ha]; simp [strs], tot_take _ _ _ (txs_at ha)⟩
      obtain ⟨S, hS⟩ : ∃ S, tot ((txs l).take k) = S := ⟨_, rfl⟩
      rw [hS] at hn HT ⊢
      have hba : Below wr.heap.size wr (wr.alloc (.cells #[.int .i64 c, .int .i64 n, .string (bs t)] 26)) := (Below.refl _ _).alloc (Nat.le_refl _) _
      have rN := heap_new wr (.cells #[.int .i64 c, .int .i64 n, .string (bs t)] 26)
      have hml : k + 1 ≤ maxLen := by unfold maxLen; omega
      have HX : Hid (_ ∧ _ ∧ _) := ⟨rN, own_kept hown hba, hB.trans (hba.mono hB.size)⟩
      have HR : Hid (∀ q, (Value.slice pa k pc).ownBlock = some q → q < wr.heap.size) := fun q hq => (hown.lt q hq).2
      have hwr := hB.size
      clear ha rN hba hown hB hS
      go_upto_region 8 with fail
      obtain ⟨rN, hown1, hB1⟩ := HX.out
      clear HX x0 x1 x2
      obtain ⟨W1, hW1⟩ : ∃ W, wr.alloc (.cells #[.int .i64 c, .int .i64 n, .string (bs t)] 26) = W := ⟨_, rfl⟩
      rw [hW1] at rN hown1 hB1 ⊢
      have z2 := cellN rN 2 (.string (bs t)) rfl
      have hsz1 := hB1.size
      clear hW1
      go_upto_region 9 with (first
        | (at_builtin; refine wpList_append_own _ rfl _ _ 24 rfl w.heap.size 9 i0 (.string ⟨#[]⟩) 1 16 Tryd.underlying24 hi hz0 hz1 hz2 rfl (by decide) _ _ _ rfl (hown1.alloc _) ⟨W1.heap.size, 0, none⟩ 1 1 [.string (bs t)] rfl rfl (cell_one_new _ _ _) (by simp [Value.oneCell']) hml (by omega) (by simp; omega) ?_; intro v' w3 hown' hgrow3 hnil3))
      have hB3 := (hB1.alloc hsz1 (.cells #[.string (bs t)] 9)).grown hgrow3 (by simp; omega) (fun q hq => (hown1.lt q hq).1)
      have z3 := hgrow3.cell (a := ⟨wr.heap.size, 2, none⟩) (Bat.cell_alloc _ z2) (fun h => absurd (HR.out _ h.symm) (Nat.lt_irrefl _))
      have hts : (bs t).size = t.length := bs_size t
      have HO : Hid (_) := hown'
      clear z2 rN hgrow3 hnil3 hown1 hown'
      by_cases hbig : 30000 < S + t.length
      · have hbig' : (30000 : Int) < (S : Int) + (t.length : Int) := by omega
        go_wp2_with (first | (go_at_call 4; refine (Bat.one_any _).mono ?_; rintro e w4 ⟨rfl, hb4⟩))
        go_ret
        exact ⟨rfl, hB3.trans (hb4.mono hB3.size)⟩
      · have hbig' : (S : Int) + (t.length : Int) ≤ 30000 := by omega
        go_wp2
        go_roundg (l.length - (k + 1))
        case measure => omega
        case rel => exact ⟨k + 1, by omega, by go_num, by rw [HT.out.2]; go_num, by rw [HT.out.2]; omega, by rw [HT.out.1]; exact HO.out, hB3⟩
    · have hke : k = l.length := by omega
      subst hke
      have hTl : (txs l).length = l.length := txs_len l
      rw [List.take_of_length_le (by rw [hTl]; exact Nat.le_refl _)] at hn hown ⊢
      have hSl : Sl wr (.slice pa l.length pc) (txs l) := by
        have h := hown
        rw [← hTl] at h
        have := Sl.of_owns h
        rw [hTl] at this
        exact this
      have hV := hv.below hB (Nat.le_refl _)
      have heR := he.next hB
      have hT5 := Text_any l _ wr (by omega) (by omega) heR hV
      have hpl := pack_len (txs l) (by omega)
      rw [hTl] at hpl
      have HQ : Hid (texts (packL (txs l)) = txs l) := texts_pack _ (fun t ht => by have := mem_tot ht; omega)
      have HP8 : Hid (∀ w', Below wr.heap.size wr w' → Calls Tryd.prog 8 #[.slice pa l.length pc] w' fun e W' => e = .returned (.string (bs (packL (txs l)))) ∧ Below w'.heap.size w' W') :=
        fun w' hb => rPack_any (txs l) _ w' (by omega) (by omega) (hSl.below hb (Nat.le_refl _))
      obtain ⟨T, hT⟩ : ∃ T, txs l = T := ⟨_, rfl⟩
      rw [hT] at hTl hn hSl hT5 hpl HQ HP8 ⊢
      obtain ⟨Q, hQ⟩ : ∃ Q, packL T = Q := ⟨_, rfl⟩
      rw [hQ] at hT5 hpl HQ HP8
      have hQl : Q.length ≤ 1000000 := by omega
      have hsm : s.length ≤ 1000000 := by omega
      have hot := texts_len s
      have HTl : Hid (T.length = l.length) := hTl
      clear hv hV hown hT hQ hpl hTl
      go_upto_region 14 with (first | (go_at_call 5; refine hT5.mono ?_; rintro e w1 ⟨rfl, hb1⟩))
      have hA6 := bTexts_any s w1 hsm (heR.next hb1)
      obtain ⟨E, hE⟩ : ∃ E, errT s = E := ⟨_, rfl⟩
      obtain ⟨O, hO⟩ : ∃ O, outT s = O := ⟨_, rfl⟩
      have hOl : O.length ≤ 140737488355328 := by
        rw [← hO, outT]
        split
        · omega
        · simp
      rw [hE, hO] at hA6
      clear hT5 hot
      go_upto_region 15 with (first | (go_at_call 6; refine hA6.mono ?_; rintro e w2 ⟨u, rfl, hu, hb2⟩; obtain ⟨ua, uc, rfl⟩ := hu.slice))
      have hA7 := rTexts_any s w2 hsm
      rw [hE, hO] at hA7
      clear hA6 hE hO
      go_upto_region 16 with (first | (go_at_call 7; refine hA7.mono ?_; rintro e w3 ⟨v, rfl, hv3, hb3⟩; obtain ⟨va, vc, rfl⟩ := hv3.slice))
      have hB12 := hb1.trans (hb2.mono hb1.size)
      have hB13 := hB12.trans (hb3.mono hB12.size)
      have h8 := HP8.out w3 hB13
      have hu3 := hu.below hb3 (Nat.le_refl _)
      have hq : ((bs Q).toList == (bs Q).toList) = true := by simp
      have hde : decide (O = O) = true := by simp
      clear hA7 hu HP8
      go_upto_region 18 with (first
        | (go_at_call 8; refine h8.mono ?_; rintro e w4 ⟨rfl, hb4⟩; have h9 := Texts_any O O _ _ w4 hOl hOl (hu3.below hb4 (Nat.le_refl _)) (hv3.below hb4 (Nat.le_refl _)); rw [hde] at h9)
        | (go_at_call 9; refine h9.mono ?_; rintro e w5 ⟨rfl, hb5⟩))
      have hB14 := hB13.trans (hb4.mono hB13.size)
      have hB15 := hB14.trans (hb5.mono hB14.size)
      have hA6 := bTexts_any Q w5 hQl (heR.next hB15)
      clear h8 h9 hu3 hv3
      cases hok : okT Q
      · rw [(out_no hok).1, (out_no hok).2] at hA6
        clear hok
        go_upto_region 19 with (first | (go_at_call 6; refine hA6.mono ?_; rintro e w6 ⟨x, rfl, hx, hb6⟩; obtain ⟨xa, xc, rfl⟩ := hx.slice))
        have hB16 := hB15.trans (hb6.mono hB15.size)
        clear hA6
        go_wp2_with (first | (go_at_call 4; refine (Bat.one_any _).mono ?_; rintro e w7 ⟨rfl, hb7⟩))
        go_ret
        have hB17 := hB16.trans (hb7.mono hB16.size)
        exact ⟨rfl, hB.trans (hB17.mono hB.size)⟩
      · rw [(out_ok hok).1, (out_ok hok).2, HQ.out] at hA6
        clear hok
        go_upto_region 19 with (first | (go_at_call 6; refine hA6.mono ?_; rintro e w6 ⟨x, rfl, hx, hb6⟩; obtain ⟨xa, xc, rfl⟩ := hx.slice))
        have hB16 := hB15.trans (hb6.mono hB15.size)
        have h9 := Texts_any T T _ _ w6 (by rw [HTl.out]; omega) (by rw [HTl.out]; omega) hx (hSl.below hB16 (Nat.le_refl _))
        rw [show decide (T = T) = true by simp] at h9
        clear hA6 hx hSl
        go_wp2_with (first
          | (go_at_call 9; refine h9.mono ?_; rintro e w8 ⟨rfl, hb8⟩)
          | (go_at_call 4; refine (Bat.one_any _).mono ?_; rintro e w7 ⟨rfl, hb7⟩))
        go_ret
        have hB18 := hB16.trans (hb8.mono hB16.size)
        have hB17 := hB18.trans (hb7.mono hB18.size)
        exact ⟨rfl, hB.trans (hB17.mono hB.size)⟩
end Go.Proofs.YtngoodidajbhcaaDoor
