/- The law TableFull, walked. -/
import Derived.Test.YtmkmidahfcjcgaaDoorTbJ
import Derived.Test.YtmkmidahfcjcgaaDoorTbQ
namespace Go.Proofs.YtmkmidahfcjcgaaDoor
open Go.RowKit
attribute [local go_sem ↓] Go.wp_at_zero Go.wp_at_succ

theorem Sl.at {w : World} {a : Option Addr} {c : Nat} {l : List (List UInt8)} (h : Sl w (.slice a l.length c) l) {k : Nat} {t : List UInt8} (hk : l[k]? = some t) : ∃ b o, a = some ⟨b, o, none⟩ ∧ b < w.heap.size ∧ w.cell? ⟨b, o + k, none⟩ = some (.string (bs t)) := by
  rcases h with ⟨rfl, _⟩ | ⟨b, o, cap, hv, hlt, h⟩
  · cases hk
  · injection hv with h1 _ _
    exact ⟨b, o, h1, hlt, h k t hk⟩
theorem mem_take {l : List (List UInt8)} {p : Nat} {t : List UInt8} (h : l[p]? = some t) (k : List UInt8) : decide (k ∈ l.take (p + 1)) = (decide (k ∈ l.take p) || decide (t = k)) := by
  rw [List.take_add_one, h]
  by_cases e : t = k
  · simp [e]
  · have : ¬ k = t := fun h => e h.symm
    simp [e, this]
theorem own_mv {w w' : World} {base B n : Nat} {e : TypeId} {s : Nat} {v : Value} {xs : List Value} (h : w.ownsRow base e s v n xs) (hm : Mv B w w') (hB : B < base) : w'.ownsRow base e s v n xs := by
  obtain ⟨hl, h⟩ := h
  rcases h with h | ⟨g, cap, cur, rfl, hb, hh, h1⟩
  · exact ⟨hl, .inl h⟩
  · exact ⟨hl, .inr ⟨g, cap, cur, rfl, hb, (hm.block g (Array.getElem?_eq_some_iff.1 hh).1 (by omega)).trans hh, h1⟩⟩
/-- The table beside the keys that were taken in. -/
structure FK (w : World) (H : List (List UInt8)) (l : List Rw) (u v : Value) (wr : World) : Prop where
  tab : TabAt wr w.heap.size l v
  own : wr.ownsRow (w.heap.size + 1) 9 1 u H.length (strs H)
  apart : ∀ k, v.ownBlock = some k → u.ownBlock ≠ some k
  below : Below w.heap.size w wr
  size : w.heap.size + 1 ≤ wr.heap.size
theorem FK.on {w wr W : World} {H : List (List UInt8)} {l : List Rw} {u v : Value} (h : FK w H l u v wr) (hb : Below wr.heap.size wr W) : FK w H l u v W :=
  ⟨h.tab.on hb, own_kept h.own hb, h.apart, h.below.trans (hb.mono h.below.size), Nat.le_trans h.size hb.size⟩
theorem FK.do {w wr W : World} {H : List (List UInt8)} {l l' : List Rw} {u v : Value} (h : FK w H l u v wr) (hd : DoPost wr w.heap.size v l' W) : ∃ v', FK w H l' u v' W := by
  obtain ⟨v', h1, h2, h3⟩ := hd
  refine ⟨v', h1, own_mv h.own h3 (Nat.lt_succ_self _), fun k hk hu => ?_, h.below.trans (h3.below (Nat.le_refl _) h.below.size), Nat.le_trans h.size h3.size⟩
  rcases h2 k hk with e | e
  · exact h.apart k e hu
  · have := (h.own.lt k hu).2
    omega
theorem FK.append {w wr W : World} {H : List (List UInt8)} {l : List Rw} {u u' v : Value} {t : List UInt8} (h : FK w H l u v wr) (ho : W.ownsRow (w.heap.size + 1) 9 1 u' (H.length + 1) (strs H ++ [.string (bs t)])) (hg : wr.grownBy W u.ownBlock) (hu : ∀ k, u'.ownBlock = some k → u.ownBlock = some k ∨ wr.heap.size ≤ k) : FK w (H ++ [t]) l u' v W := by
  have hne : ∀ k, u.ownBlock = some k → k ≠ w.heap.size := fun k hk => by have := (h.own.lt k hk).1; omega
  refine ⟨h.tab.keep (hg.block _ h.tab.lt (fun e => hne _ e.symm rfl)) fun k hk hlt => hg.block k hlt (fun e => h.apart k hk e.symm), by rw [List.length_append]; simpa [strs] using ho, fun k hk e => ?_, h.below.grown hg h.below.size (fun k hk => by have := (h.own.lt k hk).1; omega), Nat.le_trans h.size hg.size⟩
  rcases hu k e with e1 | e1
  · exact h.apart k hk e1
  · have := h.tab.rows.lt k hk
    omega
set_option maxRecDepth 20000 in
set_option maxHeartbeats 4000000 in
theorem full_any (l0 : List (List UInt8)) (v0 : Value) (vt : List UInt8) (w : World) (he : EnvP w) (hv : Sl w v0 l0) : Calls Tryd.prog 8 #[v0, .string (bs vt)] w fun e W' => e = .returned (.bool true) ∧ Below w.heap.size w W' := by
  obtain ⟨i0, hi, hz0, hz1, hz2⟩ := info_parts Tryd.info9
  obtain ⟨va, vc, rfl⟩ := hv.slice
  have hN := New_any w
  have HF : Hid (∀ W, Below w.heap.size w W → Calls Tryd.prog 10 #[] W fun e W' => e = .returned (.bool true) ∧ Below w.heap.size w W') := fun W hb => by
    refine (four_any W (he.next hb)).mono ?_
    rintro e W' ⟨rfl, h⟩
    exact ⟨rfl, hb.trans (h.mono hb.size)⟩
  have hE0 : bs [] = ⟨#[]⟩ := rfl
  have HD : Hid (∀ H l u v wr k, FK w H l u v wr → Calls Tryd.prog 11 #[.pointer (some ⟨w.heap.size, 0, none⟩), .agg #[.int .i64 2, .string (bs k), .string (bs vt), .string ⟨#[]⟩]] wr fun e W' => e = .returned (.tuple #[.string (bs (doR l 2 k vt []).1), .int .i64 (doR l 2 k vt []).2.1]) ∧ ∃ v', FK w H (doR l 2 k vt []).2.2 u v' W') := by
    intro H l u v wr k h
    have := Do_any h.tab 2 k vt []
    unfold opV at this
    rw [hE0] at this
    refine this.mono ?_
    rintro e W' ⟨rfl, h1⟩
    exact ⟨rfl, h.do h1⟩
  have HC : Hid (∀ k W, Calls Tryd.prog 14 #[.agg #[.int .i64 2, .string (bs k), .string (bs vt), .string ⟨#[]⟩]] W fun e W' => e = .returned (.int .i64 (chk 2 k vt [])) ∧ Below W.heap.size W W') := by
    intro k W
    have := Check_any 2 k vt [] W
    unfold opV at this
    rw [hE0] at this
    exact this
  clear hE0 he
  by_cases hl : 200 < l0.length
  · have hl2 : (200 : Int) < (l0.length : Int) := by omega
    clear HD HC
    go_enter Tryd.func8, Tryd.ntmps8
    go_wp2_with (first
      | (go_at_call 9; refine hN.mono ?_; clear hN; rintro e w1 ⟨rfl, ht, hb, _⟩; have hF := HF.out _ hb; clear HF ht)
      | (go_at_call 10; refine hF.mono ?_; rintro e w2 ⟨rfl, hb2⟩))
    go_ret
    exact ⟨rfl, hb2⟩
  · have hl2 : (l0.length : Int) ≤ 200 := by omega
    go_enter Tryd.func8, Tryd.ntmps8
    go_wp2_with (go_at_call 9; refine hN.mono ?_; clear hN; rintro e w1 ⟨rfl, ht, hb, hsz⟩)
    have h0 : FK w [] [] (.slice none 0 0) (.slice none 0 0) w1 := ⟨ht, World.ownsRow_nil _ _ _ _, (fun k hk => by cases hk), hb, by omega⟩
    clear ht hb hsz
    go_loopg [6, 30] l0.length (fun gk u i wr => ∃ (k : Nat) (H : List (List UInt8)) (l : List Rw) (v : Value), k + gk = l0.length ∧ i = .int .i64 k ∧ FK w H l u v wr ∧ Hid (Full H l))
    case atStart => exact ⟨0, [], [], _, by omega, rfl, h0, Full.nil⟩
    case round =>
      obtain ⟨n, H, l, v, hn, rfl, hK, HFull⟩ := hrel
      obtain ⟨ua, uc, rfl⟩ := owns_slice hK.own
      by_cases hn1 : n = l0.length
      · subst hn1
        have hF := HF.out _ hK.below
        clear HF HD HC hK
        go_wp2_with (go_at_call 10; refine hF.mono ?_; rintro e w2 ⟨rfl, hb2⟩)
        go_ret
        exact ⟨rfl, hb2⟩
      · have hn2 : n < l0.length := by omega
        obtain ⟨k, hk⟩ : ∃ k, l0[n]? = some k := ⟨_, List.getElem?_eq_getElem hn2⟩
        obtain ⟨b, o, rfl, hb0, hc0⟩ := (hv.below hK.below (Nat.le_refl _)).at hk
        have HKK : Hid (FK w H l (.slice ua H.length uc) v wr) := hK
        have hSl := Sl.of_owns hK.own
        have hH16 : H.length ≤ 16 := by have := HFull.out.len; have := HFull.out.ok.len; omega
        clear hk hK
        rename World => wq
        go_wp2_with fail
        go_loopg [9, 36] H.length (fun gj b j wj => ∃ p : Nat, p + gj = H.length ∧ j = .int .i64 p ∧ b = .bool (decide (k ∈ H.take p)) ∧ wj = wq)
        case atStart => exact ⟨0, by omega, rfl, by simp, rfl⟩
        case round =>
          obtain ⟨p, hp, rfl, rfl, rfl⟩ := hrel
          by_cases hp1 : p = H.length
          · subst hp1
            rw [List.take_length]
            obtain ⟨hst, hfl⟩ := HFull.out.step k vt
            have hD := HD.out _ _ _ _ _ k HKK.out
            have hC := HC.out k
            obtain ⟨T, hT⟩ : ∃ T, (doR l 2 k vt []).1 = T := ⟨_, rfl⟩
            obtain ⟨E, hE⟩ : ∃ E, (doR l 2 k vt []).2.1 = E := ⟨_, rfl⟩
            obtain ⟨L, hL⟩ : ∃ L, (doR l 2 k vt []).2.2 = L := ⟨_, rfl⟩
            obtain ⟨C, hCC⟩ : ∃ C, chk 2 k vt [] = C := ⟨_, rfl⟩
            rw [hE, hCC] at hst
            rw [hE, hL] at hfl
            rw [hT, hE, hL] at hD
            rw [hCC] at hC
            clear hT hE hL hCC HD HC HF HKK HFull hc0 hSl
            by_cases hin : k ∈ H
            · rw [if_neg (fun h => h.2.1 hin)] at hst
              subst hst
              have e1 : fullH H k E = H := if_neg (fun h => h.2 hin)
              rw [e1] at hfl
              have HL : Hid (∀ W v', FK w H L (.slice ua H.length uc) v' W → Calls Tryd.prog 18 #[.pointer (some ⟨w.heap.size, 0, none⟩)] W fun e W' => e = .returned (.int .i64 H.length) ∧ W' = W) := fun W v' h => by rw [hfl.len]; exact Len_any h.tab
              have HFL : Hid (Full H L) := hfl
              have hI : decide (k ∈ H) = true := by simpa using hin
              rw [hI]
              clear hfl hin hI e1
              by_cases hC0 : E = 0
              · subst hC0
                go_wp2_with (first
                  | (go_at_call 11; refine hD.mono ?_; clear hD; rintro e w3 ⟨rfl, v3, hk3⟩; have hC3 := hC w3; clear hC)
                  | (go_at_call 14; refine hC3.mono ?_; clear hC3; rintro e w4 ⟨rfl, hb4⟩; have hk4 := hk3.on hb4; have hL4 := HL.out _ _ hk4; clear hk3 hb4)
                  | (go_at_call 18; refine hL4.mono ?_; clear hL4; rintro e w5 ⟨rfl, h9⟩; subst h9))
                go_roundg (l0.length - (n + 1))
                case measure => omega
                case rel => exact ⟨n + 1, H, L, v3, by omega, by go_num, hk4, HFL.out⟩
              · have hne : (E == 0) = false := by simpa using hC0
                go_wp2_with (first
                  | (go_at_call 11; refine hD.mono ?_; clear hD; rintro e w3 ⟨rfl, v3, hk3⟩; have hC3 := hC w3; clear hC)
                  | (go_at_call 14; refine hC3.mono ?_; clear hC3; rintro e w4 ⟨rfl, hb4⟩; have hk4 := hk3.on hb4; have hL4 := HL.out _ _ hk4; clear hk3 hb4)
                  | (go_at_call 18; refine hL4.mono ?_; clear hL4; rintro e w5 ⟨rfl, h9⟩; subst h9))
                go_roundg (l0.length - (n + 1))
                case measure => omega
                case rel => exact ⟨n + 1, H, L, v3, by omega, by go_num, hk4, HFL.out⟩
            · have hI : decide (k ∈ H) = false := by simpa using hin
              rw [hI]
              clear hI
              by_cases hC0 : C = 0
              · subst hC0
                by_cases h16 : H.length = 16
                · rw [if_pos ⟨rfl, hin, h16⟩] at hst
                  subst hst
                  have e1 : fullH H k 5 = H := if_neg (fun h => by cases h.1)
                  rw [e1] at hfl
                  have HL : Hid (∀ W v', FK w H L (.slice ua H.length uc) v' W → Calls Tryd.prog 18 #[.pointer (some ⟨w.heap.size, 0, none⟩)] W fun e W' => e = .returned (.int .i64 H.length) ∧ W' = W) := fun W v' h => by rw [hfl.len]; exact Len_any h.tab
                  have HFL : Hid (Full H L) := hfl
                  have hl16 : ((H.length : Int) == 16) = true := by rw [beq_iff_eq]; omega
                  clear hfl hin e1 h16
                  go_wp2_with (first
                    | (go_at_call 11; refine hD.mono ?_; clear hD; rintro e w3 ⟨rfl, v3, hk3⟩; have hC3 := hC w3; clear hC)
                    | (go_at_call 14; refine hC3.mono ?_; clear hC3; rintro e w4 ⟨rfl, hb4⟩; have hk4 := hk3.on hb4; have hL4 := HL.out _ _ hk4; clear hk3 hb4)
                    | (go_at_call 18; refine hL4.mono ?_; clear hL4; rintro e w5 ⟨rfl, h9⟩; subst h9))
                  go_roundg (l0.length - (n + 1))
                  case measure => omega
                  case rel => exact ⟨n + 1, H, L, v3, by omega, by go_num, hk4, HFL.out⟩
                · rw [if_neg (fun h => h16 h.2.2)] at hst
                  subst hst
                  have e1 : fullH H k 0 = H ++ [k] := if_pos ⟨rfl, hin⟩
                  rw [e1] at hfl
                  have HL : Hid (∀ W u v', FK w (H ++ [k]) L u v' W → Calls Tryd.prog 18 #[.pointer (some ⟨w.heap.size, 0, none⟩)] W fun e W' => e = .returned (.int .i64 ((H.length + 1 : Nat) : Int)) ∧ W' = W) := fun W u v' h => by
                    have := Len_any h.tab
                    rw [← hfl.len, List.length_append] at this
                    exact this
                  have HFL : Hid (Full (H ++ [k]) L) := hfl
                  have hl16 : ((H.length : Int) == 16) = false := by rw [beq_eq_false_iff_ne]; omega
                  have hml : H.length + 1 ≤ maxLen := by unfold maxLen; omega
                  have hkb : (H.length + 1) * 16 ≤ 140737488355328 := by omega
                  clear hfl hin e1 h16
                  go_upto_region 21 with (first
                    | (go_at_call 11; refine hD.mono ?_; clear hD; rintro e w3 ⟨rfl, v3, hk3⟩; have hC3 := hC w3; clear hC)
                    | (go_at_call 14; refine hC3.mono ?_; clear hC3; rintro e w4 ⟨rfl, hb4⟩; have hk4 := hk3.on hb4; clear hk3 hb4))
                  have hka := hk4.on ((Below.refl _ w4).alloc (Nat.le_refl _) (.cells #[.string (bs k)] 9))
                  have hsz := hka.size
                  go_upto_region 22 with (at_builtin; refine wpList_append_lies _ rfl _ _ 52 rfl (w.heap.size + 1) 9 i0 (.string ⟨#[]⟩) 1 16 Tryd.underlying52 hi hz0 hz1 hz2 rfl (by decide) (.slice ua H.length uc) H.length (strs H) rfl hka.own ⟨w4.heap.size, 0, none⟩ 1 1 [.string (bs k)] rfl rfl (World.news_of_block (heap_alloc_new _ _)) (by simp [Value.oneCell']) (by decide) hml hkb hsz _ rfl ?_; intro g cap w5 g1 g2 g3 g4)
                  have hk5 : FK w (H ++ [k]) L (.slice (some ⟨g, 0, none⟩) (H.length + 1) cap) v3 w5 := hka.append g1 g2 (fun q hq => by
                    cases hq
                    rcases g3 with g3 | g3
                    · exact .inl g3
                    · exact .inr (Nat.le_of_eq g3.symm))
                  have hL5 := HL.out _ _ _ hk5
                  clear hka hk4 g1 g2 g3 g4 HL
                  go_wp2_with (go_at_call 18; refine hL5.mono ?_; clear hL5; rintro e w6 ⟨rfl, h9⟩; subst h9)
                  go_roundg (l0.length - (n + 1))
                  case measure => omega
                  case rel => exact ⟨n + 1, H ++ [k], L, v3, by omega, by go_num, hk5, HFL.out⟩
              · rw [if_neg (fun h => hC0 h.1)] at hst
                subst hst
                have e1 : fullH H k E = H := if_neg (fun h => hC0 h.1)
                rw [e1] at hfl
                have HL : Hid (∀ W v', FK w H L (.slice ua H.length uc) v' W → Calls Tryd.prog 18 #[.pointer (some ⟨w.heap.size, 0, none⟩)] W fun e W' => e = .returned (.int .i64 H.length) ∧ W' = W) := fun W v' h => by rw [hfl.len]; exact Len_any h.tab
                have HFL : Hid (Full H L) := hfl
                have hne : (E == 0) = false := by simpa using hC0
                clear hfl hin e1
                go_wp2_with (first
                  | (go_at_call 11; refine hD.mono ?_; clear hD; rintro e w3 ⟨rfl, v3, hk3⟩; have hC3 := hC w3; clear hC)
                  | (go_at_call 14; refine hC3.mono ?_; clear hC3; rintro e w4 ⟨rfl, hb4⟩; have hk4 := hk3.on hb4; have hL4 := HL.out _ _ hk4; clear hk3 hb4)
                  | (go_at_call 18; refine hL4.mono ?_; clear hL4; rintro e w5 ⟨rfl, h9⟩; subst h9))
                go_roundg (l0.length - (n + 1))
                case measure => omega
                case rel => exact ⟨n + 1, H, L, v3, by omega, by go_num, hk4, HFL.out⟩
          · have hp2 : p < H.length := by omega
            obtain ⟨t, ht⟩ : ∃ t, H[p]? = some t := ⟨_, List.getElem?_eq_getElem hp2⟩
            obtain ⟨b2, o2, rfl, hb2, hc2⟩ := hSl.at ht
            have HM : Hid (_) := mem_take ht k
            obtain ⟨I, hI⟩ : ∃ I, decide (k ∈ H.take p) = I := ⟨_, rfl⟩
            rw [hI] at HM ⊢
            clear ht hI
            cases I
            · by_cases e : t = k
              · subst e
                have hs := str_same t
                go_wp2
                go_roundg (H.length - (p + 1))
                case measure => omega
                case rel => exact ⟨p + 1, by omega, by go_num, by rw [HM.out]; simp, rfl⟩
              · have hs := str_other e
                have HM2 : Hid (decide (k ∈ H.take (p + 1)) = false) := by show _ = _; rw [HM.out]; simp [e]
                clear e
                go_wp2
                go_roundg (H.length - (p + 1))
                case measure => omega
                case rel => exact ⟨p + 1, by omega, by go_num, by rw [HM2.out], rfl⟩
            · go_wp2
              go_roundg (H.length - (p + 1))
              case measure => omega
              case rel => exact ⟨p + 1, by omega, by go_num, by rw [HM.out]; simp, rfl⟩
end Go.Proofs.YtmkmidahfcjcgaaDoor
