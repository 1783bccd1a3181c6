/- The law TableReads, walked. -/
import Derived.Test.YtmkmidahfcjcgaaDoorTbS
namespace Go.Proofs.YtmkmidahfcjcgaaDoor
open Go.RowKit
attribute [local go_sem ↓] Go.wp_at_zero Go.wp_at_succ

theorem tail_eq (h v : List UInt8) : ((((bs (h ++ v)).extract ((h ++ v).length - v.length) (h ++ v).length)).toList == (bs v).toList) = true := by
  have : (bs (h ++ v)).extract ((h ++ v).length - v.length) (h ++ v).length = bs v := by
    apply bs_of
    rw [extract_list]
    show List.drop ((h ++ v).length - v.length) (List.take (h ++ v).length (h ++ v)) = v
    rw [List.take_length, List.length_append, Nat.add_sub_cancel]
    simp
  rw [this]
  simp
theorem wrap_me {y : Int} (h0 : -9223372036854775808 ≤ y) (h1 : y ≤ 9223372036854775807) : IntKind.i64.wrap y = y := by
  simp [IntKind.wrap, IntKind.bits, IntKind.signed]; omega
set_option maxRecDepth 20000 in
set_option maxHeartbeats 4000000 in
theorem reads_any (l0 : List Op4) (v0 : Value) (kind : Int) (k vl o : List UInt8) (w : World) (he : EnvP w) (hv : Ol w v0 l0) : Calls Tryd.prog 6 #[v0, opV kind k vl o] w fun e W' => e = .returned (.bool true) ∧ Below w.heap.size w W' := by
  obtain ⟨va, vc, rfl⟩ := hv.slice
  have hba := (Below.refl w.heap.size w).alloc (Nat.le_refl _) (.cells #[.int .i64 kind, .string (bs k), .string (bs vl), .string (bs o)] 31)
  have rQ := heap_alloc_new w (.cells #[.int .i64 kind, .string (bs k), .string (bs vl), .string (bs o)] 31)
  obtain ⟨W1, hW1⟩ : ∃ W, w.alloc (.cells #[.int .i64 kind, .string (bs k), .string (bs vl), .string (bs o)] 31) = W := ⟨_, rfl⟩
  have HW : Hid (w.alloc (.cells #[.int .i64 kind, .string (bs k), .string (bs vl), .string (bs o)] 31) = W1) := hW1
  rw [hW1] at hba rQ
  have hlt := (Array.getElem?_eq_some_iff.1 rQ).1
  have hN := New_any W1
  have HQ : Hid (∀ W, Below W1.heap.size W1 W → (W.cell? ⟨w.heap.size, 0, none⟩ = some (.int .i64 kind) ∧ W.cell? ⟨w.heap.size, 1, none⟩ = some (.string (bs k)) ∧ W.cell? ⟨w.heap.size, 2, none⟩ = some (.string (bs vl)) ∧ W.cell? ⟨w.heap.size, 3, none⟩ = some (.string (bs o))) ∧ Below w.heap.size w W) :=
    fun W hb => ⟨⟨cellB ((hb.block _ hlt).trans rQ) 0 _ rfl, cellB ((hb.block _ hlt).trans rQ) 1 _ rfl, cellB ((hb.block _ hlt).trans rQ) 2 _ rfl, cellB ((hb.block _ hlt).trans rQ) 3 _ rfl⟩, hba.trans (hb.mono hba.size)⟩
  have HF : Hid (∀ W, Below W1.heap.size W1 W → Calls Tryd.prog 10 #[] W fun e W' => e = .returned (.bool true) ∧ Below w.heap.size w W') := fun W hb => by
    have hB := hba.trans (hb.mono hba.size)
    refine (four_any W (he.next hB)).mono ?_
    rintro e W' ⟨rfl, h⟩
    exact ⟨rfl, hB.trans (h.mono hB.size)⟩
  have HF2 : Hid (∀ W, Below W1.heap.size W1 W → Calls Tryd.prog 10 #[] W fun e W' => e = .returned (.bool true) ∧ Below W.heap.size W W') := fun W hb => four_any W (he.next (hba.trans (hb.mono hba.size)))
  have HT : Hid (∀ W l v, Tk W1 W1.heap.size l v W → Calls Tryd.prog 16 #[.pointer (some ⟨W1.heap.size, 0, none⟩)] W fun e W' => e = .returned (.string (bs (textT l))) ∧ Tk W1 W1.heap.size l v W') := fun W l v h => by
    refine (Text_any h.tab (he.next (hba.trans (h.below.mono hba.size)))).mono ?_
    rintro e W' ⟨rfl, hb⟩
    exact ⟨rfl, h.on hb⟩
  have hv1 := hv.on hba
  clear hba rQ hW1 hv he
  by_cases hl : 200 < l0.length
  · have hl2 : (200 : Int) < (l0.length : Int) := by omega
    clear HT HQ
    go_enter Tryd.func6, Tryd.ntmps6
    go_upto_region 1 with fail
    rw [HW.out]
    clear HW
    go_wp2_with (first
      | (go_at_call 9; refine hN.mono ?_; clear hN; rintro e w1 ⟨rfl, ht, hb, _⟩; have hF := HF.out _ hb; clear HF ht)
      | (go_at_call 10; refine hF.mono ?_; rintro e w2 ⟨rfl, hb2⟩))
    go_ret
    exact ⟨rfl, hb2⟩
  · have hl2 : (l0.length : Int) ≤ 200 := by omega
    go_enter Tryd.func6, Tryd.ntmps6
    go_upto_region 1 with fail
    rw [HW.out]
    clear HW
    go_wp2_with (go_at_call 9; refine hN.mono ?_; clear hN; rintro e w1 ⟨rfl, ht, hb, hsz⟩)
    have h0 : Tk W1 W1.heap.size [] (.slice none 0 0) w1 := ⟨ht, hb⟩
    clear ht hb hsz
    go_loopg [28] l0.length (fun gk i wr => ∃ (n : Nat) (l : List Rw) (v : Value), n + gk = l0.length ∧ i = .int .i64 n ∧ Tk W1 W1.heap.size l v wr)
    case atStart => exact ⟨0, [], _, by omega, rfl, h0⟩
    case round =>
      obtain ⟨n, l, v, hn, rfl, hK⟩ := hrel
      by_cases hn1 : n = l0.length
      · subst hn1
        obtain ⟨⟨t, E, l'⟩, hd⟩ : ∃ x, doR l kind k vl o = x := ⟨_, rfl⟩
        have hok := hK.tab.ok
        have hT1 := HT.out _ _ _ hK
        have HD : Hid (∀ W v, Tk W1 W1.heap.size l v W → _) := fun W v h => h.do (Nat.le_refl _) kind k vl o hd
        obtain ⟨X, hX⟩ : ∃ X, textT l = X := ⟨_, rfl⟩
        rw [hX] at hT1
        have hsX := str_same X
        clear hK
        by_cases hE : E = 0
        · subst hE
          obtain ⟨ck, c1, c5, k1, k25, k3, k4⟩ := do_ok hok hd
          have HG : Hid (∀ W v, Tk W1 W1.heap.size l' v W → _) := fun W v h => h.do (Nat.le_refl _) 1 k [] [] (do_get (l := l') ck)
          unfold opV at HD HG
          rw [show bs [] = ⟨#[]⟩ from rfl] at HG
          have hok' : Ok l' := by have := hok.do kind k vl o; rw [hd] at this; exact this
          clear hd hok ck
          obtain rfl | rfl | rfl | rfl | rfl : kind = 1 ∨ kind = 2 ∨ kind = 3 ∨ kind = 4 ∨ kind = 5 := by omega
          · obtain ⟨rfl, hg⟩ := k1 rfl
            rw [hg] at HG
            simp only [Option.getD_some, Option.isSome_some, if_true] at HG
            have HT2 : Hid (∀ W v, Tk W1 W1.heap.size l' v W → _) := fun W v h => by
              have := HT.out W l' v h
              rw [hX] at this
              exact this
            have hst := str_same t
            clear hg k1 k25 k3 k4 hX HT c1 c5
            go_wp2_with (first
              | (go_at_call 16; refine hT1.mono ?_; clear hT1; rintro e w3 ⟨rfl, hk3⟩; obtain ⟨⟨q0, q1, q2, q3⟩, _⟩ := HQ.out _ hk3.below; have hD := HD.out _ _ hk3; clear HD hk3)
              | (go_at_call 11; refine hD.mono ?_; clear hD; rintro e w4 ⟨rfl, v4, hk4⟩; obtain ⟨⟨p0, p1, p2, p3⟩, _⟩ := HQ.out _ hk4.below; have hG := HG.out _ _ hk4; clear HG hk4 q0 q1 q2 q3)
              | (go_at_call 11; refine hG.mono ?_; clear hG; rintro e w5 ⟨rfl, v5, hk5⟩; obtain ⟨⟨r0, r1, r2, r3⟩, _⟩ := HQ.out _ hk5.below; have hF := HF.out _ hk5.below; clear p0 p1 p2 p3)
              | (go_at_call 16; refine (HT2.out _ _ hk5).mono ?_; clear hF; rintro e w6 ⟨rfl, hk6⟩; have hF := HF.out _ hk6.below; clear HF)
              | (go_at_call 10; refine hF.mono ?_; rintro e w7 ⟨rfl, hb7⟩))
            go_ret
            exact ⟨rfl, hb7⟩
          · have hg := k25 (.inl rfl)
            rw [hg] at HG
            simp only [Option.getD_some, Option.isSome_some, if_true] at HG
            have hst := str_same vl
            clear hg k1 k25 k3 k4 hX HT c1 c5
            go_wp2_with (first
              | (go_at_call 16; refine hT1.mono ?_; clear hT1; rintro e w3 ⟨rfl, hk3⟩; obtain ⟨⟨q0, q1, q2, q3⟩, _⟩ := HQ.out _ hk3.below; have hD := HD.out _ _ hk3; clear HD hk3)
              | (go_at_call 11; refine hD.mono ?_; clear hD; rintro e w4 ⟨rfl, v4, hk4⟩; obtain ⟨⟨p0, p1, p2, p3⟩, _⟩ := HQ.out _ hk4.below; have hG := HG.out _ _ hk4; clear HG hk4 q0 q1 q2 q3)
              | (go_at_call 11; refine hG.mono ?_; clear hG; rintro e w5 ⟨rfl, v5, hk5⟩; obtain ⟨⟨r0, r1, r2, r3⟩, _⟩ := HQ.out _ hk5.below; have hF := HF.out _ hk5.below; clear p0 p1 p2 p3)
              | (go_at_call 10; refine hF.mono ?_; rintro e w7 ⟨rfl, hb7⟩))
            go_ret
            exact ⟨rfl, hb7⟩
          · obtain ⟨hg, hh, rfl⟩ := k3 rfl
            rw [hg] at HG
            simp only [Option.getD_some, Option.isSome_some, if_true] at HG
            have hT64 : (hh ++ vl).length ≤ 64 := by have := (hok'.row _ (val_mem hg)).2; simpa [isV] using this
            have hvT : vl.length ≤ (hh ++ vl).length := by rw [List.length_append]; omega
            have hte := tail_eq hh vl
            have hst := str_same (hh ++ vl)
            have hsT : (bs (hh ++ vl)).size = (hh ++ vl).length := bs_size _
            have hsv : (bs vl).size = vl.length := bs_size _
            obtain ⟨T, hT⟩ : ∃ T, hh ++ vl = T := ⟨_, rfl⟩
            rw [hT] at HG hT64 hvT hte hst hsT HD
            obtain ⟨q, hq⟩ : ∃ q, T.length - vl.length = q := ⟨_, rfl⟩
            rw [hq] at hte
            have hqi : IntKind.i64.wrap ((T.length : Int) - (vl.length : Int)) = (q : Int) := by rw [show (T.length : Int) - (vl.length : Int) = (q : Int) by omega]; exact wrap_me (y := (q : Int)) (by omega) (by omega)
            have hd1 : decide ((vl.length : Int) ≤ (T.length : Int)) = true := by simp; omega
            have hqT : (q : Int) ≤ (T.length : Int) := by omega
            clear hg k1 k25 k3 k4 hX HT c1 c5 hT hq
            go_upto_region 21 with (first
              | (go_at_call 16; refine hT1.mono ?_; clear hT1; rintro e w3 ⟨rfl, hk3⟩; obtain ⟨⟨q0, q1, q2, q3⟩, _⟩ := HQ.out _ hk3.below; have hD := HD.out _ _ hk3; clear HD hk3)
              | (go_at_call 11; refine hD.mono ?_; clear hD; rintro e w4 ⟨rfl, v4, hk4⟩; obtain ⟨⟨p0, p1, p2, p3⟩, _⟩ := HQ.out _ hk4.below; have hG := HG.out _ _ hk4; clear HG hk4 q0 q1 q2 q3)
              | (go_at_call 11; refine hG.mono ?_; clear hG; rintro e w5 ⟨rfl, v5, hk5⟩; obtain ⟨⟨r0, r1, r2, r3⟩, _⟩ := HQ.out _ hk5.below; have hF := HF.out _ hk5.below; clear p0 p1 p2 p3)
              | fail)
            have gF : ∀ x : Cw w5, Calls Tryd.prog 10 #[] x.w fun e w'' => e = .returned (.bool true) ∧ ∃ y : Cw w5, w'' = y.w := fun x => by
              refine (HF2.out x.w (hk5.below.trans (x.h.mono hk5.below.size))).mono ?_
              rintro e W' ⟨rfl, h⟩
              exact ⟨rfl, ⟨W', x.h.trans (h.mono x.h.size)⟩, rfl⟩
            have kC : ∀ x : Cw w5, x.w.cell? ⟨w.heap.size, 2, none⟩ = some (.string (bs vl)) := fun x => (HQ.out _ (hk5.below.trans (x.h.mono hk5.below.size))).1.2.2.1
            have hne : Nonempty (Cw w5) := ⟨⟨w5, Below.refl _ _⟩⟩
            have HX : Hid (∀ x : Cw w5, Below w.heap.size w x.w) := fun x => (HQ.out _ (hk5.below.trans (x.h.mono hk5.below.size))).2
            clear hk5 hF r0 r1 r2 r3
            refine wp_region_grow (W0 := w5) (by kernel_rfl) (by kernel_rfl) (Below.refl _ _) ?_
            repeat (go_big_quiet_step (first | (go_at_call 10; exact gF _)))
            refine wpQuiet_nil ?_
            rintro _ ⟨xx, rfl⟩
            have HX2 : Hid (_) := HX.out xx
            clear kC gF HX
            go_wp2
            exact bodyPost_ret (v := .bool true) (by simp [results, Tryd.f6, go_sem]) rfl ⟨rfl, HX2.out⟩
          · have hg := k4 rfl
            rw [hg] at HG
            simp only [Option.getD_none, Option.isSome_none, Bool.false_eq_true, if_false] at HG
            clear hg k1 k25 k3 k4 hX HT c1 c5
            go_wp2_with (first
              | (go_at_call 16; refine hT1.mono ?_; clear hT1; rintro e w3 ⟨rfl, hk3⟩; obtain ⟨⟨q0, q1, q2, q3⟩, _⟩ := HQ.out _ hk3.below; have hD := HD.out _ _ hk3; clear HD hk3)
              | (go_at_call 11; refine hD.mono ?_; clear hD; rintro e w4 ⟨rfl, v4, hk4⟩; obtain ⟨⟨p0, p1, p2, p3⟩, _⟩ := HQ.out _ hk4.below; have hG := HG.out _ _ hk4; clear HG hk4 q0 q1 q2 q3)
              | (go_at_call 11; refine hG.mono ?_; clear hG; rintro e w5 ⟨rfl, v5, hk5⟩; obtain ⟨⟨r0, r1, r2, r3⟩, _⟩ := HQ.out _ hk5.below; have hF := HF.out _ hk5.below; clear p0 p1 p2 p3)
              | (go_at_call 10; refine hF.mono ?_; rintro e w7 ⟨rfl, hb7⟩))
            go_ret
            exact ⟨rfl, hb7⟩
          · have hg := k25 (.inr rfl)
            rw [hg] at HG
            simp only [Option.getD_some, Option.isSome_some, if_true] at HG
            have hst := str_same vl
            clear hg k1 k25 k3 k4 hX HT c1 c5
            go_wp2_with (first
              | (go_at_call 16; refine hT1.mono ?_; clear hT1; rintro e w3 ⟨rfl, hk3⟩; obtain ⟨⟨q0, q1, q2, q3⟩, _⟩ := HQ.out _ hk3.below; have hD := HD.out _ _ hk3; clear HD hk3)
              | (go_at_call 11; refine hD.mono ?_; clear hD; rintro e w4 ⟨rfl, v4, hk4⟩; obtain ⟨⟨p0, p1, p2, p3⟩, _⟩ := HQ.out _ hk4.below; have hG := HG.out _ _ hk4; clear HG hk4 q0 q1 q2 q3)
              | (go_at_call 11; refine hG.mono ?_; clear hG; rintro e w5 ⟨rfl, v5, hk5⟩; obtain ⟨⟨r0, r1, r2, r3⟩, _⟩ := HQ.out _ hk5.below; have hF := HF.out _ hk5.below; clear p0 p1 p2 p3)
              | (go_at_call 10; refine hF.mono ?_; rintro e w7 ⟨rfl, hb7⟩))
            go_ret
            exact ⟨rfl, hb7⟩
        · obtain ⟨rfl, rfl⟩ := do_err hd hE
          have hne : (E != 0) = true := by simpa using hE
          have HT2 : Hid (∀ W v, Tk W1 W1.heap.size l' v W → _) := fun W v h => by
            have := HT.out W l' v h
            rw [hX] at this
            exact this
          have hz := emp_t (v := []) rfl
          unfold opV at HD
          clear hd hX HT hok
          go_wp2_with (first
            | (go_at_call 16; refine hT1.mono ?_; clear hT1; rintro e w3 ⟨rfl, hk3⟩; obtain ⟨⟨q0, q1, q2, q3⟩, _⟩ := HQ.out _ hk3.below; have hD := HD.out _ _ hk3; clear HD)
            | (go_at_call 11; refine hD.mono ?_; clear hD; rintro e w4 ⟨rfl, v4, hk4⟩; have hT4 := HT2.out _ _ hk4; clear HT2)
            | (go_at_call 16; refine hT4.mono ?_; clear hT4; rintro e w5 ⟨rfl, hk5⟩; have hF := HF.out _ hk5.below; clear HF)
            | (go_at_call 10; refine hF.mono ?_; rintro e w6 ⟨rfl, hb6⟩))
          go_ret
          exact ⟨rfl, hb6⟩
      · have hn2 : n < l0.length := by omega
        obtain ⟨s, hs⟩ : ∃ s, l0[n]? = some s := ⟨_, List.getElem?_eq_getElem hn2⟩
        obtain ⟨b, oo, rfl, hb0, c0, c1, c2, c3⟩ := (hv1.on hK.below).at hs
        have hka := hK.on ((Below.refl _ wr).alloc (Nat.le_refl _) (.cells #[.int .i64 s.kind, .string (bs s.k), .string (bs s.v), .string (bs s.o)] 31))
        obtain ⟨⟨t, E, l'⟩, hd⟩ : ∃ x, doR l s.kind s.k s.v s.o = x := ⟨_, rfl⟩
        have hD := hka.do (Nat.le_refl _) s.kind s.k s.v s.o hd
        unfold opV at hD
        clear hs hka hd hK HT HF HQ
        go_wp2_with (go_at_call 11; refine hD.mono ?_; clear hD; rintro e w4 ⟨rfl, v4, hk4⟩)
        go_roundg (l0.length - (n + 1))
        case measure => omega
        case rel => exact ⟨n + 1, l', v4, by omega, by go_num, hk4⟩
end Go.Proofs.YtmkmidahfcjcgaaDoor
