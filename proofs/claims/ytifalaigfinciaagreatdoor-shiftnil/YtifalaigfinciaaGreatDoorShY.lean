/- A change's bytes: the plain text, and the program's, walked. -/
import Derived.Test.YtifalaigfinciaaGreatDoorShX
namespace Go.Proofs.YtifalaigfinciaaGreatDoor
open Go.RowKit
attribute [local go_sem ↓] Go.wp_at_zero Go.wp_at_succ

/-- v is a slice of just these entries, five cells each, in a block below n, and so are their tags. -/
def Ml (n : Nat) (w : World) (v : Value) (l : List Bq) : Prop :=
  (l = [] ∧ ∃ a c, v = .slice a 0 c) ∨ ∃ b o cap, v = .slice (some ⟨b, o, none⟩) l.length cap ∧ b < n ∧ ∀ (i : Nat) x, l[i]? = some x → ∃ ta tc, w.cell? ⟨b, o + i * 5, none⟩ = some (.int .i64 x.n) ∧ w.cell? ⟨b, o + i * 5 + 1, none⟩ = some (.int .i64 x.v) ∧ w.cell? ⟨b, o + i * 5 + 2, none⟩ = some (.string (bs x.x)) ∧ w.cell? ⟨b, o + i * 5 + 3, none⟩ = some (.int .i64 x.g) ∧ w.cell? ⟨b, o + i * 5 + 4, none⟩ = some (.slice ta x.T.length tc) ∧ Tl w (.slice ta x.T.length tc) x.T
theorem Ml.slice {n : Nat} {w : World} {v : Value} {l : List Bq} (h : Ml n w v l) : ∃ a c, v = .slice a l.length c := by
  rcases h with ⟨rfl, a, c, rfl⟩ | ⟨b, o, cap, rfl, _⟩
  · exact ⟨a, c, rfl⟩
  · exact ⟨_, _, rfl⟩
theorem Ml.below {w w' : World} {v : Value} {l : List Bq} (h : Ml w.heap.size w v l) (hb : Below w.heap.size w w') : Ml w.heap.size w' v l := by
  rcases h with h | ⟨b, o, cap, rfl, hlt, h⟩
  · exact .inl h
  · refine .inr ⟨b, o, cap, rfl, hlt, fun i x hx => ?_⟩
    obtain ⟨ta, tc, h0, h1, h2, h3, h4, h5⟩ := h i x hx
    exact ⟨ta, tc, (hb.cell (p := ⟨b, o + i * 5, none⟩) hlt).trans h0, (hb.cell (p := ⟨b, o + i * 5 + 1, none⟩) hlt).trans h1, (hb.cell (p := ⟨b, o + i * 5 + 2, none⟩) hlt).trans h2, (hb.cell (p := ⟨b, o + i * 5 + 3, none⟩) hlt).trans h3, (hb.cell (p := ⟨b, o + i * 5 + 4, none⟩) hlt).trans h4, h5.below hb (Nat.le_refl _)⟩
theorem Ml.cells {n : Nat} {w : World} {a : Option Addr} {cap : Nat} {l : List Bq} (h : Ml n w (.slice a l.length cap) l) {k : Nat} {x : Bq} (hx : l[k]? = some x) : ∃ b o ta tc, a = some ⟨b, o, none⟩ ∧ b < n ∧ w.cell? ⟨b, o + k * 5, none⟩ = some (.int .i64 x.n) ∧ w.cell? ⟨b, o + k * 5 + 1, none⟩ = some (.int .i64 x.v) ∧ w.cell? ⟨b, o + k * 5 + 2, none⟩ = some (.string (bs x.x)) ∧ w.cell? ⟨b, o + k * 5 + 3, none⟩ = some (.int .i64 x.g) ∧ w.cell? ⟨b, o + k * 5 + 4, none⟩ = some (.slice ta x.T.length tc) ∧ Tl w (.slice ta x.T.length tc) x.T := by
  rcases h with ⟨rfl, _⟩ | ⟨b, o, cap', h1, hlt, h⟩
  · cases hx
  · injection h1 with h1
    obtain ⟨ta, tc, h⟩ := h k x hx
    exact ⟨b, o, ta, tc, h1, hlt, h⟩
/-- What an entry's numbers and lengths are within. -/
structure Bq.Ok (b : Bq) : Prop where
  n : wf64 b.n
  v : wf64 b.v
  x : b.x.length ≤ 200000
  T : b.T.length ≤ 140737488355328
def firstF : List Bq → Int
  | [] => 0
  | b :: r => if faultL b.g b.T ≠ 0 then faultL b.g b.T else firstF r
def sizedB (c : Bq) (k : Nat) : Bool := inR c.n 1 1099511627776 && (inR c.v 0 1099511627776 && decide (k ≤ 8))
def shT (l : List Bq) : List (List UInt8) := l.flatMap entT
def shE (c : Bq) (l : List Bq) : Int := if sizedB c l.length = false then 1 else firstF (c :: l)
def shV (c : Bq) (l : List Bq) : List UInt8 := if shE c l = 0 then packL (shT (c :: l)) else []
theorem shT_len (l : List Bq) : (shT l).length = 3 * l.length := by
  induction l with
  | nil => rfl
  | cons b l ih => simp only [shT, List.flatMap_cons, List.length_append, List.length_cons] at ih ⊢; rw [ih]; simp only [entT, List.length_cons, List.length_nil]; omega
theorem shT_snoc (l : List Bq) (b : Bq) : shT (l ++ [b]) = shT l ++ entT b := by simp [shT]
theorem encV_len {x : List UInt8} {g : Int} {l : List Tg} (hx : x.length ≤ 500000) : (encV x g l).length ≤ 1001000 := by
  unfold encV
  split
  · rename_i h
    obtain ⟨h1, h2⟩ := enc_tot x g l hx h
    have := pack_len (encL x g l) (by omega)
    omega
  · simp
theorem itoa_wf {n : Int} (h : wf64 n) : (Lib.itoa n).length ≤ 21 := by
  obtain ⟨h0, h1⟩ := h
  unfold Lib.itoa
  split
  · rename_i hn
    have : (Lib.decDigits n.natAbs).length ≤ 20 := by rw [decDigits_len]; exact nDigits_le 19 _ (by omega)
    simp only [List.length_cons]
    omega
  · have : (Lib.decDigits n.toNat).length ≤ 20 := by rw [decDigits_len]; exact nDigits_le 19 _ (by omega)
    omega
theorem ent_tot {b : Bq} (h : b.Ok) : tot (entT b) ≤ 1002000 := by
  have h1 := itoa_wf h.n
  have h2 := itoa_wf h.v
  have h3 := encV_len (g := b.g) (l := b.T) (x := b.x) (by have := h.x; omega)
  simp [entT, tot]
  omega
theorem shT_tot : ∀ (l : List Bq), (∀ b ∈ l, b.Ok) → tot (shT l) ≤ 1002000 * l.length
  | [], _ => by simp [shT, tot]
  | b :: l, h => by
    have h1 := ent_tot (h b (by simp))
    have h2 := shT_tot l (fun c hc => h c (by simp [hc]))
    have e : shT (b :: l) = entT b ++ shT l := rfl
    rw [e, tot_append, List.length_cons]
    omega
theorem first_drop {l : List Bq} {k : Nat} {b : Bq} (h : l[k]? = some b) : firstF (l.drop k) = if faultL b.g b.T ≠ 0 then faultL b.g b.T else firstF (l.drop (k + 1)) := by
  have hk := (List.getElem?_eq_some_iff.1 h).1
  rw [List.drop_eq_getElem_cons hk]
  have e : l[k] = b := by rw [List.getElem?_eq_getElem hk] at h; injection h
  rw [e]
  rfl
theorem shE_1 {c : Bq} {l : List Bq} (h : sizedB c l.length = false) : shE c l = 1 ∧ shV c l = [] := by
  have e : shE c l = 1 := if_pos h
  exact ⟨e, by rw [shV, e]; rfl⟩
theorem shE_f {c : Bq} {l : List Bq} (h : sizedB c l.length = true) {F : Int} (hF : firstF (c :: l) = F) : shE c l = F ∧ (F ≠ 0 → shV c l = []) ∧ (F = 0 → shV c l = packL (shT (c :: l))) := by
  have e : shE c l = F := by rw [shE, if_neg (by simp [h])]; exact hF
  exact ⟨e, fun hn => by rw [shV, e, if_neg hn], fun hz => by rw [shV, e, if_pos hz]⟩

set_option maxRecDepth 20000 in
set_option maxHeartbeats 2000000 in
theorem shEncode_any (c : Bq) (l : List Bq) (mu bu : Value) (w : World) (hc : c.Ok) (hl : ∀ b ∈ l, b.Ok) (he : EnvP w) (hm : Tl w mu c.T) (hb : Ml w.heap.size w bu l) :
    Calls Tryz.prog 10 #[.agg #[.int .i64 c.n, .int .i64 c.v, .string (bs c.x), .int .i64 c.g, mu, bu]] w fun e W' => e = .returned (.tuple #[.string (bs (shV c l)), .int .i64 (shE c l)]) ∧ Below w.heap.size w W' := by
  obtain ⟨ma, mc, rfl⟩ := hm.slice
  obtain ⟨ba, bc, rfl⟩ := hb.slice
  have hba := (Below.refl w.heap.size w).alloc (Nat.le_refl _) (.cells #[.int .i64 c.n, .int .i64 c.v, .string (bs c.x), .int .i64 c.g, .slice ma c.T.length mc, .slice ba l.length bc] 27)
  cases hsz : sizedB c l.length
  · obtain ⟨e1, e2⟩ := shE_1 hsz
    rw [e1, e2]
    have hcs : inR c.n 1 1099511627776 = false ∨ (inR c.n 1 1099511627776 = true ∧ (inR c.v 0 1099511627776 = false ∨ (inR c.v 0 1099511627776 = true ∧ (8 : Int) < (l.length : Int)))) := by
      unfold sizedB at hsz
      cases h1 : inR c.n 1 1099511627776 <;> cases h2 : inR c.v 0 1099511627776 <;> simp_all
      omega
    have HB : Hid (_) := hba
    clear e1 e2 hsz hba hc hl he hm hb
    obtain ⟨cn, cv, cx, cg, cT⟩ := c
    simp only at hcs HB ⊢
    rcases hcs with h1 | ⟨h1, h2 | ⟨h2, h3⟩⟩
    all_goals
      go_enter Tryz.func10, Tryz.ntmps10
      go_wp2_with (first | (go_at_call 9; refine (within_any _ _ _ _).mono ?_; rintro e w1 ⟨rfl, h9⟩; replace h9 := h9.symm; subst h9))
      exact bodyPost_ret (v := .tuple #[.string (bs []), .int .i64 1]) (by simp [results, Tryz.f10, go_sem, bs]) rfl ⟨rfl, HB.out⟩
  · have hsz2 := hsz
    simp only [sizedB, Bool.and_eq_true, decide_eq_true_eq] at hsz2
    obtain ⟨h1, h2, hl8⟩ := hsz2
    have hl8i : (l.length : Int) ≤ 8 := by omega
    obtain ⟨FF, hFF⟩ : ∃ F, firstF (c :: l) = F := ⟨_, rfl⟩
    obtain ⟨r1, r2, r3⟩ := shE_f hsz hFF
    rw [r1]
    obtain ⟨SV, hSV⟩ : ∃ S, shV c l = S := ⟨_, rfl⟩
    rw [hSV] at r2 r3 ⊢
    have HR2 : Hid (_) := r2
    have HR3 : Hid (_) := r3
    have hall : ∀ b ∈ c :: l, b.Ok := fun b hb => by rcases List.mem_cons.1 hb with rfl | hb; exact hc; exact hl b hb
    have HTot : Hid (tot (shT (c :: l)) + 22 * (shT (c :: l)).length ≤ 140737488355328) := by
      have h3 := shT_tot (c :: l) hall
      have h4 := shT_len (c :: l)
      simp only [List.length_cons] at h3 h4
      show _ ≤ _
      omega
    have rP := heap_alloc_new w (.cells #[.int .i64 c.n, .int .i64 c.v, .string (bs c.x), .int .i64 c.g, .slice ma c.T.length mc, .slice ba l.length bc] 27)
    obtain ⟨W0, hW0⟩ : ∃ W, w.alloc (.cells #[.int .i64 c.n, .int .i64 c.v, .string (bs c.x), .int .i64 c.g, .slice ma c.T.length mc, .slice ba l.length bc] 27) = W := ⟨_, rfl⟩
    have HW : Hid (w.alloc (.cells #[.int .i64 c.n, .int .i64 c.v, .string (bs c.x), .int .i64 c.g, .slice ma c.T.length mc, .slice ba l.length bc] 27) = W0) := hW0
    rw [hW0] at rP hba
    have hlP := (Array.getElem?_eq_some_iff.1 rP).1
    have HM : Hid (∀ W, Below w.heap.size w W → Ml w.heap.size W (.slice ba l.length bc) l) := fun W hW => hb.below hW
    have HEn : Hid (∀ W, Below w.heap.size w W → EnvP W) := fun W hW => he.next hW
    have hE0 := entry_any W0.heap.size (.slice none 0 0) [] c (.slice ma c.T.length mc) W0 (by have := hc.x; omega) hc.T hc.n hc.v (by simp) (he.next hba) (Nat.le_refl _) (World.ownsRow_nil _ _ _ _) (hm.below hba (Nat.le_refl _))
    have HOk : Hid (∀ b ∈ l, b.Ok) := hl
    have k0 := cellB rP 0 _ rfl
    have k1 := cellB rP 1 _ rfl
    have k2 := cellB rP 2 _ rfl
    have k3 := cellB rP 3 _ rfl
    have k4 := cellB rP 4 _ rfl
    have k5 := cellB rP 5 _ rfl
    have hFd : FF = if faultL c.g c.T ≠ 0 then faultL c.g c.T else firstF l := hFF.symm
    have HFd : Hid (_) := hFd
    have HBa : Hid (_) := hba
    clear hFF r1 r2 r3 hSV hall hW0 hb he hm hc hl hsz hFd hba rP
    go_enter Tryz.func10, Tryz.ntmps10
    go_upto_region 1 with fail
    rw [HW.out]
    clear HW
    go_upto_region 3 with (first | (go_at_call 9; refine (within_any _ _ _ _).mono ?_; rintro e w1 ⟨rfl, h9⟩; replace h9 := h9.symm; subst h9))
    go_upto_region 4 with (first | (go_at_call 17; refine hE0.mono ?_; clear hE0; rintro e w1 (⟨hf, rfl, hb1⟩ | ⟨hf, v1, rfl, ho1, hb1⟩)))
    · have hv : FF = faultL c.g c.T := by have := HFd.out; rw [if_pos hf] at this; exact this
      have hq : (faultL c.g c.T != 0) = true := by simpa using hf
      have hsv := HR2.out (by rw [hv]; exact hf)
      have HVS : Hid (SV = [] ∧ FF = faultL c.g c.T) := ⟨hsv, hv⟩
      clear hv hsv hf
      go_wp2
      exact bodyPost_ret (v := .tuple #[.string (bs []), .int .i64 (faultL c.g c.T)]) (by simp [results, Tryz.f10, go_sem, bs]) rfl ⟨by rw [HVS.out.1, HVS.out.2], HBa.out.trans (hb1.mono HBa.out.size)⟩
    · have hv : FF = firstF l := by have := HFd.out; rw [if_neg (by simpa using hf)] at this; exact this
      have HV : Hid (FF = firstF l) := hv
      obtain ⟨a1, c1, rfl⟩ := owns_slice ho1
      have k5b := (hb1.cell (p := ⟨w.heap.size, 5, none⟩) hlP).trans k5
      have HO1 : Hid (w1.ownsRow W0.heap.size 9 1 (.slice a1 ([].length + 3) c1) ([].length + 3) (strs (shT [c]))) := ho1
      have HB1 : Hid (_) := hb1
      have hbs : w.heap.size ≤ W0.heap.size := HBa.out.size
      have HB1w : Hid (Below w.heap.size w w1) := HBa.out.trans (hb1.mono hbs)
      clear hv hf HFd ho1 k0 k1 k2 k3 k4 k5
      go_wp2
      go_loopw [4, 40] (fun u p wr => ∃ k : Nat, p = .int .i64 k ∧ k ≤ l.length ∧ Hid (wr.ownsRow W0.heap.size 9 1 u (shT (c :: l.take k)).length (strs (shT (c :: l.take k)))) ∧ Hid (FF = firstF (l.drop k)) ∧ Below W0.heap.size W0 wr)
        (fun _ p _ => l.length - (intOf p).toNat)
      case atStart => exact ⟨0, rfl, Nat.zero_le _, HO1.out, HV.out, HB1.out⟩
      case round =>
        obtain ⟨k, rfl, hk, HO, HF, hB⟩ := hrel
        obtain ⟨n3, hn3⟩ : ∃ n, (shT (c :: l.take k)).length = n := ⟨_, rfl⟩
        have ho := HO.out
        rw [hn3] at ho
        obtain ⟨ua, uc, rfl⟩ := owns_slice ho
        have HN3 : Hid ((shT (c :: l.take k)).length = n3) := hn3
        clear ho hn3
        have hBw : Below w.heap.size w wr := HBa.out.trans (hB.mono hbs)
        by_cases hk1 : k = l.length
        · subst hk1
          have hFz : FF = 0 := by have := HF.out; rw [List.drop_length] at this; exact this
          have hsv := HR3.out hFz
          have hPk := Pack_wide (shT (c :: l)) (.slice ua n3 uc) wr HTot.out (HEn.out _ hBw) (by have := Sl.of_owns HO.out; rw [List.take_length] at this; exact this)
          rw [← hsv] at hPk
          have HZ : Hid (FF = 0) := hFz
          clear hFz hsv
          go_wp2_with (first | (go_at_call 18; refine hPk.mono ?_; clear hPk; rintro e w3 ⟨rfl, hb3⟩))
          exact bodyPost_ret (v := .tuple #[.string (bs SV), .int .i64 0]) (by simp [results, Tryz.f10, go_sem]) rfl ⟨by rw [HZ.out], hBw.trans (hb3.mono hBw.size)⟩
        · have hk2 : k < l.length := by omega
          obtain ⟨b, hb⟩ : ∃ b, l[k]? = some b := ⟨_, List.getElem?_eq_getElem hk2⟩
          have hok := HOk.out b (List.mem_of_getElem? hb)
          have hfd := first_drop hb
          have htk : c :: l.take (k + 1) = (c :: l.take k) ++ [b] := by rw [List.take_add_one, hb]; rfl
          obtain ⟨vb, vo, ta, tc, rfl, hvl, d0, d1, d2, d3, d4, hT⟩ := (HM.out _ hBw).cells hb
          have hba2 := (Below.refl wr.heap.size wr).alloc (Nat.le_refl _) (.cells #[.int .i64 b.n, .int .i64 b.v, .string (bs b.x), .int .i64 b.g, .slice ta b.T.length tc] 34)
          have hlt3 : (shT (c :: l.take k)).length ≤ 1000 := by rw [shT_len]; simp; omega
          have hEk := entry_any W0.heap.size (.slice ua n3 uc) (shT (c :: l.take k)) b (.slice ta b.T.length tc) (wr.alloc (.cells #[.int .i64 b.n, .int .i64 b.v, .string (bs b.x), .int .i64 b.g, .slice ta b.T.length tc] 34)) (by have := hok.x; omega) hok.T hok.n hok.v hlt3 (HEn.out _ (hBw.trans (hba2.mono hBw.size))) (Nat.le_trans hB.size hba2.size) (own_kept HO.out hba2) (hT.below hba2 (Nat.le_refl _))
          obtain ⟨FL, hFL⟩ : ∃ x, faultL b.g b.T = x := ⟨_, rfl⟩
          rw [hFL] at hEk hfd
          rw [HN3.out] at hEk
          have HFD : Hid (_) := hfd
          have HTK : Hid (_) := htk
          have hB2 := hB.alloc hB.size (.cells #[.int .i64 b.n, .int .i64 b.v, .string (bs b.x), .int .i64 b.g, .slice ta b.T.length tc] 34)
          have HB2 : Hid (_) := hB2
          have HBL : Hid (W0.heap.size ≤ (wr.alloc (.cells #[.int .i64 b.n, .int .i64 b.v, .string (bs b.x), .int .i64 b.g, .slice ta b.T.length tc] 34)).heap.size) := hB2.size
          clear hfd htk hFL hok hT hba2 hB2 hb hlt3
          go_upto_region 10 with (first | (go_at_call 17; refine hEk.mono ?_; clear hEk; rintro e w4 (⟨hf, rfl, hb4⟩ | ⟨hf, v4, rfl, ho4, hb4⟩)))
          · have hq : (FL != 0) = true := by simpa using hf
            have hv2 : FF = FL := by have h5 := HF.out; have h6 := HFD.out; rw [if_pos hf] at h6; rw [h5, h6]
            have HVS : Hid (SV = [] ∧ FF = FL) := ⟨HR2.out (by rw [hv2]; exact hf), hv2⟩
            have HBE : Hid (_) := HBa.out.trans ((HB2.out.trans (hb4.mono HBL.out)).mono hbs)
            clear hf hv2 hb4
            go_wp2
            exact bodyPost_ret (v := .tuple #[.string (bs []), .int .i64 FL]) (by simp [results, Tryz.f10, go_sem, bs]) rfl ⟨by rw [HVS.out.1, HVS.out.2], HBE.out⟩
          · subst hf
            have hv2 : FF = firstF (l.drop (k + 1)) := by have h5 := HF.out; have h6 := HFD.out; rw [if_neg (by simp)] at h6; rw [h5, h6]
            have HV2 : Hid (_) := hv2
            have HB4 : Hid (_) := HB2.out.trans hb4
            have HO4 : Hid (_) := ho4
            obtain ⟨a4, c4, rfl⟩ := owns_slice ho4
            clear hv2 hb4 ho4
            go_wp2
            go_roundw
            case rel =>
              refine ⟨_, _, _, _, _, _, _, _, _, _, _, _, _, _, _, _, _, _, _, _, _, _, _, _, ⟨k + 1, by go_num, hk2, ?_, HV2.out, HB4.out⟩, rfl⟩
              have h7 := HO4.out
              rw [← shT_snoc, ← HTK.out] at h7
              have h8 : n3 + 3 = (shT (c :: l.take (k + 1))).length := by rw [← HN3.out, shT_len, shT_len]; simp; omega
              rw [← h8]
              exact h7
            case measure => simp [intOf]; omega
end Go.Proofs.YtifalaigfinciaaGreatDoor
