import Derived.Test.YtielknegifbmpaaDoorNsM
namespace Go.Proofs.YtielknegifbmpaaDoor
open Go.RowKit
attribute [local go_sem ↓] Go.wp_at_zero Go.wp_at_succ

theorem tn_len {s : List UInt8} {z : Int} (h : toNumL s = some z) : 1 ≤ (digs s).length ∧ (digs s).length ≤ 19 := by
  obtain ⟨h0, h1⟩ := toNum_range h
  rw [← toNum_back h, digs_itoa]
  exact dec_len19 h0 h1
theorem tn_dig {s : List UInt8} {z : Int} (h : toNumL s = some z) : ∀ c ∈ digs s, 48 ≤ c.toNat ∧ c.toNat ≤ 57 := by
  rw [← toNum_back h, digs_itoa]
  exact dec_digit _
theorem tn_val {s : List UInt8} {z : Int} (h : toNumL s = some z) : dval (digs s) = z.natAbs := by
  rw [← toNum_back h, digs_itoa, dval_dec]
theorem tn_sign {s : List UInt8} {z : Int} (h : toNumL s = some z) : (digs s).length = s.length ↔ 0 ≤ z := by
  have := digs_len_itoa z
  rw [toNum_back h] at this
  exact this
/-- What is left of a text's number, summed up from below. -/
def Part (s : List UInt8) (x : Int) (i : Nat) : Prop := ∀ z, toNumL s = some z → x = -(dval ((digs s).take i) : Int)
theorem part_zero (s : List UInt8) : Part s 0 0 := fun z _ => by simp [dval]
theorem part_fits {s : List UInt8} {x : Int} {i : Nat} {c : UInt8} (h : Part s x i) (hc : (digs s)[i]? = some c) {z : Int} (hz : toNumL s = some z) :
    10 * x - ((c.toNat : Int) - 48) = -(dval ((digs s).take (i + 1)) : Int) ∧ -9223372036854775808 ≤ 10 * x - ((c.toNat : Int) - 48) ∧ 10 * x - ((c.toNat : Int) - 48) ≤ 0 ∧ x ≤ 0 ∧ -9223372036854775808 ≤ 10 * x := by
  have hd := tn_dig hz c (List.mem_of_getElem? hc)
  have hx := h z hz
  have hs := dval_take _ i c hc
  have hm := dval_mono (digs s) (i + 1)
  rw [tn_val hz] at hm
  obtain ⟨h0, h1⟩ := toNum_range hz
  omega
theorem tn_none_of_len {s : List UInt8} (h : (digs s).length < 1 ∨ 19 < (digs s).length) : toNumL s = none := by
  cases hz : toNumL s with
  | none => rfl
  | some z => have := tn_len hz; omega
theorem tn_none_of_dig {s : List UInt8} {i : Nat} {c : UInt8} (hc : (digs s)[i]? = some c) (h : c.toNat < 48 ∨ 57 < c.toNat) : toNumL s = none := by
  cases hz : toNumL s with
  | none => rfl
  | some z => have := tn_dig hz c (List.mem_of_getElem? hc); omega
theorem tnV_none {s : List UInt8} (h : toNumL s = none) : tnV s = 0 ∧ tnE s = 4 := by simp [tnV, tnE, h]
theorem tnV_some {s : List UInt8} {z : Int} (h : toNumL s = some z) : tnV s = z ∧ tnE s = 0 := by simp [tnV, tnE, h]
def numOf : Value → Nat
  | .int _ i => i.toNat
  | _ => 0

theorem wrap_in (y : Int) : -9223372036854775808 ≤ wrap64 y ∧ wrap64 y ≤ 9223372036854775807 := by
  unfold wrap64
  omega
theorem wrap_id {y : Int} (h0 : -9223372036854775808 ≤ y) (h1 : y ≤ 9223372036854775807) : wrap64 y = y := by
  unfold wrap64
  omega
theorem part_next {s : List UInt8} {x : Int} {i : Nat} {c : UInt8} (h : Part s x i) (hc : (digs s)[i]? = some c) : Part s (wrap64 (wrap64 (10 * x) - ((c.toNat : Int) - 48))) (i + 1) := by
  intro z hz
  obtain ⟨h1, h2, h3, h4, h5⟩ := part_fits h hc hz
  rw [wrap_id (y := 10 * x) (by omega) (by omega), wrap_id (by omega) (by omega)]
  exact h1
theorem tn_end2 {s : List UInt8} {x : Int} (h : Part s x (digs s).length) (hn : (digs s).length = s.length) (hne : ¬ Lib.itoa (wrap64 (-x)) = s) : toNumL s = none := by
  cases hz : toNumL s with
  | none => rfl
  | some z =>
    have hx := h z hz
    rw [List.take_length, tn_val hz] at hx
    have hs := (tn_sign hz).1 hn
    have hr := toNum_range hz
    have : wrap64 (-x) = z := by rw [wrap_id (by omega) (by omega)]; omega
    exact absurd (by rw [this]; exact toNum_back hz) hne
theorem tn_end1 {s : List UInt8} {x : Int} (h : Part s x (digs s).length) (hn : ¬ (digs s).length = s.length) (hne : ¬ Lib.itoa x = s) : toNumL s = none := by
  cases hz : toNumL s with
  | none => rfl
  | some z =>
    have hx := h z hz
    rw [List.take_length, tn_val hz] at hx
    have hs := tn_sign hz
    have : x = z := by omega
    exact absurd (by rw [this]; exact toNum_back hz) hne
theorem head_of (s : ByteArray) (h : 0 < s.size) : s.data.toList.head? = some s[0] := by
  rw [List.head?_eq_getElem?]; exact byte_at s 0 h
theorem digs_plain (s : ByteArray) (h : 0 < s.size) (hb : ((s[0].toNat : Int) == 45) = false) : digs s.data.toList = s.data.toList := by
  unfold digs
  rw [if_neg]
  rw [head_of s h]
  intro hh
  injection hh with hh
  rw [hh] at hb
  exact absurd hb (by decide)
theorem digs_dash (s : ByteArray) (h : 0 < s.size) (hb : ((s[0].toNat : Int) == 45) = true) : digs s.data.toList = (s.extract 1 s.size).data.toList := by
  have e : s[0] = 45 := by
    have : (s[0].toNat : Int) = 45 := by simpa using hb
    apply UInt8.toNat_inj.1
    show s[0].toNat = 45
    omega
  unfold digs
  rw [if_pos (by rw [head_of s h, e]), extract_list, ← size_list, List.take_length]

set_option maxRecDepth 20000 in
set_option maxHeartbeats 1000000 in
theorem rToNum_plain (s : ByteArray) (w : World) (hs : s.size ≤ 281474976710656) (hpos : 0 < s.size) (hx0 : ((s[0].toNat : Int) == 45) = false) :
    Calls Tryd.prog 24 #[.string s] w fun e w' => e = .returned (.tuple #[.int .i64 (tnV s.data.toList), .int .i64 (tnE s.data.toList)]) ∧ Below w.heap.size w w' := by
  have hdg := digs_plain s hpos hx0
  have hdl : (digs s.data.toList).length = s.size := by rw [hdg, size_list]
  obtain ⟨A, hA⟩ : ∃ A, tnV s.data.toList = A := ⟨_, rfl⟩
  obtain ⟨B, hB⟩ : ∃ B, tnE s.data.toList = B := ⟨_, rfl⟩
  rw [hA, hB]
  by_cases hlen : 19 < s.size
  · obtain ⟨e1, e2⟩ := tnV_none (tn_none_of_len (s := s.data.toList) (by omega))
    clear hdg hdl
    rw [hA] at e1
    rw [hB] at e2
    clear hA hB
    subst e1 e2
    go_enter Tryd.func24, Tryd.ntmps24
    go_wp2
    go_ret2
    exact ⟨rfl, Below.refl _ _⟩
  · have hdg : Hid (digs s.data.toList = s.data.toList) := hdg
    have hdl : Hid ((digs s.data.toList).length = s.size) := hdl
    go_enter Tryd.func24, Tryd.ntmps24
    go_wp2
    go_loopw [5, 6] (fun n i wr => ∃ (x : Int) (k : Nat), n = .int .i64 x ∧ i = .int .i64 k ∧ k ≤ s.size ∧ -9223372036854775808 ≤ x ∧ x ≤ 9223372036854775807 ∧ Part s.data.toList x k ∧ Below w.heap.size w wr)
      (fun _ i _ => s.size - numOf i)
    case atStart => exact ⟨0, 0, rfl, rfl, Nat.zero_le _, by omega, by omega, part_zero _, Below.refl _ _⟩
    case round =>
      obtain ⟨x, k, rfl, rfl, hk, hx1, hx2, hP, hBe⟩ := hrel
      by_cases hk1 : k = s.size
      · subst hk1
        obtain ⟨y0, y1⟩ := wrap_in (-x)
        obtain ⟨y, hy⟩ : ∃ y, wrap64 (-x) = y := ⟨_, rfl⟩
        rw [hy] at y0 y1
        have hend : Hid (¬ Lib.itoa y = s.data.toList → toNumL s.data.toList = none) := by
          intro hne
          rw [← hy] at hne
          exact tn_end2 (by rw [hdl.out]; exact hP) (by rw [hdl.out, size_list]) hne
        clear hP
        go_wp2_with fail
        refine (rNum_any y wr y0 y1).mono ?_
        rintro e w2 ⟨rfl, hb2⟩
        have hBB := hBe.trans (hb2.mono hBe.size)
        by_cases hc : bs (Lib.itoa y) = s
        · have hz := toNum_itoa y y0 y1
          rw [show Lib.itoa y = s.data.toList by rw [← hc, bs_list]] at hz
          obtain ⟨e1, e2⟩ := tnV_some hz
          rw [hA] at e1
          rw [hB] at e2
          clear hA hB hz hend
          subst e1 e2
          go_wp2
          go_ret2
          exact ⟨by first | rfl | (rw [← hy]; rfl), hBB⟩
        · have hq := str_ne hc
          obtain ⟨e1, e2⟩ := tnV_none (hend.out fun h => hc (by rw [h, bs_data]))
          rw [hA] at e1
          rw [hB] at e2
          clear hA hB hend
          subst e1 e2
          go_wp2
          go_ret2
          exact ⟨rfl, hBB⟩
      · have hk2 : k < s.size := by omega
        have hat : (digs s.data.toList)[k]? = some s[k] := by rw [hdg.out]; exact byte_at s k hk2
        by_cases hc1 : s[k].toNat < 48
        · obtain ⟨e1, e2⟩ := tnV_none (tn_none_of_dig hat (.inl hc1))
          rw [hA] at e1
          rw [hB] at e2
          clear hA hB hat
          subst e1 e2
          go_wp2
          go_ret2
          exact ⟨rfl, hBe⟩
        · by_cases hc2 : 57 < s[k].toNat
          · obtain ⟨e1, e2⟩ := tnV_none (tn_none_of_dig hat (.inr hc2))
            rw [hA] at e1
            rw [hB] at e2
            clear hA hB hat
            subst e1 e2
            go_wp2
            go_ret2
            exact ⟨rfl, hBe⟩
          · have hP2 := part_next hP hat
            clear hat hP
            go_wp2
            go_roundw
            case rel => exact ⟨_, k + 1, rfl, by rw [Int.natCast_succ], hk2, (wrap_in _).1, (wrap_in _).2, hP2, hBe⟩
            case measure => simp only [numOf]; omega
set_option maxRecDepth 20000 in
set_option maxHeartbeats 1000000 in
theorem rToNum_dash (s : ByteArray) (w : World) (hs : s.size ≤ 281474976710656) (hpos : 0 < s.size) (hx0 : ((s[0].toNat : Int) == 45) = true) :
    Calls Tryd.prog 24 #[.string s] w fun e w' => e = .returned (.tuple #[.int .i64 (tnV s.data.toList), .int .i64 (tnE s.data.toList)]) ∧ Below w.heap.size w w' := by
  have hdg := digs_dash s hpos hx0
  have hdz : (s.extract 1 s.size).size = s.size - 1 := by rw [ByteArray.size_extract]; omega
  obtain ⟨d, hd⟩ : ∃ d, s.extract 1 s.size = d := ⟨_, rfl⟩
  rw [hd] at hdg hdz
  have hdl : (digs s.data.toList).length = d.size := by rw [hdg, size_list]
  obtain ⟨A, hA⟩ : ∃ A, tnV s.data.toList = A := ⟨_, rfl⟩
  obtain ⟨B, hB⟩ : ∃ B, tnE s.data.toList = B := ⟨_, rfl⟩
  rw [hA, hB]
  by_cases hlen : d.size < 1 ∨ 19 < d.size
  · obtain ⟨e1, e2⟩ := tnV_none (tn_none_of_len (s := s.data.toList) (by omega))
    clear hdg hdl
    rw [hA] at e1
    rw [hB] at e2
    clear hA hB
    subst e1 e2
    go_enter Tryd.func24, Tryd.ntmps24
    go_wp2
    all_goals go_ret2
    all_goals exact ⟨rfl, Below.refl _ _⟩
  · have hdg : Hid (digs s.data.toList = d.data.toList) := hdg
    have hdl : Hid ((digs s.data.toList).length = d.size) := hdl
    go_enter Tryd.func24, Tryd.ntmps24
    go_wp2
    go_loopw [5, 6] (fun n i wr => ∃ (x : Int) (k : Nat), n = .int .i64 x ∧ i = .int .i64 k ∧ k ≤ d.size ∧ -9223372036854775808 ≤ x ∧ x ≤ 9223372036854775807 ∧ Part s.data.toList x k ∧ Below w.heap.size w wr)
      (fun _ i _ => d.size - numOf i)
    case atStart => exact ⟨0, 0, rfl, rfl, Nat.zero_le _, by omega, by omega, part_zero _, Below.refl _ _⟩
    case round =>
      obtain ⟨x, k, rfl, rfl, hk, hx1, hx2, hP, hBe⟩ := hrel
      by_cases hk1 : k = d.size
      · subst hk1
        have hend : Hid (¬ Lib.itoa x = s.data.toList → toNumL s.data.toList = none) := by
          intro hne
          exact tn_end1 (by rw [hdl.out]; exact hP) (by rw [hdl.out, size_list]; omega) hne
        clear hP
        go_wp2_with fail
        refine (rNum_any x wr hx1 hx2).mono ?_
        rintro e w2 ⟨rfl, hb2⟩
        have hBB := hBe.trans (hb2.mono hBe.size)
        by_cases hc : bs (Lib.itoa x) = s
        · have hz := toNum_itoa x hx1 hx2
          rw [show Lib.itoa x = s.data.toList by rw [← hc, bs_list]] at hz
          obtain ⟨e1, e2⟩ := tnV_some hz
          rw [hA] at e1
          rw [hB] at e2
          clear hA hB hz hend
          subst e1 e2
          go_wp2
          go_ret2
          exact ⟨rfl, hBB⟩
        · have hq := str_ne hc
          obtain ⟨e1, e2⟩ := tnV_none (hend.out fun h => hc (by rw [h, bs_data]))
          rw [hA] at e1
          rw [hB] at e2
          clear hA hB hend
          subst e1 e2
          go_wp2
          go_ret2
          exact ⟨rfl, hBB⟩
      · have hk2 : k < d.size := by omega
        have hat : (digs s.data.toList)[k]? = some d[k] := by rw [hdg.out]; exact byte_at d k hk2
        by_cases hc1 : d[k].toNat < 48
        · obtain ⟨e1, e2⟩ := tnV_none (tn_none_of_dig hat (.inl hc1))
          rw [hA] at e1
          rw [hB] at e2
          clear hA hB hat
          subst e1 e2
          go_wp2
          go_ret2
          exact ⟨rfl, hBe⟩
        · by_cases hc2 : 57 < d[k].toNat
          · obtain ⟨e1, e2⟩ := tnV_none (tn_none_of_dig hat (.inr hc2))
            rw [hA] at e1
            rw [hB] at e2
            clear hA hB hat
            subst e1 e2
            go_wp2
            go_ret2
            exact ⟨rfl, hBe⟩
          · have hP2 := part_next hP hat
            clear hat hP
            go_wp2
            go_roundw
            case rel => exact ⟨_, k + 1, rfl, by rw [Int.natCast_succ], hk2, (wrap_in _).1, (wrap_in _).2, hP2, hBe⟩
            case measure => simp only [numOf]; omega

theorem tn_nil : toNumL [] = none := tn_none_of_len (.inl (by decide))
set_option maxRecDepth 20000 in
theorem rToNum_any (s : ByteArray) (w : World) (hs : s.size ≤ 281474976710656) :
    Calls Tryd.prog 24 #[.string s] w fun e w' => e = .returned (.tuple #[.int .i64 (tnV s.data.toList), .int .i64 (tnE s.data.toList)]) ∧ Below w.heap.size w w' := by
  by_cases hpos : 0 < s.size
  · cases hx : ((s[0].toNat : Int) == 45) with
    | false => exact rToNum_plain s w hs hpos hx
    | true => exact rToNum_dash s w hs hpos hx
  · have h0 : s.size = 0 := by omega
    have hn : s.data.toList = [] := List.length_eq_zero_iff.1 (by rw [size_list, h0])
    obtain ⟨e1, e2⟩ := tnV_none tn_nil
    rw [hn, e1, e2]
    clear e1 e2 hn
    go_enter Tryd.func24, Tryd.ntmps24
    go_wp2
    go_ret2
    exact ⟨rfl, Below.refl _ _⟩
end Go.Proofs.YtielknegifbmpaaDoor
