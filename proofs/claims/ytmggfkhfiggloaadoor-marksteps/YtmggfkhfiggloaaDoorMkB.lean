/- What a mark's text says: the plain text, and the program's, walked. -/
import Derived.Test.YtmggfkhfiggloaaDoorMkA
namespace Go.Proofs.YtmggfkhfiggloaaDoor
open Go.RowKit
attribute [local go_sem ↓] Go.wp_at_zero Go.wp_at_succ

theorem tot_mem {l : List (List UInt8)} {t : List UInt8} (h : t ∈ l) : t.length ≤ tot l := by
  induction l with
  | nil => cases h
  | cons a l ih =>
    rw [tot_cons]
    rcases List.mem_cons.1 h with rfl | h
    · omega
    · have := ih h; omega
theorem texts_mem {s t : List UInt8} (h : t ∈ texts s) : t.length ≤ s.length := by
  unfold texts at h
  split at h
  · by_cases h0 : s = []
    · subst h0; rw [items_nil] at h; cases h
    · have := items_tot h0
      have := tot_mem h
      omega
  · cases h
theorem err_cases (s : List UInt8) : errOf s = 0 ∨ errOf s = 4 ∧ texts s = [] := by
  unfold errOf texts
  by_cases h : good s
  · rw [if_pos h]; exact .inl rfl
  · rw [if_neg h, if_neg h]; exact .inr ⟨rfl, rfl⟩
theorem err_good {s : List UInt8} (h : errOf s = 0) : good s := by
  unfold errOf at h
  split at h
  · assumption
  · cases h
theorem tnV_some {s : List UInt8} {z : Int} (h : toNumL s = some z) : tnV s = z ∧ tnE s = 0 := ⟨by rw [tnV, h]; rfl, by rw [tnE, h]; rfl⟩
theorem tnV_none {s : List UInt8} (h : toNumL s = none) : tnV s = 0 ∧ tnE s = 4 := ⟨by rw [tnV, h]; rfl, by rw [tnE, h]; rfl⟩
theorem Sl.cells4 {w : World} {v : Value} {a b c d : List UInt8} (h : Sl w v [a, b, c, d]) : ∃ g o cap, v = .slice (some ⟨g, o, none⟩) 4 cap ∧ g < w.heap.size ∧ w.cell? ⟨g, o, none⟩ = some (.string (bs a)) ∧ w.cell? ⟨g, o + 1, none⟩ = some (.string (bs b)) ∧ w.cell? ⟨g, o + 2, none⟩ = some (.string (bs c)) ∧ w.cell? ⟨g, o + 3, none⟩ = some (.string (bs d)) := by
  rcases h with ⟨h, _⟩ | ⟨g, o, cap, rfl, hlt, h⟩
  · cases h
  · exact ⟨g, o, cap, rfl, hlt, h 0 a rfl, h 1 b rfl, h 2 c rfl, h 3 d rfl⟩
theorem four_of {L : List (List UInt8)} (h : L.length = 4) : ∃ a b c d, L = [a, b, c, d] := by
  match L with
  | [] => cases h
  | [_] => cases h
  | [_, _] => cases h
  | [_, _, _] => cases h
  | [a, b, c, d] => exact ⟨a, b, c, d, rfl⟩
  | _ :: _ :: _ :: _ :: _ :: _ => simp at h

/-- What a mark's text says. -/
def rd2 : Option Int → Option Int → List UInt8 → Option (Int × Int × List UInt8)
  | some g, some n, d => if inT g n = true then some (g, n, d) else none
  | _, _, _ => none
def readT : List (List UInt8) → Option (Int × Int × List UInt8)
  | [a, b, c, d] => if a = [109, 97, 114, 107] then rd2 (toNumL b) (toNumL c) d else none
  | _ => none
def readL (s : List UInt8) : Option (Int × Int × List UInt8) := if s.length ≤ 30000 then readT (texts s) else none
def readV (s : List UInt8) : Int × Int × List UInt8 := (readL s).getD (0, 0, [])
def readE (s : List UInt8) : Int := if (readL s).isSome then 0 else 4
theorem rd2_some {o p : Option Int} {d : List UInt8} {y : Int × Int × List UInt8} (h : rd2 o p d = some y) : ∃ g n, o = some g ∧ p = some n ∧ inT g n = true ∧ y = (g, n, d) := by
  match o, p with
  | some g, some n =>
    simp only [rd2] at h
    split at h
    · rename_i hf; exact ⟨g, n, rfl, rfl, hf, (Option.some.inj h).symm⟩
    · cases h
  | none, _ => cases h
  | some _, none => cases h
theorem readT_not4 {l : List (List UInt8)} (h : l.length ≠ 4) : readT l = none := by
  unfold readT
  split
  · exact absurd rfl h
  · rfl
theorem read_none {s : List UInt8} (h : readL s = none) : readV s = (0, 0, []) ∧ readE s = 4 := ⟨by rw [readV, h]; rfl, by rw [readE, h]; rfl⟩
theorem read_some {s : List UInt8} {y : Int × Int × List UInt8} (h : readL s = some y) : readV s = y ∧ readE s = 0 := ⟨by rw [readV, h]; rfl, by rw [readE, h]; rfl⟩
theorem mark_lens {g n : Int} {d : List UInt8} (h : inT g n = true) (hd : d.length ≤ 1000000) : ∀ t ∈ [[109, 97, 114, 107], Lib.itoa g, Lib.itoa n, d], t.length ≤ 1000000000 := by
  intro t ht
  have := tot_mem ht
  have := mark_tot (st := d) h
  omega
/-- What is read is what the text is of, and back. -/
theorem readL_some {s d : List UInt8} {g n : Int} : readL s = some (g, n, d) ↔ (inT g n = true ∧ s = markT g n d ∧ s.length ≤ 30000) := by
  constructor
  · intro h
    unfold readL at h
    split at h
    · rename_i hs
      rcases err_cases s with h0 | ⟨_, h0⟩
      · unfold readT at h
        split at h
        · rename_i a b c d' hT
          split at h
          · rename_i ha
            obtain ⟨g', n', h1, h2, h3, h4⟩ := rd2_some h
            simp only [Prod.mk.injEq] at h4
            obtain ⟨rfl, rfl, rfl⟩ := h4
            refine ⟨h3, ?_, hs⟩
            rw [← pack_texts (err_good h0), hT, ha, ← toNum_back h1, ← toNum_back h2]
            rfl
          · cases h
        · cases h
      · rw [h0] at h; cases h
    · cases h
  · rintro ⟨h1, h2, h3⟩
    have hd : d.length ≤ 1000000 := by
      have : d ∈ texts (markT g n d) ∨ 1000000 < d.length := by
        by_cases hd : d.length ≤ 1000000
        · left
          rw [markT, texts_pack _ (mark_lens h1 hd)]
          simp
        · right; omega
      rcases this with h | h
      · have := texts_mem h
        rw [← h2] at this
        omega
      · exfalso
        have e : markT g n d = one [109, 97, 114, 107] ++ (one (Lib.itoa g) ++ (one (Lib.itoa n) ++ one d)) := by simp [markT, packL]
        have : d.length ≤ (markT g n d).length := by
          rw [e]
          simp only [List.length_append]
          have : d.length ≤ (one d).length := by simp only [one, List.length_append, List.length_cons, List.length_nil]; omega
          omega
        rw [← h2] at this
        omega
    rw [readL, if_pos h3, h2, markT, texts_pack _ (mark_lens h1 hd)]
    have h4 := h1
    simp only [inT, Bool.and_eq_true] at h4
    have h5 := inR_t h4.1
    have h6 := inR_t h4.2
    show (if [109, 97, 114, 107] = [109, 97, 114, 107] then rd2 (toNumL (Lib.itoa g)) (toNumL (Lib.itoa n)) d else none) = _
    rw [if_pos rfl, toNum_itoa g (by omega) (by omega), toNum_itoa n (by omega) (by omega)]
    exact if_pos h1
theorem read_four {s a b c d : List UInt8} (hT : texts s = [a, b, c, d]) (hs : s.length ≤ 30000) :
    (textE (tnV b) (tnV c) d = 0 ∧ textV (tnV b) (tnV c) d = s ∧ readV s = (tnV b, tnV c, d) ∧ readE s = 0) ∨ ((textE (tnV b) (tnV c) d ≠ 0 ∨ textV (tnV b) (tnV c) d ≠ s) ∧ readV s = (0, 0, []) ∧ readE s = 4) := by
  rcases h : readL s with _ | ⟨g, n, d'⟩
  · obtain ⟨h1, h2⟩ := read_none h
    refine .inr ⟨?_, h1, h2⟩
    by_cases h3 : textE (tnV b) (tnV c) d = 0
    · right
      intro h4
      obtain ⟨h5, _, h6⟩ := textE_zero h3
      rw [h6] at h4
      have := (readL_some (s := s) (d := d) (g := tnV b) (n := tnV c)).2 ⟨h5, h4.symm, hs⟩
      rw [this] at h
      cases h
    · exact .inl h3
  · obtain ⟨h1, h2⟩ := read_some h
    obtain ⟨h3, h4, _⟩ := readL_some.1 h
    have hd : readT (texts s) = some (g, n, d') := by
      rw [readL, if_pos hs] at h; exact h
    rw [hT] at hd
    simp only [readT] at hd
    split at hd
    · obtain ⟨g', n', e1, e2, _, e4⟩ := rd2_some hd
      simp only [Prod.mk.injEq] at e4
      obtain ⟨rfl, rfl, rfl⟩ := e4
      rw [(tnV_some e1).1, (tnV_some e2).1]
      obtain ⟨x1, x2⟩ := textE_0 (g := g) (n := n) (st := d') h3 (by rw [← h4]; exact hs)
      exact .inl ⟨x1, by rw [x2]; exact h4.symm, h1, h2⟩
    · cases hd

set_option maxRecDepth 20000 in
set_option maxHeartbeats 2000000 in
theorem Read_any (s : List UInt8) (w : World) (he : Env w) :
    Calls Tryd.prog 10 #[.string (bs s)] w fun e W' => e = .returned (.tuple #[.int .i64 (readV s).1, .int .i64 (readV s).2.1, .string (bs (readV s).2.2), .int .i64 (readE s)]) ∧ Below w.heap.size w W' := by
  have hsz : (bs s).size = s.length := bs_size s
  by_cases hs : 30000 < s.length
  · obtain ⟨h1, h2⟩ := read_none (s := s) (by rw [readL, if_neg (by omega)])
    rw [h1, h2]
    have hl2 : (30000 : Int) < (s.length : Int) := by omega
    clear h1 h2
    go_enter Tryd.func10, Tryd.ntmps10
    go_wp2
    exact bodyPost_ret (v := .tuple #[.int .i64 0, .int .i64 0, .string (bs []), .int .i64 4]) (by simp [results, Tryd.f10, go_sem, bs]) rfl ⟨rfl, Below.refl _ _⟩
  · have hs3 : s.length ≤ 30000 := by omega
    have hl2 : (s.length : Int) ≤ 30000 := by omega
    have hU := Unpack_any s w (by omega) he
    by_cases h4 : (texts s).length = 4
    · obtain ⟨a, b, c, d, hT⟩ := four_of h4
      have h0 : errOf s = 0 := by
        rcases err_cases s with h | ⟨_, h⟩
        · exact h
        · rw [h] at h4; cases h4
      have hlb := texts_mem (s := s) (t := b) (by rw [hT]; simp)
      have hlc := texts_mem (s := s) (t := c) (by rw [hT]; simp)
      have hld := texts_mem (s := s) (t := d) (by rw [hT]; simp)
      have hcase := read_four hT hs3
      obtain ⟨⟨RG, RN, RS⟩, hRV⟩ : ∃ x, readV s = x := ⟨_, rfl⟩
      obtain ⟨RE, hRE⟩ : ∃ x, readE s = x := ⟨_, rfl⟩
      obtain ⟨A, hA⟩ : ∃ x, tnV b = x := ⟨_, rfl⟩
      obtain ⟨C, hC⟩ : ∃ x, tnV c = x := ⟨_, rfl⟩
      obtain ⟨EA, hEA⟩ : ∃ x, tnE b = x := ⟨_, rfl⟩
      obtain ⟨EC, hEC⟩ : ∃ x, tnE c = x := ⟨_, rfl⟩
      have HX : Hid (∀ W, Below w.heap.size w W → Calls Tryd.prog 8 #[.int .i64 A, .int .i64 C, .string (bs d)] W fun e W' => e = .returned (.tuple #[.string (bs (textV A C d)), .int .i64 (textE A C d)]) ∧ Below w.heap.size w W') := by
        intro W hW
        refine (Text_any A C d W (by omega) (he.next hW).p).mono ?_
        rintro e W' ⟨rfl, hb⟩
        exact ⟨rfl, hW.trans (hb.mono hW.size)⟩
      rw [hRV, hRE, hA, hC] at hcase
      rw [hRV, hRE]
      obtain ⟨X, hX⟩ : ∃ x, textV A C d = x := ⟨_, rfl⟩
      obtain ⟨E, hE⟩ : ∃ x, textE A C d = x := ⟨_, rfl⟩
      rw [hX, hE] at hcase HX
      have HA : Hid (∀ W, Below w.heap.size w W → Calls Tryd.prog 31 #[.string (bs b)] W fun e W' => e = .returned (.tuple #[.int .i64 A, .int .i64 EA]) ∧ Below W.heap.size W W') := by
        intro W hW
        have := ToNum_any (bs b) W (by rw [bs_size]; omega) (he.next hW)
        rw [bs_list, hA, hEA] at this
        exact this
      have HC : Hid (∀ W, Below w.heap.size w W → Calls Tryd.prog 31 #[.string (bs c)] W fun e W' => e = .returned (.tuple #[.int .i64 C, .int .i64 EC]) ∧ Below W.heap.size W W') := by
        intro W hW
        have := ToNum_any (bs c) W (by rw [bs_size]; omega) (he.next hW)
        rw [bs_list, hC, hEC] at this
        exact this
      rw [h0, hT] at hU
      clear hRV hRE hA hC hEA hEC hX hE h0 h4 hT hlb hlc hld hs3 hs
      go_enter Tryd.func10, Tryd.ntmps10
      go_wp2_with fail
      refine hU.mono ?_
      clear hU
      rintro e w1 ⟨v, rfl, hv, hb1⟩
      obtain ⟨vb, vo, vc, rfl, hvl, c0, c1, c2, c3⟩ := (Sl.of_owns (l := [a, b, c, d]) hv).cells4
      clear hv c0
      have hTa := HA.out _ hb1
      clear HA
      go_wp2_with fail
      refine hTa.mono ?_
      clear hTa
      rintro e w2 ⟨rfl, hb2⟩
      have hB2 := hb1.trans (hb2.mono hb1.size)
      have hTc := HC.out _ hB2
      have d2 := (hb2.cell (p := ⟨vb, vo + 2, none⟩) hvl).trans c2
      have d3 := (hb2.cell (p := ⟨vb, vo + 3, none⟩) hvl).trans c3
      have hvl2 := Nat.lt_of_lt_of_le hvl hb2.size
      clear HC c1 c2 c3 hb1 hb2 hvl
      go_wp2_with fail
      refine hTc.mono ?_
      clear hTc
      rintro e w3 ⟨rfl, hb3⟩
      have hB3 := hB2.trans (hb3.mono hB2.size)
      have hTx := HX.out _ hB3
      have f3 := (hb3.cell (p := ⟨vb, vo + 3, none⟩) hvl2).trans d3
      clear HX d2 d3 hB2 hb3 hvl2
      go_wp2_with fail
      refine hTx.mono ?_
      clear hTx f3
      rintro e w4 ⟨rfl, hb4⟩
      rcases hcase with ⟨rfl, rfl, h1, rfl⟩ | ⟨hne, h1, rfl⟩
      · simp only [Prod.mk.injEq] at h1
        obtain ⟨rfl, rfl, rfl⟩ := h1
        have hss := str_same X
        go_wp2
        exact bodyPost_ret (v := .tuple #[.int .i64 RG, .int .i64 RN, .string (bs RS), .int .i64 0]) (by simp [results, Tryd.f10, go_sem]) rfl ⟨rfl, hb4⟩
      · simp only [Prod.mk.injEq] at h1
        obtain ⟨rfl, rfl, rfl⟩ := h1
        by_cases hE0 : E = 0
        · subst hE0
          have hss := str_other (a := X) (b := s) (by rcases hne with h | h; exact absurd rfl h; exact h)
          clear hne
          go_wp2
          exact bodyPost_ret (v := .tuple #[.int .i64 0, .int .i64 0, .string (bs []), .int .i64 4]) (by simp [results, Tryd.f10, go_sem, bs]) rfl ⟨rfl, hb4⟩
        · have hE1 : (E != 0) = true := by simpa using hE0
          clear hne hE0
          go_wp2
          exact bodyPost_ret (v := .tuple #[.int .i64 0, .int .i64 0, .string (bs []), .int .i64 4]) (by simp [results, Tryd.f10, go_sem, bs]) rfl ⟨rfl, hb4⟩
    · obtain ⟨h1, h2⟩ := read_none (s := s) (by rw [readL, if_pos hs3, readT_not4 h4])
      rw [h1, h2]
      have hcase : (errOf s = 0 ∧ (((texts s).length : Int) == 4) = false) ∨ (errOf s = 4) := by
        rcases err_cases s with h | ⟨h, _⟩
        · exact .inl ⟨h, by simp; omega⟩
        · exact .inr h
      obtain ⟨ES, hES⟩ : ∃ x, errOf s = x := ⟨_, rfl⟩
      rw [hES] at hU hcase
      obtain ⟨L, hL⟩ : ∃ L, texts s = L := ⟨_, rfl⟩
      rw [hL] at hU hcase
      clear hES hL h4 h1 h2 hs hs3
      go_enter Tryd.func10, Tryd.ntmps10
      go_wp2_with fail
      refine hU.mono ?_
      clear hU
      rintro e w1 ⟨v, rfl, hv, hb1⟩
      obtain ⟨va, vc, rfl⟩ := (Sl.of_owns hv).slice
      clear hv
      rcases hcase with ⟨rfl, hne⟩ | rfl
      all_goals
        go_wp2
        exact bodyPost_ret (v := .tuple #[.int .i64 0, .int .i64 0, .string (bs []), .int .i64 4]) (by simp [results, Tryd.f10, go_sem, bs]) rfl ⟨rfl, hb1⟩
end Go.Proofs.YtmggfkhfiggloaaDoor
