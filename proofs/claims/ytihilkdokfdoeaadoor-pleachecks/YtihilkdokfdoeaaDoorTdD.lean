/- The document's table: Do, walked. -/
import Derived.Test.YtihilkdokfdoeaaDoorTdA
import Derived.Test.YtihilkdokfdoeaaDoorTdC
namespace Go.Proofs.YtihilkdokfdoeaaDoor
open Go.RowKit
attribute [local go_sem ↓] Go.wp_at_zero Go.wp_at_succ

theorem Tryd.info117 : (Tryd.prog.info? 117).map (fun i => (i.zero, i.size, i.bytes)) = some (some (.agg #[.string ⟨#[]⟩, .string ⟨#[]⟩]), 2, 32) := by kernel_rfl
theorem RefPost.from {w w1 W' : World} {B q : Nat} {u : Value} {L' : List Rw} (hb : Below w.heap.size w w1) (hB : B < w.heap.size) (h : RefPost w1 B q u L' W') : RefPost w B q u L' W' := by
  obtain ⟨u', h1, h2, h3⟩ := h
  refine ⟨u', h1, fun x hx => ?_, Mr.after hb hB h3⟩
  rcases h2 x hx with e | e
  · exact .inl e
  · exact .inr (Nat.le_trans hb.size e)
theorem rdo_bad {L : List Rw} {kind : Int} {k v o : List UInt8} (h : chk kind k v o ≠ 0) : rdoL L kind k v o = ([], chk kind k v o, L) := by rw [rdoL, if_pos h]
theorem rdo_ok {L : List Rw} {kind : Int} {k v o : List UInt8} {x : Option (List UInt8)} (h : chk kind k v o = 0) (hx : val? L k = x) : rdoL L kind k v o = ((tells x L.length kind v o).1, (tells x L.length kind v o).2, if (tells x L.length kind v o).2 ≠ 0 ∨ kind = 1 then L else if kind = 4 then rDel L k else rPut L k (now x kind v)) := by
  subst hx
  rw [rdoL, if_neg (by simp [h])]
theorem nil_app (v : List UInt8) : (⟨#[]⟩ : ByteArray) ++ bs v = bs v := bs_app [] v
theorem set_len (L : List Rw) (i : Nat) (r : Rw) : (L.set i r).length = L.length := by simp
/-- A value is put into its row. -/
theorem ref_set {w : World} {B q : Nat} {L : List Rw} {g c : Nat} (h : RfAt w B q L (.slice (some ⟨g, 0, none⟩) L.length c)) {i : Nat} {k u : List UInt8} (hi : L[i]? = some (k, u)) {v : List UInt8} (hv : v.length ≤ 64) :
    RefPost w B q (.slice (some ⟨g, 0, none⟩) L.length c) (L.set i (k, v)) (w.setCell ⟨g, i * 2 + 1, none⟩ (.string (bs v))) := by
  obtain ⟨s1, s2⟩ := h.rows.stored (i * 2 + 1) (.string (bs v))
  have hgB : g ≠ B := h.own g rfl
  have hBk : (w.setCell ⟨g, i * 2 + 1, none⟩ (.string (bs v))).heap[B]? = w.heap[B]? := set_far hgB.symm _ _
  refine ⟨_, ⟨(World.cell?_of_block (w := w) (a := ⟨B, q, none⟩) hBk).trans h.cell, (World.frozen?_of_block (w := w) (a := ⟨B, q, none⟩) hBk).trans h.fz, ?_, h.own, by simpa using h.len, fun r hr => ?_⟩, fun _ hq => .inl hq, s2.os, s2.tape, s2.output, s2.size, fun x hx _ hu => s2.block x hx (fun e => hu e.symm), fun j _ => World.cell?_of_block (w := w) (a := ⟨B, j, none⟩) hBk, fun j => World.frozen?_of_block (w := w) (a := ⟨B, j, none⟩) hBk⟩
  · rw [rcs_set hi, set_len]
    exact s1
  · rcases List.mem_or_eq_of_mem_set hr with hr | rfl
    · exact h.val r hr
    · exact hv
/-- The operation's box, and all that stood ahead. -/
abbrev Bx (kind : Int) (k v o : List UInt8) : Obj := .cells #[.int .i64 kind, .string (bs k), .string (bs v), .string (bs o)] 41
set_option maxRecDepth 20000 in
set_option maxHeartbeats 4000000 in
theorem rDo_bad {w : World} {B q : Nat} {L : List Rw} {u : Value} (h : RfAt w B q L u) (kind : Int) (k vl od : List UInt8) (h0 : chk kind k vl od ≠ 0) : Calls Tryd.prog 40 #[.pointer (some ⟨B, q, none⟩), opV kind k vl od] w fun e W' => e = .returned (.tuple #[.string (bs []), .int .i64 (chk kind k vl od)]) ∧ RefPost w B q u L W' := by
  have hb1 : Below w.heap.size w (w.alloc (Bx kind k vl od)) := (Below.refl _ _).alloc (Nat.le_refl _) _
  have hop := heap_alloc_new w (Bx kind k vl od)
  have hC := rCheck_any kind k vl od (w.alloc (Bx kind k vl od))
  have HQ : Hid (∀ W, Below (w.alloc (Bx kind k vl od)).heap.size (w.alloc (Bx kind k vl od)) W → W.heap[w.heap.size]? = some (Bx kind k vl od) ∧ Below w.heap.size w W) :=
    fun W hb => ⟨(hb.block _ (by simp)).trans hop, hb1.trans (hb.mono hb1.size)⟩
  have HD : Hid (∀ W, Below w.heap.size w W → RefPost w B q u L W) := fun W hb => RefPost.same h hb
  obtain ⟨C, hC0⟩ : ∃ C, chk kind k vl od = C := ⟨_, rfl⟩
  rw [hC0] at hC h0
  rw [hC0]
  have hne : (C != 0) = true := by simpa using h0
  clear hC0 h hb1 hop
  unfold Bx at hC HQ
  go_enter Tryd.func40, Tryd.ntmps40
  go_wp2_with (go_at_call 39; refine hC.mono ?_; rintro e w1 ⟨rfl, hb⟩; obtain ⟨hq, hB⟩ := HQ.out _ hb)
  exact bodyPost_ret (v := .tuple #[.string (bs []), .int .i64 C]) (by simp [results, Tryd.f40, go_sem, bs]) rfl ⟨rfl, HD.out _ hB⟩
set_option maxRecDepth 20000 in
set_option maxHeartbeats 4000000 in
theorem rDo_none {w : World} {B q : Nat} {L : List Rw} {u : Value} (h : RfAt w B q L u) (kind : Int) (k vl od : List UInt8) (h0 : chk kind k vl od = 0) (hn : atI L k = -1) (hv : val? L k = none) (hp : ∀ v, rPut L k v = L ++ [(k, v)]) : Calls Tryd.prog 40 #[.pointer (some ⟨B, q, none⟩), opV kind k vl od] w fun e W' =>
    e = .returned (.tuple #[.string (bs (rdoL L kind k vl od).1), .int .i64 (rdoL L kind k vl od).2.1]) ∧ RefPost w B q u (rdoL L kind k vl od).2.2 W' := by
  have hb1 : Below w.heap.size w (w.alloc (Bx kind k vl od)) := (Below.refl _ _).alloc (Nat.le_refl _) _
  have hop := heap_alloc_new w (Bx kind k vl od)
  have hC := rCheck_any kind k vl od (w.alloc (Bx kind k vl od))
  have HQ : Hid (∀ W, Below (w.alloc (Bx kind k vl od)).heap.size (w.alloc (Bx kind k vl od)) W → W.heap[w.heap.size]? = some (Bx kind k vl od) ∧ Below w.heap.size w W) :=
    fun W hb => ⟨(hb.block _ (by simp)).trans hop, hb1.trans (hb.mono hb1.size)⟩
  obtain ⟨c1, c5, ck, cv, co⟩ := chk_zero h0
  have hvl : vl.length ≤ 64 := by simpa [isV] using cv
  have hlen := h.len
  have hlt := h.lt
  rw [h0] at hC
  have HA : Hid (∀ W, Below w.heap.size w W → Calls Tryd.prog 48 #[.pointer (some ⟨B, q, none⟩), .string (bs k)] W fun e W' => e = .returned (.int .i64 (atI L k)) ∧ Below W.heap.size W W') := fun W hb => at_any (h.on hb) k
  rw [hn] at HA
  obtain ⟨ua, uc, rfl⟩ := owns_slice h.rows
  have HR : Hid (∀ W, Below w.heap.size w W → RfAt W B q L (.slice ua L.length uc)) := fun W hb => h.on hb
  have HD : Hid (∀ W, Below w.heap.size w W → RefPost w B q (.slice ua L.length uc) L W) := fun W hb => RefPost.same h hb
  rw [rdo_ok h0 hv]
  unfold Bx at hC HQ
  clear hb1 hop h0 hv hn cv co h
  by_cases h23 : kind = 2 ∨ kind = 3
  · by_cases h16 : 16 ≤ L.length
    · have ht : tells none L.length kind vl od = ([], 5) := by rw [tells, if_neg (by omega), if_pos h16]
      rw [ht, if_pos (.inl (by decide))]
      have hd16 : (16 : Int) ≤ (L.length : Int) := by omega
      clear ht hp
      rcases h23 with rfl | rfl
      all_goals
        go_enter Tryd.func40, Tryd.ntmps40
        go_wp2_with (first
          | (go_at_call 39; refine hC.mono ?_; clear hC; rintro e w2 ⟨rfl, hb⟩; obtain ⟨hq, hB⟩ := HQ.out _ hb; have q1 := cellB hq 1 _ rfl; have hA := HA.out _ hB; clear HA hb)
          | (go_at_call 48; refine hA.mono ?_; clear hA; rintro e w3 ⟨rfl, hb3⟩; have hq3 := (hb3.block _ (Array.getElem?_eq_some_iff.1 hq).1).trans hq; have r0 := cellB hq3 0 _ rfl; have r1 := cellB hq3 1 _ rfl; have r2 := cellB hq3 2 _ rfl; have r3 := cellB hq3 3 _ rfl; have hB3 := hB.trans (hb3.mono hB.size); have c3 := (HR.out _ hB3).cell; have hlq := (Array.getElem?_eq_some_iff.1 hq3).1; clear hb3 hB hq hq3 q1))
        exact bodyPost_ret (v := .tuple #[.string (bs []), .int .i64 5]) (by simp [results, Tryd.f40, go_sem, bs]) rfl ⟨rfl, HD.out _ hB3⟩
    · have hd16 : (L.length : Int) < 16 := by omega
      obtain ⟨T, hT⟩ : ∃ T, (if kind = 2 then [] else vl) = T := ⟨_, rfl⟩
      have ht : tells none L.length kind vl od = (T, 0) := by rw [tells, if_neg (by omega), if_neg h16, hT]
      have hnow : now none kind vl = vl := by unfold now; split <;> rfl
      rw [ht, hnow, if_neg (by omega), if_neg (by omega), hp]
      have happ := nil_app vl
      have hsv : (bs vl).size = vl.length := bs_size vl
      clear ht hp hnow
      obtain ⟨i0, hi, hz0, hz1, hz2⟩ := info_parts Tryd.info117
      have hml : L.length + 1 ≤ maxLen := by unfold maxLen; omega
      have hkb : (L.length + 1) * 32 ≤ 140737488355328 := by omega
      obtain ⟨X, hX⟩ : ∃ X, rcs L = X := ⟨_, rfl⟩
      have HX : Hid (rcs (L ++ [(k, vl)]) = X ++ [.string (bs k), .string (bs vl)]) := by
        show _ = _
        rw [rcs_append, hX]
        rfl
      have HXX : Hid (rcs L = X) := hX
      clear hX
      rcases h23 with rfl | rfl
      · rw [if_pos rfl] at hT
        subst hT
        go_enter Tryd.func40, Tryd.ntmps40
        go_upto_region 19 with (first
          | (go_at_call 39; refine hC.mono ?_; clear hC; rintro e w2 ⟨rfl, hb⟩; obtain ⟨hq, hB⟩ := HQ.out _ hb; have q1 := cellB hq 1 _ rfl; have hA := HA.out _ hB; clear HA hb)
          | (go_at_call 48; refine hA.mono ?_; clear hA; rintro e w3 ⟨rfl, hb3⟩; have hq3 := (hb3.block _ (Array.getElem?_eq_some_iff.1 hq).1).trans hq; have r0 := cellB hq3 0 _ rfl; have r1 := cellB hq3 1 _ rfl; have r2 := cellB hq3 2 _ rfl; have r3 := cellB hq3 3 _ rfl; have hB3 := hB.trans (hb3.mono hB.size); have hR3 := HR.out _ hB3; have c3 := hR3.cell; have hlq := (Array.getElem?_eq_some_iff.1 hq3).1; clear hb3 hB hq hq3 q1))
        have hown5 := hR3.rows
        rw [HXX.out] at hown5
        have hlt3 := hR3.lt
        have hs3 := hB3.size
        have HR3 : Hid (RfAt w3 B q L (.slice ua L.length uc)) := hR3
        have HB3 : Hid (Below w.heap.size w w3) := hB3
        have hown6 : (w3.alloc (.cells #[.string (bs k), .string (bs vl)] 117)).drew.ownsRow 0 117 2 (.slice ua L.length uc) L.length X := hown5.alloc (.cells #[.string (bs k), .string (bs vl)] 117)
        have hba : Below w3.heap.size w3 (w3.alloc (.cells #[.string (bs k), .string (bs vl)] 117)) := (Below.refl _ _).alloc (Nat.le_refl _) _
        have x6 : (w3.alloc (.cells #[.string (bs k), .string (bs vl)] 117)).cell? ⟨B, q, none⟩ = some (.slice ua L.length uc) := (hba.cell (p := ⟨B, q, none⟩) hlt3).trans c3
        have hcn : ∀ j x, [Value.string (bs k), .string (bs vl)][j]? = some x → (w3.alloc (.cells #[.string (bs k), .string (bs vl)] 117)).drew.cell? ((⟨w3.heap.size, 0, none⟩ : Addr).add j) = some x := World.news_of_block (w := (w3.alloc (.cells #[.string (bs k), .string (bs vl)] 117)).drew) (heap_alloc_new w3 (.cells #[.string (bs k), .string (bs vl)] 117))
        have hne : some B ≠ (Value.slice ua L.length uc).ownBlock := fun e => hR3.own B e.symm rfl
        have hfz6 : (w3.alloc (.cells #[.string (bs k), .string (bs vl)] 117)).drew.frozen? ⟨B, q, none⟩ = false := (hba.frozen (p := ⟨B, q, none⟩) hlt3).trans hR3.fz
        have hcd : B < (w3.alloc (.cells #[.string (bs k), .string (bs vl)] 117)).drew.heap.size := by show B < (w3.alloc (.cells #[.string (bs k), .string (bs vl)] 117)).heap.size; rw [World.size_alloc]; omega
        have HBA : Hid (Below w3.heap.size w3 (w3.alloc (.cells #[.string (bs k), .string (bs vl)] 117)).drew) := below_drew hba
        have HO6 : Hid (∀ z, (Value.slice ua L.length uc).ownBlock = some z → z < w3.heap.size) := fun z hz => (hown5.lt z hz).2
        clear hown5 hR3 hB3 hba
        go_region_law (first | (refine step_append_lies _ (by rfl) _ _ 90 (by rfl) 0 117 i0 (.agg #[.string ⟨#[]⟩, .string ⟨#[]⟩]) 2 32 Tryd.underlying90 hi hz0 hz1 hz2 rfl (by decide) _ L.length X (by rfl) hown6 ⟨w3.heap.size, 0, none⟩ 1 1 [.string (bs k), .string (bs vl)] (by rfl) rfl hcn (by simp [Value.oneCell']) (by decide) hml hkb (Nat.zero_le _) _ rfl ?_; intro ga ca w6 hown7 hgrow hat hlt6; have f2 := (hgrow.frozen_far ⟨B, q, none⟩ hcd hne).trans hfz6; have s2 := (hgrow.cell_far ⟨B, q, none⟩ hcd hne).trans (show (w3.alloc (.cells #[.string (bs k), .string (bs vl)] 117)).drew.cell? ⟨B, q, none⟩ = _ from x6)))
        all_goals
          have HE : Hid (RefPost w B q (.slice ua L.length uc) (L ++ [(k, vl)]) (w6.setCell ⟨B, q, none⟩ (.slice (some ⟨ga, 0, none⟩) (L.length + 1) ca))) := by
            refine RefPost.from HB3.out hlt (ref_end HR3.out ⟨Nat.le_trans HBA.out.size hgrow.size, hgrow.os.trans HBA.out.os, hgrow.tape.trans HBA.out.tape, hgrow.output.trans HBA.out.output⟩ (fun x hx hu => (hgrow.block x (Nat.lt_of_lt_of_le hx HBA.out.size) (fun e => hu e.symm)).trans (HBA.out.block x hx)) ?_ (fun z hz => ?_) (by rw [List.length_append]; show L.length + 1 ≤ 16; omega) (fun r hr => ?_))
            · rw [HX.out, List.length_append]
              exact hown7
            · cases hz
              rcases hat with e | e
              · exact .inl e
              · right
                rw [e]
                exact HBA.out.size
            · rcases List.mem_append.1 hr with hr | hr
              · exact HR3.out.val r hr
              · rw [List.mem_singleton.1 hr]
                exact hvl
          clear hown7 hgrow hat
          go_wp2
          exact bodyPost_ret (v := .tuple #[.string (bs []), .int .i64 0]) (by simp [results, Tryd.f40, go_sem, bs]) rfl ⟨rfl, HE.out⟩
      · rw [if_neg (by decide)] at hT
        subst hT
        go_enter Tryd.func40, Tryd.ntmps40
        go_upto_region 19 with (first
          | (go_at_call 39; refine hC.mono ?_; clear hC; rintro e w2 ⟨rfl, hb⟩; obtain ⟨hq, hB⟩ := HQ.out _ hb; have q1 := cellB hq 1 _ rfl; have hA := HA.out _ hB; clear HA hb)
          | (go_at_call 48; refine hA.mono ?_; clear hA; rintro e w3 ⟨rfl, hb3⟩; have hq3 := (hb3.block _ (Array.getElem?_eq_some_iff.1 hq).1).trans hq; have r0 := cellB hq3 0 _ rfl; have r1 := cellB hq3 1 _ rfl; have r2 := cellB hq3 2 _ rfl; have r3 := cellB hq3 3 _ rfl; have hB3 := hB.trans (hb3.mono hB.size); have hR3 := HR.out _ hB3; have c3 := hR3.cell; have hlq := (Array.getElem?_eq_some_iff.1 hq3).1; clear hb3 hB hq hq3 q1))
        have hown5 := hR3.rows
        rw [HXX.out] at hown5
        have hlt3 := hR3.lt
        have hs3 := hB3.size
        have HR3 : Hid (RfAt w3 B q L (.slice ua L.length uc)) := hR3
        have HB3 : Hid (Below w.heap.size w w3) := hB3
        have hown6 : (w3.alloc (.cells #[.string (bs k), .string (bs vl)] 117)).drew.ownsRow 0 117 2 (.slice ua L.length uc) L.length X := hown5.alloc (.cells #[.string (bs k), .string (bs vl)] 117)
        have hba : Below w3.heap.size w3 (w3.alloc (.cells #[.string (bs k), .string (bs vl)] 117)) := (Below.refl _ _).alloc (Nat.le_refl _) _
        have x6 : (w3.alloc (.cells #[.string (bs k), .string (bs vl)] 117)).cell? ⟨B, q, none⟩ = some (.slice ua L.length uc) := (hba.cell (p := ⟨B, q, none⟩) hlt3).trans c3
        have hcn : ∀ j x, [Value.string (bs k), .string (bs vl)][j]? = some x → (w3.alloc (.cells #[.string (bs k), .string (bs vl)] 117)).drew.cell? ((⟨w3.heap.size, 0, none⟩ : Addr).add j) = some x := World.news_of_block (w := (w3.alloc (.cells #[.string (bs k), .string (bs vl)] 117)).drew) (heap_alloc_new w3 (.cells #[.string (bs k), .string (bs vl)] 117))
        have hne : some B ≠ (Value.slice ua L.length uc).ownBlock := fun e => hR3.own B e.symm rfl
        have hfz6 : (w3.alloc (.cells #[.string (bs k), .string (bs vl)] 117)).drew.frozen? ⟨B, q, none⟩ = false := (hba.frozen (p := ⟨B, q, none⟩) hlt3).trans hR3.fz
        have hcd : B < (w3.alloc (.cells #[.string (bs k), .string (bs vl)] 117)).drew.heap.size := by show B < (w3.alloc (.cells #[.string (bs k), .string (bs vl)] 117)).heap.size; rw [World.size_alloc]; omega
        have HBA : Hid (Below w3.heap.size w3 (w3.alloc (.cells #[.string (bs k), .string (bs vl)] 117)).drew) := below_drew hba
        have HO6 : Hid (∀ z, (Value.slice ua L.length uc).ownBlock = some z → z < w3.heap.size) := fun z hz => (hown5.lt z hz).2
        clear hown5 hR3 hB3 hba
        go_region_law (first | (refine step_append_lies _ (by rfl) _ _ 90 (by rfl) 0 117 i0 (.agg #[.string ⟨#[]⟩, .string ⟨#[]⟩]) 2 32 Tryd.underlying90 hi hz0 hz1 hz2 rfl (by decide) _ L.length X (by rfl) hown6 ⟨w3.heap.size, 0, none⟩ 1 1 [.string (bs k), .string (bs vl)] (by rfl) rfl hcn (by simp [Value.oneCell']) (by decide) hml hkb (Nat.zero_le _) _ rfl ?_; intro ga ca w6 hown7 hgrow hat hlt6; have f2 := (hgrow.frozen_far ⟨B, q, none⟩ hcd hne).trans hfz6; have s2 := (hgrow.cell_far ⟨B, q, none⟩ hcd hne).trans (show (w3.alloc (.cells #[.string (bs k), .string (bs vl)] 117)).drew.cell? ⟨B, q, none⟩ = _ from x6)))
        all_goals
          have HE : Hid (RefPost w B q (.slice ua L.length uc) (L ++ [(k, vl)]) (w6.setCell ⟨B, q, none⟩ (.slice (some ⟨ga, 0, none⟩) (L.length + 1) ca))) := by
            refine RefPost.from HB3.out hlt (ref_end HR3.out ⟨Nat.le_trans HBA.out.size hgrow.size, hgrow.os.trans HBA.out.os, hgrow.tape.trans HBA.out.tape, hgrow.output.trans HBA.out.output⟩ (fun x hx hu => (hgrow.block x (Nat.lt_of_lt_of_le hx HBA.out.size) (fun e => hu e.symm)).trans (HBA.out.block x hx)) ?_ (fun z hz => ?_) (by rw [List.length_append]; show L.length + 1 ≤ 16; omega) (fun r hr => ?_))
            · rw [HX.out, List.length_append]
              exact hown7
            · cases hz
              rcases hat with e | e
              · exact .inl e
              · right
                rw [e]
                exact HBA.out.size
            · rcases List.mem_append.1 hr with hr | hr
              · exact HR3.out.val r hr
              · rw [List.mem_singleton.1 hr]
                exact hvl
          clear hown7 hgrow hat
          go_wp2
          exact bodyPost_ret (v := .tuple #[.string (bs vl), .int .i64 0]) (by simp [results, Tryd.f40, go_sem]) rfl ⟨rfl, HE.out⟩
  · have ht : tells none L.length kind vl od = ([], 6) := by rw [tells, if_pos (by omega)]
    rw [ht, if_pos (.inl (by decide))]
    clear ht hp
    obtain rfl | rfl | rfl : kind = 1 ∨ kind = 4 ∨ kind = 5 := by omega
    all_goals
      go_enter Tryd.func40, Tryd.ntmps40
      go_wp2_with (first
        | (go_at_call 39; refine hC.mono ?_; clear hC; rintro e w2 ⟨rfl, hb⟩; obtain ⟨hq, hB⟩ := HQ.out _ hb; have q1 := cellB hq 1 _ rfl; have hA := HA.out _ hB; clear HA hb)
        | (go_at_call 48; refine hA.mono ?_; clear hA; rintro e w3 ⟨rfl, hb3⟩; have hq3 := (hb3.block _ (Array.getElem?_eq_some_iff.1 hq).1).trans hq; have r0 := cellB hq3 0 _ rfl; have r1 := cellB hq3 1 _ rfl; have r2 := cellB hq3 2 _ rfl; have r3 := cellB hq3 3 _ rfl; have hB3 := hB.trans (hb3.mono hB.size); have c3 := (HR.out _ hB3).cell; have hlq := (Array.getElem?_eq_some_iff.1 hq3).1; clear hb3 hB hq hq3 q1))
      exact bodyPost_ret (v := .tuple #[.string (bs []), .int .i64 6]) (by simp [results, Tryd.f40, go_sem, bs]) rfl ⟨rfl, HD.out _ hB3⟩
end Go.Proofs.YtihilkdokfdoeaaDoor
