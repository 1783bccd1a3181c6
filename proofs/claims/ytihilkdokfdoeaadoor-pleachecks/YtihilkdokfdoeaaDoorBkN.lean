import Derived.Test.YtihilkdokfdoeaaDoorBkM
import Derived.Deep.AppendLies
import Derived.OwnWalk
namespace Go.Proofs.YtihilkdokfdoeaaDoor
open Go.RowKit
attribute [local go_sem ↓] Go.wp_at_zero Go.wp_at_succ
theorem Tryd.info3 : (Tryd.prog.info? 3).map (fun i => (i.zero, i.size, i.bytes)) = some (some (.int .i64 0), 1, 8) := by kernel_rfl

/-- Word i of a block's bytes. -/
def wd (l : List UInt8) (i : Nat) : Int := bt l (4 * i) + 256 * bt l (4 * i + 1) + 65536 * bt l (4 * i + 2) + 16777216 * bt l (4 * i + 3)
def mTo (l : List UInt8) (k : Nat) : List Int := (List.range k).map (wd l)
theorem mTo_len (l : List UInt8) (k : Nat) : (mTo l k).length = k := by simp [mTo]
theorem mTo_succ (l : List UInt8) (k : Nat) : cellsOf .i64 (mTo l (k + 1)) = cellsOf .i64 (mTo l k) ++ [.int .i64 (wd l k)] := by
  simp [cellsOf, mTo, List.range_succ]
theorem bt_bd (l : List UInt8) (k : Nat) : 0 ≤ bt l k ∧ bt l k ≤ 255 := by
  unfold bt
  have := (l.getD k 0).toNat_lt
  constructor <;> omega
theorem Holds.ofOwns {w : World} {base g n cap : Nat} {k : IntKind} {e : TypeId} {v : List Int} (h : w.ownsRow base e 1 (.slice (some ⟨g, 0, none⟩) n cap) n (cellsOf k v)) : Holds w g k n v ∧ g < w.heap.size ∧ base ≤ g := by
  obtain ⟨hl, h⟩ := h
  rcases h with ⟨h, _⟩ | ⟨g', cap', cur, hv, hb, hh, h1, h2, h3, h4⟩
  · cases h
  · cases hv
    have hn : v.length = n := by simpa [cellsOf] using hl
    have hlt : g < w.heap.size := by
      by_cases hb : g < w.heap.size
      · exact hb
      · simp [Array.getElem?_eq_none (Nat.le_of_not_lt hb)] at hh
    refine ⟨⟨hn, fun i i0 i1 => ?_, fun i i0 i1 => ?_⟩, hlt, hb⟩
    · have hi : i.toNat < v.length := by omega
      have e1 : cur.toList[i.toNat]? = some (.int k (gv v i)) := by
        have := congrArg (·[i.toNat]?) h4
        simp only [Nat.mul_one] at this
        rw [List.getElem?_take_of_lt (by omega)] at this
        rw [this]
        simp [cellsOf, gv, List.getElem?_eq_getElem hi]
      unfold World.cell?
      simp only [hh]
      simpa using e1
    · unfold World.frozen?
      simp only [hh]
      simp
      try omega

theorem wrap_id8 (x : Int) (h0 : -9223372036854775808 ≤ x) (h1 : x ≤ 9223372036854775807) : IntKind.i64.wrap x = x := by
  simp [IntKind.wrap, IntKind.bits, IntKind.signed]; omega
theorem own_ge {w : World} {base n : Nat} {e : TypeId} {s : Nat} {v : Value} {xs : List Value} (h : w.ownsRow base e s v n xs) : ∀ k, v.ownBlock = some k → base ≤ k := by
  intro k hk
  rcases h.2 with ⟨rfl, _⟩ | ⟨g, cap, cur, rfl, hg, _⟩
  · simp [Value.ownBlock] at hk
  · simp only [Value.ownBlock, Option.some.injEq] at hk
    omega
theorem Holds.news {w : World} {B : Nat} {k : IntKind} {n : Nat} {v : List Int} (h : Holds w B k n v) : ∀ j u, (cellsOf k v)[j]? = some u → w.cell? ((⟨B, 0, none⟩ : Addr).add j) = some u := fun j u hu => by
  rw [Addr.add_mid]; exact h.range j u hu
theorem one_cells (k : IntKind) (v : List Int) : ∀ u ∈ cellsOf k v, u.oneCell' = true := by
  intro x hx
  simp [cellsOf] at hx
  obtain ⟨a, _, rfl⟩ := hx
  rfl
theorem Holds.grown {w w' : World} {B : Nat} {k : IntKind} {n : Nat} {v : List Int} {row : Option Nat} (h : Holds w B k n v) (hg : w.grownBy w' row) (hB : B < w.heap.size) (hne : some B ≠ row) : Holds w' B k n v :=
  ⟨h.len, fun i i0 i1 => (World.cell?_of_block (w := w) (a := ⟨B, i.toNat, none⟩) (hg.block B hB hne)).trans (h.cell i i0 i1), fun i i0 i1 => (World.frozen?_of_block (w := w) (a := ⟨B, i.toNat, none⟩) (hg.block B hB hne)).trans (h.free i i0 i1)⟩
theorem grown_of_below8 {w w' : World} (h : Below w.heap.size w w') : w.grownBy w' none := ⟨h.os, h.tape, h.output, h.size, fun k hk _ => h.block k hk⟩
theorem init_cells (h : List Int) : cellsOf .i64 (initV h) = ([] ++ cellsOf .i64 h) ++ cellsOf .i64 ivL := by simp [cellsOf, initV]
theorem iv_wd : Wds ivL := by
  intro i
  by_cases hi : i.toNat < 8
  · have : ∀ j < 8, 0 ≤ ivL.getD j 0 ∧ ivL.getD j 0 < 4294967296 := by decide
    exact this i.toNat hi
  · unfold gv
    rw [List.getD_eq_getElem?_getD, List.getElem?_eq_none (by have : ivL.length = 8 := rfl; omega)]
    exact ⟨by decide, by decide⟩
theorem Wds.append {a b : List Int} (ha : Wds a) (hb : Wds b) : Wds (a ++ b) := by
  intro i
  unfold gv
  rw [List.getD_eq_getElem?_getD, List.getElem?_append]
  split
  · have := ha i; unfold gv at this; rw [List.getD_eq_getElem?_getD] at this; exact this
  · have := hb ((i.toNat - a.length : Nat) : Int); unfold gv at this; rw [List.getD_eq_getElem?_getD, Int.toNat_natCast] at this; exact this
theorem Wds.init {h : List Int} (hw : Wds h) : Wds (initV h) := hw.append iv_wd
theorem Wds.tag {v : List Int} (h : Wds v) (t : Int) (last : Bool) (ht : Wd (t / 4294967296)) : Wds (tagV v t last) := by
  unfold tagV
  have h1 := (h.put 12 _ (xor_wd _ _ (h 12) (mod_wd t))).put 13 _ (xor_wd _ _ (h 13) ht)
  cases last
  · exact h1
  · exact h1.put 14 _ (by rw [not32 _ (h 14)]; obtain ⟨a, b⟩ := h 14; exact ⟨by omega, by omega⟩)
theorem Wds.rounds {v : List Int} (h : Wds v) (m : List Int) : ∀ k, Wds (roundsTo v m k)
  | 0 => h
  | k + 1 => (Wds.rounds h m k).roundL m _
theorem wd_wd (l : List UInt8) (i : Nat) : Wd (wd l i) := by
  unfold wd
  obtain ⟨a, b⟩ := bt_bd l (4 * i); obtain ⟨c, d⟩ := bt_bd l (4 * i + 1); obtain ⟨e, f⟩ := bt_bd l (4 * i + 2); obtain ⟨g, h⟩ := bt_bd l (4 * i + 3)
  exact ⟨by omega, by omega⟩
theorem mTo_wd (l : List UInt8) : Wds (mTo l 16) := by
  intro i
  unfold gv mTo
  rw [List.getD_eq_getElem?_getD, List.getElem?_map]
  by_cases hi : i.toNat < 16
  · rw [List.getElem?_range hi]; exact wd_wd l _
  · rw [List.getElem?_eq_none (by simp; omega)]; exact ⟨Int.le_refl _, by show (0 : Int) < 4294967296; decide⟩
theorem ob_cell {B n : Nat} {w w' : World} (h : OB B n w w') {p : Addr} (hp : p.block < n) (hne : p.block ≠ B) : w'.cell? p = w.cell? p := World.cell?_of_block (w := w) (h.block p.block hp hne)
theorem xor_asc (x y z : Int) (hx : Wd x) (hy : Wd y) (hz : Wd z) : bits .xor .i64 (bits .xor .u32 x y) z = bits .xor .u32 x (bits .xor .u32 y z) := by
  rw [xor64 _ _ (xor_wd x y hx hy) hz, xor_nat _ _ (xor_wd x y hx hy) hz, xor_nat x _ hx (xor_wd y z hy hz), xor_nat x y hx hy, xor_nat y z hy hz, Int.toNat_natCast, Int.toNat_natCast, Nat.xor_assoc]
def fTo (h R : List Int) (k : Nat) : List Int := (List.range k).map fun j => bits .xor .u32 (gv h ((j : Nat) : Int)) (bits .xor .u32 (gv R ((j : Nat) : Int)) (gv R (((j : Nat) : Int) + 8)))
theorem fTo_succ (h R : List Int) (k : Nat) : cellsOf .i64 (fTo h R (k + 1)) = cellsOf .i64 (fTo h R k) ++ [.int .i64 (bits .xor .u32 (gv h (k : Int)) (bits .xor .u32 (gv R (k : Int)) (gv R ((k : Int) + 8))))] := by
  simp [cellsOf, fTo, List.range_succ]
theorem fTo_all (h R : List Int) : fTo h R 8 = finalL h R := rfl
theorem far {w : World} {base n b : Nat} {e : TypeId} {s : Nat} {v : Value} {xs : List Value} (h : w.ownsRow base e s v n xs) (hb : b < base) : some b ≠ v.ownBlock := by
  rcases h.2 with ⟨rfl, _⟩ | ⟨g, cap, cur, rfl, hg, _⟩
  · simp [Value.ownBlock]
  · simp only [Value.ownBlock]
    intro e; injection e; omega

set_option maxRecDepth 10000 in
set_option maxHeartbeats 8000000 in
theorem block_any (Bh caph Bb o capb : Nat) (h : List Int) (l : List UInt8) (t : Int) (last : Bool) (w : World) (hH : Holds w Bh .i64 8 h) (hw : Wds h) (hB : Bh < w.heap.size) (hBb : Bb < w.heap.size)
    (hb : ∀ j, j < 64 → w.cell? ⟨Bb, o + j, none⟩ = some (.int .u8 (bt l j))) (t0 : 0 ≤ t) (t1 : t < 9223372036854775808) :
    Calls Tryd.prog 42 #[.slice (some ⟨Bh, 0, none⟩) 8 caph, .slice (some ⟨Bb, o, none⟩) 64 capb, .int .i64 t, .bool last] w fun e w' => ∃ N cap, e = .returned (.slice (some ⟨N, 0, none⟩) 8 cap) ∧ w.heap.size ≤ N ∧ Holds w' N .i64 8 (compressL h (mTo l 16) t last) ∧ Below w.heap.size w w' := by
  obtain ⟨i0, hi, hz0, hz1, hz2⟩ := info_parts Tryd.info3
  obtain ⟨N, hN⟩ : ∃ N, w.heap.size = N := ⟨_, rfl⟩
  rw [hN] at hB hBb
  have HN : Hid (w.heap.size = N) := hN
  have HB : Hid (∀ j, j < 64 → w.cell? ⟨Bb, o + j, none⟩ = some (.int .u8 (bt l j))) := hb
  have HI : Hid (Tryd.prog.info? 3 = some i0) := hi
  have HZ0 : Hid (i0.zero = some (.int .i64 0)) := hz0
  have HZ1 : Hid (i0.size = 1) := hz1
  have HZ2 : Hid (i0.bytes = 8) := hz2
  clear hb hN hi hz0 hz1 hz2
  go_enter Tryd.func42, Tryd.ntmps42
  go_wp2
  go_loopw [9, 10] (fun mv i wr => ∃ (k q : Nat), q = 4 * k ∧ k ≤ 16 ∧ i = .int .i64 q ∧ wr.ownsRow N 3 1 mv k (cellsOf .i64 (mTo l k)) ∧ Below N w wr) (fun _ i _ => 64 - (intOf i).toNat)
  case atStart => exact ⟨0, 0, rfl, by omega, rfl, World.ownsRow_nil _ _ _ _, Below.refl _ _⟩
  case round =>
    obtain ⟨k, q, hq, hk, rfl, hown, hbw⟩ := hrel
    have HQ : Hid (q = 4 * k) := hq
    have hqq : q ≤ 64 := by omega
    by_cases hlt : q < 64
    · have hk16 : k < 16 := by omega
      have hk4 : q + 3 < 64 := by omega
      clear hq
      have hs := hbw.size
      rw [HN.out] at hs
      have cb : ∀ j, j < 64 → wr.cell? ⟨Bb, o + j, none⟩ = some (.int .u8 (bt l j)) := fun j hj => (hbw.cell (p := ⟨Bb, o + j, none⟩) hBb).trans (HB.out j hj)
      have c0 := cb q hlt
      have c1 := cb (q + 1) (by omega)
      have c2 := cb (q + 2) (by omega)
      have c3 := cb (q + 3) (by omega)
      clear cb
      obtain ⟨b0a, b0b⟩ := bt_bd l q
      obtain ⟨b1a, b1b⟩ := bt_bd l (q + 1)
      obtain ⟨b2a, b2b⟩ := bt_bd l (q + 2)
      obtain ⟨b3a, b3b⟩ := bt_bd l (q + 3)
      have q0 : (0 : Int) ≤ (q : Int) := by omega
      have r1 : (0 : Int) ≤ (q : Int) + 1 := by omega
      have r2 : (q : Int) + 1 < 64 := by omega
      have r3 : (0 : Int) ≤ (q : Int) + 2 := by omega
      have r4 : (q : Int) + 2 < 64 := by omega
      have r5 : (0 : Int) ≤ (q : Int) + 3 := by omega
      have r6 : (q : Int) + 3 < 64 := by omega
      have r7 : IntKind.i64.wrap ((q : Int) + 1) = (q : Int) + 1 := wrap_id8 _ (by omega) (by omega)
      have r8 : IntKind.i64.wrap ((q : Int) + 2) = (q : Int) + 2 := wrap_id8 _ (by omega) (by omega)
      have v0 : IntKind.i64.wrap (bt l q) = bt l q := wrap_id8 _ (by omega) (by omega)
      have v1 : IntKind.i64.wrap (bt l (q + 1)) = bt l (q + 1) := wrap_id8 _ (by omega) (by omega)
      have v2 : IntKind.i64.wrap (bt l (q + 2)) = bt l (q + 2) := wrap_id8 _ (by omega) (by omega)
      have v3 : IntKind.i64.wrap (bt l (q + 3)) = bt l (q + 3) := wrap_id8 _ (by omega) (by omega)
      have v4 : IntKind.i64.wrap (256 * bt l (q + 1)) = 256 * bt l (q + 1) := wrap_id8 _ (by omega) (by omega)
      have v5 : IntKind.i64.wrap (65536 * bt l (q + 2)) = 65536 * bt l (q + 2) := wrap_id8 _ (by omega) (by omega)
      have v6 : IntKind.i64.wrap (16777216 * bt l (q + 3)) = 16777216 * bt l (q + 3) := wrap_id8 _ (by omega) (by omega)
      have v7 : IntKind.i64.wrap (bt l q + 256 * bt l (q + 1)) = bt l q + 256 * bt l (q + 1) := wrap_id8 _ (by omega) (by omega)
      have v8 : IntKind.i64.wrap (bt l q + 256 * bt l (q + 1) + 65536 * bt l (q + 2)) = bt l q + 256 * bt l (q + 1) + 65536 * bt l (q + 2) := wrap_id8 _ (by omega) (by omega)
      have v9 : IntKind.i64.wrap (bt l q + 256 * bt l (q + 1) + 65536 * bt l (q + 2) + 16777216 * bt l (q + 3)) = bt l q + 256 * bt l (q + 1) + 65536 * bt l (q + 2) + 16777216 * bt l (q + 3) := wrap_id8 _ (by omega) (by omega)
      have r10 : ((q : Int) + 2).toNat = q + 2 := by omega
      have r11 : ((q : Int) + 3).toNat = q + 3 := by omega
      have r9 : IntKind.i64.wrap ((q : Int) + 3) = (q : Int) + 3 := wrap_id8 _ (by omega) (by omega)
      go_wp2
      go_region_held3 (fun w' => w'.cell? ⟨Bb, o + q, none⟩ = some (.int .u8 (bt l q)) ∧ w'.cell? ⟨Bb, o + (q + 1), none⟩ = some (.int .u8 (bt l (q + 1))) ∧ w'.cell? ⟨Bb, o + (q + 2), none⟩ = some (.int .u8 (bt l (q + 2))) ∧ w'.cell? ⟨Bb, o + (q + 3), none⟩ = some (.int .u8 (bt l (q + 3))))
        (first | go_keep | (go_split_ands; refine ⟨?_, ?_, ?_, ?_⟩ <;> (rw [hgrow.cell_far _ (by simp; omega) (far hown (by omega))]; assumption)))
        ((refine step_append_lies _ (by rfl) _ _ _ (by rfl) N 3 i0 _ 1 8 Tryd.underlying67 HI.out HZ0.out HZ1.out HZ2.out rfl (by omega) _ k _ (by rfl) ((hown.alloc _).drew) ⟨wr.heap.size, 0, none⟩ 1 1 [_] (by rfl) (by rfl) (World.news_of_block (cs := #[_]) (t := 3) (fr := (0, 0)) (heap_alloc_new wr _)) (by simp [Value.oneCell']) (by omega) (by unfold maxLen; omega) (by omega) (by simp; omega) (wr.heap.size + 1) (by simp) ?_; intro g cap w1 hown1 hgrow hat hlt1))
      clear v0 v1 v2 v3 v4 v5 v6 v7 v8 v9 r7 r8 r9 c0 c1 c2 c3
      go_wp2
      go_roundw
      case rel =>
        refine ⟨k + 1, q + 4, by have := HQ.out; omega, by omega, by go_num, ?_, ?_⟩
        · rw [mTo_succ, wd, ← HQ.out]; exact hown1
        · exact ((hbw.alloc hs _).drew).grown hgrow (by simp; omega) (own_ge hown)
      case measure => simp [intOf]; omega
    · have hk16 : k = 16 := by omega
      clear HB
      subst hk16
      obtain ⟨gm, capm, rfl, hgm, hgl⟩ := hown.form (by decide)
      obtain ⟨hM, _, _⟩ := Holds.ofOwns hown
      have hHr := hH.below hbw hB
      have hs := hbw.size
      rw [HN.out] at hs
      clear hown hH hq
      go_wp2_with (first | (at_builtin; refine wpList_append_lies _ rfl _ _ _ rfl N 3 i0 _ 1 8 Tryd.underlying67 HI.out HZ0.out HZ1.out HZ2.out rfl (by omega) (.slice none 0 0) 0 [] rfl (World.ownsRow_nil _ _ _ _) ⟨Bh, 0, none⟩ 8 caph (cellsOf .i64 h) rfl (by rw [cells_len, hHr.len]) hHr.news (one_cells _ _) (by omega) (by unfold maxLen; omega) (by omega) (by omega) _ rfl ?_; intro ga capa wA hownA hgrowA hatA hltA))
      have hga : ga = wr.heap.size := by rcases hatA with e | e; cases e; exact e
      have hbA : Below N w wA := hbw.grown hgrowA hs (fun k e => by cases e)
      have hMA : Holds wA gm .i64 16 (mTo l 16) := hM.grown hgrowA hgl (by intro e; cases e)
      have hHA : Holds wA Bh .i64 8 h := hHr.grown hgrowA (by omega) (by intro e; cases e)
      have hsA : N ≤ wA.heap.size := Nat.le_trans hs hgrowA.size
      have hszA : wr.heap.size ≤ wA.heap.size := hgrowA.size
      have HGA : Hid (ga = wr.heap.size) := hga
      have hga1 : N ≤ ga := by omega
      have hga2 : gm < ga := by omega
      clear hga hM hHr hgrowA hatA hbw
      go_wp2_with fail
      refine (iv_any wA).mono ?_
      rintro e wB ⟨rfl, hIv, hbB⟩
      have hgB := grown_of_below8 hbB
      have hownB := hownA.kept hgB (.inr (by intro e; cases e))
      have hBB : Below N w wB := hbA.trans (hbB.mono hsA)
      have hMB := hMA.below hbB (by omega)
      have hHB := hHA.below hbB (by omega)
      have hsB := hbB.size
      have hIl : wA.heap.size < wB.heap.size := hIv.lt (by decide)
      clear hgB hownA hMA hHA
      have hwi := Wds.init hw
      have x12 : bits .xor .i64 (gv (initV h) 12) (t % 4294967296) = bits .xor .u32 (gv (initV h) 12) (t % 4294967296) := xor64 _ _ (hwi 12) (mod_wd _)
      have x13 : bits .xor .i64 (gv (initV h) 13) (t / 4294967296) = bits .xor .u32 (gv (initV h) 13) (t / 4294967296) := xor64 _ _ (hwi 13) ⟨by omega, by omega⟩
      obtain ⟨p14, p14'⟩ := hwi 14
      have HX14 : Hid (bits .xor .u32 IntKind.u32.max (gv (initV h) 14) = 4294967295 - gv (initV h) 14) := not32 _ (hwi 14)
      have HWI : Hid (Wds (initV h)) := hwi
      clear hwi
      go_upto_if 74 with (first | (at_builtin; refine wpList_append_lies _ rfl _ _ _ rfl N 3 i0 _ 1 8 Tryd.underlying67 HI.out HZ0.out HZ1.out HZ2.out rfl (by omega) (.slice (some ⟨ga, 0, none⟩) 8 capa) 8 _ rfl hownB ⟨wA.heap.size, 0, none⟩ 8 8 (cellsOf .i64 ivL) rfl rfl hIv.news (one_cells _ _) (by omega) (by unfold maxLen; omega) (by omega) (by omega) _ rfl ?_; intro gV capV wC hownC hgrowC hatC hltC; obtain ⟨hV, hVl, hVN⟩ := Holds.ofOwns (k := .i64) (v := initV h) (n := 16) (by rw [init_cells]; exact hownC); have d12 := hV.cellN 12 (by decide); have f12 := hV.freeN 12 (by decide); have d13 := hV.cellN 13 (by decide); have f13 := hV.freeN 13 (by decide); have d14 := hV.cellN 14 (by decide); have f14 := hV.freeN 14 (by decide)))
      have hatC1 : ga = gV ∨ gV = wB.heap.size := by simpa [Value.ownBlock] using hatC
      have hgVm : gV ≠ gm := by omega
      have hMC : Holds wC gm .i64 16 (mTo l 16) := hMB.grown hgrowC (by omega) (by simp [Value.ownBlock]; omega)
      have hHC : Holds wC Bh .i64 8 h := hHB.grown hgrowC (by omega) (by simp [Value.ownBlock]; omega)
      have hbC : Below N w wC := hBB.grown hgrowC (by omega) (fun k e => by simp [Value.ownBlock] at e; omega)
      have hgmC : gm < wC.heap.size := hMC.lt (by decide)
      clear hMB hHB hIv hownB hownC hgrowC hatC hatC1 hBB hbB hbA hlt hk hqq
      go_cut [80] from 16 to 80 (fun _ wx => Holds wx gV .i64 16 (tagV (initV h) t last) ∧ Only gV wC wx)
      case first =>
        cases last
        · go_wp2
          go_meet
          case rel => exact ⟨(hV.setN 12 _ (by decide)).setN 13 _ (by decide), ((Only.refl _ wC).set _ _).set _ _⟩
        · go_wp2
          go_meet
          case rel =>
            refine ⟨?_, (((Only.refl _ wC).set _ _).set _ _).set _ _⟩
            have hh := ((hV.setN 12 (bits .xor .u32 (gv (initV h) 12) (t % 4294967296)) (by decide)).setN 13 (bits .xor .u32 (gv (initV h) 13) (t / 4294967296)) (by decide)).setN 14 (bits .xor .u32 IntKind.u32.max (gv (initV h) 14)) (by decide)
            rw [HX14.out] at hh
            have e : tagV (initV h) t true = pv (pv (pv (initV h) ((12 : Nat) : Int) (bits .xor .u32 (gv (initV h) 12) (t % 4294967296))) ((13 : Nat) : Int) (bits .xor .u32 (gv (initV h) 13) (t / 4294967296))) ((14 : Nat) : Int) (4294967295 - gv (initV h) 14) := by rw [← HX14.out]; rfl
            rw [e]
            exact hh
      case rest =>
        rename World => W9
        obtain ⟨hT, hO2⟩ := hcut
        have hM2 := hMC.only hO2 (Ne.symm hgVm)
        have hH2 := hHC.only hO2 (by omega)
        have hb2 := hbC.trans (hO2.below (n := N) hVN)
        obtain ⟨Z, hZ⟩ : ∃ Z, W9.heap.size = Z := ⟨_, rfl⟩
        have hzV := hT.lt (by decide)
        have hzM := hM2.lt (by decide)
        have hzH := hH2.lt (by decide)
        rw [hZ] at hzV hzM hzH
        have HZ : Hid (W9.heap.size = Z) := hZ
        have HWT : Hid (Wds (tagV (initV h) t last)) := Wds.tag HWI.out t last ⟨by omega, by omega⟩
        clear hMC hHC hbC hV d12 f12 d13 f13 d14 f14 x12 x13 HX14 hZ hO2 HWI hgmC hVl
        go_wp2
        go_loopw [12] (fun i wr2 => ∃ (k : Nat), k ≤ 10 ∧ i = .int .i64 k ∧ Holds wr2 gV .i64 16 (roundsTo (tagV (initV h) t last) (mTo l 16) k) ∧ OB gV Z W9 wr2 ∧ Z ≤ wr2.heap.size) (fun i _ => 10 - (intOf i).toNat)
        case atStart => exact ⟨0, by omega, rfl, hT, OB.refl _ _ _, Nat.le_of_eq HZ.out.symm⟩
        case round =>
          obtain ⟨k, hk, rfl, hH3, hO3, hle⟩ := hrel
          rename World => wr3
          by_cases hlt : k < 10
          · obtain ⟨R, hR⟩ : ∃ R, roundsTo (tagV (initV h) t last) (mTo l 16) k = R := ⟨_, rfl⟩
            have HWR : Hid (Wds R) := hR ▸ Wds.rounds HWT.out (mTo l 16) k
            have HR : Hid (roundsTo (tagV (initV h) t last) (mTo l 16) k = R) := hR
            rw [hR] at hH3
            have hM3 := hM2.ob hO3 hzM (Ne.symm hgVm)
            have HS1 : Hid (∀ i : Int, 0 ≤ i → i < 16 → 0 ≤ gv (rowL k) i ∧ gv (rowL k) i < 16) := rowL_bd k hlt
            clear hR
            obtain ⟨s, hs9⟩ : ∃ s, rowL k = s := ⟨_, rfl⟩
            have HS : Hid (rowL k = s) := hs9
            rw [hs9] at HS1
            have hrow := row_any k wr3 hlt
            rw [hs9] at hrow
            clear hs9
            obtain ⟨m, hm9⟩ : ∃ m, mTo l 16 = m := ⟨_, rfl⟩
            have HM : Hid (mTo l 16 = m) := hm9
            have HWM : Hid (Wds m) := hm9 ▸ mTo_wd l
            rw [hm9] at hM3
            clear hm9 hM2
            go_wp2_with fail
            refine hrow.mono ?_
            clear hrow
            rintro e w5 ⟨Ns, rfl, hNs, hS5, hb5⟩
            have hV5 := hH3.below hb5 (by omega)
            have hM5 := hM3.below hb5 (by omega)
            have hO5 : OB gV Z W9 w5 := hO3.trans (OB.ofBelow hb5 hle)
            have hle5 : Z ≤ w5.heap.size := Nat.le_trans hle hb5.size
            have hNl : Ns < w5.heap.size := hS5.lt (by decide)
            have hNV : Ns ≠ gV := by omega
            clear hH3 hM3 hO3 hb5
            go_wp2
            go_cut [100] from 87 to 100 (fun _ wx => Holds wx gV .i64 16 (mixL R 0 4 8 12 (gv m (gv s 0)) (gv m (gv s 1))) ∧ Holds wx gm .i64 16 m ∧ Holds wx Ns .i64 16 s ∧ OB gV Z W9 wx ∧ Z ≤ wx.heap.size ∧ Ns < wx.heap.size)
            case first =>
              obtain ⟨p0, p1⟩ := HS1.out 0 (by decide) (by decide); obtain ⟨q0, q1⟩ := HS1.out 1 (by decide) (by decide)
              have c1 : w5.cell? ⟨Ns, 0, none⟩ = some (.int .i64 (gv s 0)) := hS5.cell 0 (by decide) (by decide)
              have c2 : w5.cell? ⟨Ns, 1, none⟩ = some (.int .i64 (gv s 1)) := hS5.cell 1 (by decide) (by decide)
              have c3 := hM5.cell _ p0 p1; have c4 := hM5.cell _ q0 q1
              have hgl5 : gV < w5.heap.size := hV5.lt (by decide)
              have hgm5 : gm < w5.heap.size := hM5.lt (by decide)
              go_region_held3 (fun w' => w'.cell? ⟨Ns, 0, none⟩ = some (.int .i64 (gv s 0)) ∧ w'.cell? ⟨Ns, 1, none⟩ = some (.int .i64 (gv s 1)) ∧ w'.cell? ⟨gm, (gv s 0).toNat, none⟩ = some (.int .i64 (gv m (gv s 0))) ∧ w'.cell? ⟨gm, (gv s 1).toNat, none⟩ = some (.int .i64 (gv m (gv s 1))))
                (first | go_keep | (refine ⟨(ob_cell ho (p := ⟨Ns, 0, none⟩) hNl hNV).trans ?_, (ob_cell ho (p := ⟨Ns, 1, none⟩) hNl hNV).trans ?_, (ob_cell ho (p := ⟨gm, (gv s 0).toNat, none⟩) hgm5 (Ne.symm hgVm)).trans ?_, (ob_cell ho (p := ⟨gm, (gv s 1).toNat, none⟩) hgm5 (Ne.symm hgVm)).trans ?_⟩ <;> go_keep))
                (first | (go_at_call 50; refine (put_any gV capV R 0 4 8 12 _ _ _ (by decide) (by decide) (by decide) (by decide) (by decide) (by decide) (by decide) (by decide) (by decide) (by decide) (by decide) (by decide) (by decide) (by decide) hV5.drew hgl5 HWR.out (HWM.out _) (HWM.out _)).mono ?_; rintro e w' ⟨rfl, hh, ho⟩))
              all_goals (go_wp2_with fail; go_meet)
              all_goals exact ⟨hh, hM5.drew.ob ho hgm5 (Ne.symm hgVm), hS5.drew.ob ho hNl hNV, hO5.drew.trans (ho.mono hle5), Nat.le_trans hle5 ho.size, Nat.lt_of_lt_of_le hNl ho.size⟩
            case rest =>
              obtain ⟨h0v, h0m, h0s, h0o, h0z, h0n⟩ := hcut
              clear hV5 hM5 hS5 hO5 hle5 hNl
              go_wp2
              go_cut [114] from 101 to 114 (fun _ wx => Holds wx gV .i64 16 (mixL (mixL R 0 4 8 12 (gv m (gv s 0)) (gv m (gv s 1))) 1 5 9 13 (gv m (gv s 2)) (gv m (gv s 3))) ∧ Holds wx gm .i64 16 m ∧ Holds wx Ns .i64 16 s ∧ OB gV Z W9 wx ∧ Z ≤ wx.heap.size ∧ Ns < wx.heap.size)
              case first =>
                obtain ⟨p0, p1⟩ := HS1.out 2 (by decide) (by decide); obtain ⟨q0, q1⟩ := HS1.out 3 (by decide) (by decide)
                have c1 : wc.cell? ⟨Ns, 2, none⟩ = some (.int .i64 (gv s 2)) := h0s.cell 2 (by decide) (by decide)
                have c2 : wc.cell? ⟨Ns, 3, none⟩ = some (.int .i64 (gv s 3)) := h0s.cell 3 (by decide) (by decide)
                have c3 := h0m.cell _ p0 p1; have c4 := h0m.cell _ q0 q1
                have hgl5 : gV < wc.heap.size := h0v.lt (by decide)
                have hgm5 : gm < wc.heap.size := h0m.lt (by decide)
                go_region_held3 (fun w' => w'.cell? ⟨Ns, 2, none⟩ = some (.int .i64 (gv s 2)) ∧ w'.cell? ⟨Ns, 3, none⟩ = some (.int .i64 (gv s 3)) ∧ w'.cell? ⟨gm, (gv s 2).toNat, none⟩ = some (.int .i64 (gv m (gv s 2))) ∧ w'.cell? ⟨gm, (gv s 3).toNat, none⟩ = some (.int .i64 (gv m (gv s 3))))
                  (first | go_keep | (refine ⟨(ob_cell ho (p := ⟨Ns, 2, none⟩) h0n hNV).trans ?_, (ob_cell ho (p := ⟨Ns, 3, none⟩) h0n hNV).trans ?_, (ob_cell ho (p := ⟨gm, (gv s 2).toNat, none⟩) hgm5 (Ne.symm hgVm)).trans ?_, (ob_cell ho (p := ⟨gm, (gv s 3).toNat, none⟩) hgm5 (Ne.symm hgVm)).trans ?_⟩ <;> go_keep))
                  (first | (go_at_call 50; refine (put_any gV capV (mixL R 0 4 8 12 (gv m (gv s 0)) (gv m (gv s 1))) 1 5 9 13 _ _ _ (by decide) (by decide) (by decide) (by decide) (by decide) (by decide) (by decide) (by decide) (by decide) (by decide) (by decide) (by decide) (by decide) (by decide) h0v.drew hgl5 (Wds.mixL HWR.out _ _ _ _ _ _) (HWM.out _) (HWM.out _)).mono ?_; rintro e w' ⟨rfl, hh, ho⟩))
                all_goals (go_wp2_with fail; go_meet)
                all_goals exact ⟨hh, h0m.drew.ob ho hgm5 (Ne.symm hgVm), h0s.drew.ob ho h0n hNV, h0o.drew.trans (ho.mono h0z), Nat.le_trans h0z ho.size, Nat.lt_of_lt_of_le h0n ho.size⟩
              case rest =>
                obtain ⟨h1v, h1m, h1s, h1o, h1z, h1n⟩ := hcut
                clear h0v h0m h0s h0o h0z h0n
                go_wp2
                go_cut [128] from 115 to 128 (fun _ wx => Holds wx gV .i64 16 (mixL (mixL (mixL R 0 4 8 12 (gv m (gv s 0)) (gv m (gv s 1))) 1 5 9 13 (gv m (gv s 2)) (gv m (gv s 3))) 2 6 10 14 (gv m (gv s 4)) (gv m (gv s 5))) ∧ Holds wx gm .i64 16 m ∧ Holds wx Ns .i64 16 s ∧ OB gV Z W9 wx ∧ Z ≤ wx.heap.size ∧ Ns < wx.heap.size)
                case first =>
                  obtain ⟨p0, p1⟩ := HS1.out 4 (by decide) (by decide); obtain ⟨q0, q1⟩ := HS1.out 5 (by decide) (by decide)
                  have c1 : wc.cell? ⟨Ns, 4, none⟩ = some (.int .i64 (gv s 4)) := h1s.cell 4 (by decide) (by decide)
                  have c2 : wc.cell? ⟨Ns, 5, none⟩ = some (.int .i64 (gv s 5)) := h1s.cell 5 (by decide) (by decide)
                  have c3 := h1m.cell _ p0 p1; have c4 := h1m.cell _ q0 q1
                  have hgl5 : gV < wc.heap.size := h1v.lt (by decide)
                  have hgm5 : gm < wc.heap.size := h1m.lt (by decide)
                  go_region_held3 (fun w' => w'.cell? ⟨Ns, 4, none⟩ = some (.int .i64 (gv s 4)) ∧ w'.cell? ⟨Ns, 5, none⟩ = some (.int .i64 (gv s 5)) ∧ w'.cell? ⟨gm, (gv s 4).toNat, none⟩ = some (.int .i64 (gv m (gv s 4))) ∧ w'.cell? ⟨gm, (gv s 5).toNat, none⟩ = some (.int .i64 (gv m (gv s 5))))
                    (first | go_keep | (refine ⟨(ob_cell ho (p := ⟨Ns, 4, none⟩) h1n hNV).trans ?_, (ob_cell ho (p := ⟨Ns, 5, none⟩) h1n hNV).trans ?_, (ob_cell ho (p := ⟨gm, (gv s 4).toNat, none⟩) hgm5 (Ne.symm hgVm)).trans ?_, (ob_cell ho (p := ⟨gm, (gv s 5).toNat, none⟩) hgm5 (Ne.symm hgVm)).trans ?_⟩ <;> go_keep))
                    (first | (go_at_call 50; refine (put_any gV capV (mixL (mixL R 0 4 8 12 (gv m (gv s 0)) (gv m (gv s 1))) 1 5 9 13 (gv m (gv s 2)) (gv m (gv s 3))) 2 6 10 14 _ _ _ (by decide) (by decide) (by decide) (by decide) (by decide) (by decide) (by decide) (by decide) (by decide) (by decide) (by decide) (by decide) (by decide) (by decide) h1v.drew hgl5 (Wds.mixL (Wds.mixL HWR.out _ _ _ _ _ _) _ _ _ _ _ _) (HWM.out _) (HWM.out _)).mono ?_; rintro e w' ⟨rfl, hh, ho⟩))
                  all_goals (go_wp2_with fail; go_meet)
                  all_goals exact ⟨hh, h1m.drew.ob ho hgm5 (Ne.symm hgVm), h1s.drew.ob ho h1n hNV, h1o.drew.trans (ho.mono h1z), Nat.le_trans h1z ho.size, Nat.lt_of_lt_of_le h1n ho.size⟩
                case rest =>
                  obtain ⟨h2v, h2m, h2s, h2o, h2z, h2n⟩ := hcut
                  clear h1v h1m h1s h1o h1z h1n
                  go_wp2
                  go_cut [142] from 129 to 142 (fun _ wx => Holds wx gV .i64 16 (mixL (mixL (mixL (mixL R 0 4 8 12 (gv m (gv s 0)) (gv m (gv s 1))) 1 5 9 13 (gv m (gv s 2)) (gv m (gv s 3))) 2 6 10 14 (gv m (gv s 4)) (gv m (gv s 5))) 3 7 11 15 (gv m (gv s 6)) (gv m (gv s 7))) ∧ Holds wx gm .i64 16 m ∧ Holds wx Ns .i64 16 s ∧ OB gV Z W9 wx ∧ Z ≤ wx.heap.size ∧ Ns < wx.heap.size)
                  case first =>
                    obtain ⟨p0, p1⟩ := HS1.out 6 (by decide) (by decide); obtain ⟨q0, q1⟩ := HS1.out 7 (by decide) (by decide)
                    have c1 : wc.cell? ⟨Ns, 6, none⟩ = some (.int .i64 (gv s 6)) := h2s.cell 6 (by decide) (by decide)
                    have c2 : wc.cell? ⟨Ns, 7, none⟩ = some (.int .i64 (gv s 7)) := h2s.cell 7 (by decide) (by decide)
                    have c3 := h2m.cell _ p0 p1; have c4 := h2m.cell _ q0 q1
                    have hgl5 : gV < wc.heap.size := h2v.lt (by decide)
                    have hgm5 : gm < wc.heap.size := h2m.lt (by decide)
                    go_region_held3 (fun w' => w'.cell? ⟨Ns, 6, none⟩ = some (.int .i64 (gv s 6)) ∧ w'.cell? ⟨Ns, 7, none⟩ = some (.int .i64 (gv s 7)) ∧ w'.cell? ⟨gm, (gv s 6).toNat, none⟩ = some (.int .i64 (gv m (gv s 6))) ∧ w'.cell? ⟨gm, (gv s 7).toNat, none⟩ = some (.int .i64 (gv m (gv s 7))))
                      (first | go_keep | (refine ⟨(ob_cell ho (p := ⟨Ns, 6, none⟩) h2n hNV).trans ?_, (ob_cell ho (p := ⟨Ns, 7, none⟩) h2n hNV).trans ?_, (ob_cell ho (p := ⟨gm, (gv s 6).toNat, none⟩) hgm5 (Ne.symm hgVm)).trans ?_, (ob_cell ho (p := ⟨gm, (gv s 7).toNat, none⟩) hgm5 (Ne.symm hgVm)).trans ?_⟩ <;> go_keep))
                      (first | (go_at_call 50; refine (put_any gV capV (mixL (mixL (mixL R 0 4 8 12 (gv m (gv s 0)) (gv m (gv s 1))) 1 5 9 13 (gv m (gv s 2)) (gv m (gv s 3))) 2 6 10 14 (gv m (gv s 4)) (gv m (gv s 5))) 3 7 11 15 _ _ _ (by decide) (by decide) (by decide) (by decide) (by decide) (by decide) (by decide) (by decide) (by decide) (by decide) (by decide) (by decide) (by decide) (by decide) h2v.drew hgl5 (Wds.mixL (Wds.mixL (Wds.mixL HWR.out _ _ _ _ _ _) _ _ _ _ _ _) _ _ _ _ _ _) (HWM.out _) (HWM.out _)).mono ?_; rintro e w' ⟨rfl, hh, ho⟩))
                    all_goals (go_wp2_with fail; go_meet)
                    all_goals exact ⟨hh, h2m.drew.ob ho hgm5 (Ne.symm hgVm), h2s.drew.ob ho h2n hNV, h2o.drew.trans (ho.mono h2z), Nat.le_trans h2z ho.size, Nat.lt_of_lt_of_le h2n ho.size⟩
                  case rest =>
                    obtain ⟨h3v, h3m, h3s, h3o, h3z, h3n⟩ := hcut
                    clear h2v h2m h2s h2o h2z h2n
                    go_wp2
                    go_cut [156] from 143 to 156 (fun _ wx => Holds wx gV .i64 16 (mixL (mixL (mixL (mixL (mixL R 0 4 8 12 (gv m (gv s 0)) (gv m (gv s 1))) 1 5 9 13 (gv m (gv s 2)) (gv m (gv s 3))) 2 6 10 14 (gv m (gv s 4)) (gv m (gv s 5))) 3 7 11 15 (gv m (gv s 6)) (gv m (gv s 7))) 0 5 10 15 (gv m (gv s 8)) (gv m (gv s 9))) ∧ Holds wx gm .i64 16 m ∧ Holds wx Ns .i64 16 s ∧ OB gV Z W9 wx ∧ Z ≤ wx.heap.size ∧ Ns < wx.heap.size)
                    case first =>
                      obtain ⟨p0, p1⟩ := HS1.out 8 (by decide) (by decide); obtain ⟨q0, q1⟩ := HS1.out 9 (by decide) (by decide)
                      have c1 : wc.cell? ⟨Ns, 8, none⟩ = some (.int .i64 (gv s 8)) := h3s.cell 8 (by decide) (by decide)
                      have c2 : wc.cell? ⟨Ns, 9, none⟩ = some (.int .i64 (gv s 9)) := h3s.cell 9 (by decide) (by decide)
                      have c3 := h3m.cell _ p0 p1; have c4 := h3m.cell _ q0 q1
                      have hgl5 : gV < wc.heap.size := h3v.lt (by decide)
                      have hgm5 : gm < wc.heap.size := h3m.lt (by decide)
                      go_region_held3 (fun w' => w'.cell? ⟨Ns, 8, none⟩ = some (.int .i64 (gv s 8)) ∧ w'.cell? ⟨Ns, 9, none⟩ = some (.int .i64 (gv s 9)) ∧ w'.cell? ⟨gm, (gv s 8).toNat, none⟩ = some (.int .i64 (gv m (gv s 8))) ∧ w'.cell? ⟨gm, (gv s 9).toNat, none⟩ = some (.int .i64 (gv m (gv s 9))))
                        (first | go_keep | (refine ⟨(ob_cell ho (p := ⟨Ns, 8, none⟩) h3n hNV).trans ?_, (ob_cell ho (p := ⟨Ns, 9, none⟩) h3n hNV).trans ?_, (ob_cell ho (p := ⟨gm, (gv s 8).toNat, none⟩) hgm5 (Ne.symm hgVm)).trans ?_, (ob_cell ho (p := ⟨gm, (gv s 9).toNat, none⟩) hgm5 (Ne.symm hgVm)).trans ?_⟩ <;> go_keep))
                        (first | (go_at_call 50; refine (put_any gV capV (mixL (mixL (mixL (mixL R 0 4 8 12 (gv m (gv s 0)) (gv m (gv s 1))) 1 5 9 13 (gv m (gv s 2)) (gv m (gv s 3))) 2 6 10 14 (gv m (gv s 4)) (gv m (gv s 5))) 3 7 11 15 (gv m (gv s 6)) (gv m (gv s 7))) 0 5 10 15 _ _ _ (by decide) (by decide) (by decide) (by decide) (by decide) (by decide) (by decide) (by decide) (by decide) (by decide) (by decide) (by decide) (by decide) (by decide) h3v.drew hgl5 (Wds.mixL (Wds.mixL (Wds.mixL (Wds.mixL HWR.out _ _ _ _ _ _) _ _ _ _ _ _) _ _ _ _ _ _) _ _ _ _ _ _) (HWM.out _) (HWM.out _)).mono ?_; rintro e w' ⟨rfl, hh, ho⟩))
                      all_goals (go_wp2_with fail; go_meet)
                      all_goals exact ⟨hh, h3m.drew.ob ho hgm5 (Ne.symm hgVm), h3s.drew.ob ho h3n hNV, h3o.drew.trans (ho.mono h3z), Nat.le_trans h3z ho.size, Nat.lt_of_lt_of_le h3n ho.size⟩
                    case rest =>
                      obtain ⟨h4v, h4m, h4s, h4o, h4z, h4n⟩ := hcut
                      clear h3v h3m h3s h3o h3z h3n
                      go_wp2
                      go_cut [170] from 157 to 170 (fun _ wx => Holds wx gV .i64 16 (mixL (mixL (mixL (mixL (mixL (mixL R 0 4 8 12 (gv m (gv s 0)) (gv m (gv s 1))) 1 5 9 13 (gv m (gv s 2)) (gv m (gv s 3))) 2 6 10 14 (gv m (gv s 4)) (gv m (gv s 5))) 3 7 11 15 (gv m (gv s 6)) (gv m (gv s 7))) 0 5 10 15 (gv m (gv s 8)) (gv m (gv s 9))) 1 6 11 12 (gv m (gv s 10)) (gv m (gv s 11))) ∧ Holds wx gm .i64 16 m ∧ Holds wx Ns .i64 16 s ∧ OB gV Z W9 wx ∧ Z ≤ wx.heap.size ∧ Ns < wx.heap.size)
                      case first =>
                        obtain ⟨p0, p1⟩ := HS1.out 10 (by decide) (by decide); obtain ⟨q0, q1⟩ := HS1.out 11 (by decide) (by decide)
                        have c1 : wc.cell? ⟨Ns, 10, none⟩ = some (.int .i64 (gv s 10)) := h4s.cell 10 (by decide) (by decide)
                        have c2 : wc.cell? ⟨Ns, 11, none⟩ = some (.int .i64 (gv s 11)) := h4s.cell 11 (by decide) (by decide)
                        have c3 := h4m.cell _ p0 p1; have c4 := h4m.cell _ q0 q1
                        have hgl5 : gV < wc.heap.size := h4v.lt (by decide)
                        have hgm5 : gm < wc.heap.size := h4m.lt (by decide)
                        go_region_held3 (fun w' => w'.cell? ⟨Ns, 10, none⟩ = some (.int .i64 (gv s 10)) ∧ w'.cell? ⟨Ns, 11, none⟩ = some (.int .i64 (gv s 11)) ∧ w'.cell? ⟨gm, (gv s 10).toNat, none⟩ = some (.int .i64 (gv m (gv s 10))) ∧ w'.cell? ⟨gm, (gv s 11).toNat, none⟩ = some (.int .i64 (gv m (gv s 11))))
                          (first | go_keep | (refine ⟨(ob_cell ho (p := ⟨Ns, 10, none⟩) h4n hNV).trans ?_, (ob_cell ho (p := ⟨Ns, 11, none⟩) h4n hNV).trans ?_, (ob_cell ho (p := ⟨gm, (gv s 10).toNat, none⟩) hgm5 (Ne.symm hgVm)).trans ?_, (ob_cell ho (p := ⟨gm, (gv s 11).toNat, none⟩) hgm5 (Ne.symm hgVm)).trans ?_⟩ <;> go_keep))
                          (first | (go_at_call 50; refine (put_any gV capV (mixL (mixL (mixL (mixL (mixL R 0 4 8 12 (gv m (gv s 0)) (gv m (gv s 1))) 1 5 9 13 (gv m (gv s 2)) (gv m (gv s 3))) 2 6 10 14 (gv m (gv s 4)) (gv m (gv s 5))) 3 7 11 15 (gv m (gv s 6)) (gv m (gv s 7))) 0 5 10 15 (gv m (gv s 8)) (gv m (gv s 9))) 1 6 11 12 _ _ _ (by decide) (by decide) (by decide) (by decide) (by decide) (by decide) (by decide) (by decide) (by decide) (by decide) (by decide) (by decide) (by decide) (by decide) h4v.drew hgl5 (Wds.mixL (Wds.mixL (Wds.mixL (Wds.mixL (Wds.mixL HWR.out _ _ _ _ _ _) _ _ _ _ _ _) _ _ _ _ _ _) _ _ _ _ _ _) _ _ _ _ _ _) (HWM.out _) (HWM.out _)).mono ?_; rintro e w' ⟨rfl, hh, ho⟩))
                        all_goals (go_wp2_with fail; go_meet)
                        all_goals exact ⟨hh, h4m.drew.ob ho hgm5 (Ne.symm hgVm), h4s.drew.ob ho h4n hNV, h4o.drew.trans (ho.mono h4z), Nat.le_trans h4z ho.size, Nat.lt_of_lt_of_le h4n ho.size⟩
                      case rest =>
                        obtain ⟨h5v, h5m, h5s, h5o, h5z, h5n⟩ := hcut
                        clear h4v h4m h4s h4o h4z h4n
                        go_wp2
                        go_cut [184] from 171 to 184 (fun _ wx => Holds wx gV .i64 16 (mixL (mixL (mixL (mixL (mixL (mixL (mixL R 0 4 8 12 (gv m (gv s 0)) (gv m (gv s 1))) 1 5 9 13 (gv m (gv s 2)) (gv m (gv s 3))) 2 6 10 14 (gv m (gv s 4)) (gv m (gv s 5))) 3 7 11 15 (gv m (gv s 6)) (gv m (gv s 7))) 0 5 10 15 (gv m (gv s 8)) (gv m (gv s 9))) 1 6 11 12 (gv m (gv s 10)) (gv m (gv s 11))) 2 7 8 13 (gv m (gv s 12)) (gv m (gv s 13))) ∧ Holds wx gm .i64 16 m ∧ Holds wx Ns .i64 16 s ∧ OB gV Z W9 wx ∧ Z ≤ wx.heap.size ∧ Ns < wx.heap.size)
                        case first =>
                          obtain ⟨p0, p1⟩ := HS1.out 12 (by decide) (by decide); obtain ⟨q0, q1⟩ := HS1.out 13 (by decide) (by decide)
                          have c1 : wc.cell? ⟨Ns, 12, none⟩ = some (.int .i64 (gv s 12)) := h5s.cell 12 (by decide) (by decide)
                          have c2 : wc.cell? ⟨Ns, 13, none⟩ = some (.int .i64 (gv s 13)) := h5s.cell 13 (by decide) (by decide)
                          have c3 := h5m.cell _ p0 p1; have c4 := h5m.cell _ q0 q1
                          have hgl5 : gV < wc.heap.size := h5v.lt (by decide)
                          have hgm5 : gm < wc.heap.size := h5m.lt (by decide)
                          go_region_held3 (fun w' => w'.cell? ⟨Ns, 12, none⟩ = some (.int .i64 (gv s 12)) ∧ w'.cell? ⟨Ns, 13, none⟩ = some (.int .i64 (gv s 13)) ∧ w'.cell? ⟨gm, (gv s 12).toNat, none⟩ = some (.int .i64 (gv m (gv s 12))) ∧ w'.cell? ⟨gm, (gv s 13).toNat, none⟩ = some (.int .i64 (gv m (gv s 13))))
                            (first | go_keep | (refine ⟨(ob_cell ho (p := ⟨Ns, 12, none⟩) h5n hNV).trans ?_, (ob_cell ho (p := ⟨Ns, 13, none⟩) h5n hNV).trans ?_, (ob_cell ho (p := ⟨gm, (gv s 12).toNat, none⟩) hgm5 (Ne.symm hgVm)).trans ?_, (ob_cell ho (p := ⟨gm, (gv s 13).toNat, none⟩) hgm5 (Ne.symm hgVm)).trans ?_⟩ <;> go_keep))
                            (first | (go_at_call 50; refine (put_any gV capV (mixL (mixL (mixL (mixL (mixL (mixL R 0 4 8 12 (gv m (gv s 0)) (gv m (gv s 1))) 1 5 9 13 (gv m (gv s 2)) (gv m (gv s 3))) 2 6 10 14 (gv m (gv s 4)) (gv m (gv s 5))) 3 7 11 15 (gv m (gv s 6)) (gv m (gv s 7))) 0 5 10 15 (gv m (gv s 8)) (gv m (gv s 9))) 1 6 11 12 (gv m (gv s 10)) (gv m (gv s 11))) 2 7 8 13 _ _ _ (by decide) (by decide) (by decide) (by decide) (by decide) (by decide) (by decide) (by decide) (by decide) (by decide) (by decide) (by decide) (by decide) (by decide) h5v.drew hgl5 (Wds.mixL (Wds.mixL (Wds.mixL (Wds.mixL (Wds.mixL (Wds.mixL HWR.out _ _ _ _ _ _) _ _ _ _ _ _) _ _ _ _ _ _) _ _ _ _ _ _) _ _ _ _ _ _) _ _ _ _ _ _) (HWM.out _) (HWM.out _)).mono ?_; rintro e w' ⟨rfl, hh, ho⟩))
                          all_goals (go_wp2_with fail; go_meet)
                          all_goals exact ⟨hh, h5m.drew.ob ho hgm5 (Ne.symm hgVm), h5s.drew.ob ho h5n hNV, h5o.drew.trans (ho.mono h5z), Nat.le_trans h5z ho.size, Nat.lt_of_lt_of_le h5n ho.size⟩
                        case rest =>
                          obtain ⟨h6v, h6m, h6s, h6o, h6z, h6n⟩ := hcut
                          clear h5v h5m h5s h5o h5z h5n
                          go_wp2
                          obtain ⟨p0, p1⟩ := HS1.out 14 (by decide) (by decide); obtain ⟨q0, q1⟩ := HS1.out 15 (by decide) (by decide)
                          have c1 : wc.cell? ⟨Ns, 14, none⟩ = some (.int .i64 (gv s 14)) := h6s.cell 14 (by decide) (by decide)
                          have c2 : wc.cell? ⟨Ns, 15, none⟩ = some (.int .i64 (gv s 15)) := h6s.cell 15 (by decide) (by decide)
                          have c3 := h6m.cell _ p0 p1; have c4 := h6m.cell _ q0 q1
                          have hgl5 : gV < wc.heap.size := h6v.lt (by decide)
                          have hgm5 : gm < wc.heap.size := h6m.lt (by decide)
                          go_region_held3 (fun w' => w'.cell? ⟨Ns, 14, none⟩ = some (.int .i64 (gv s 14)) ∧ w'.cell? ⟨Ns, 15, none⟩ = some (.int .i64 (gv s 15)) ∧ w'.cell? ⟨gm, (gv s 14).toNat, none⟩ = some (.int .i64 (gv m (gv s 14))) ∧ w'.cell? ⟨gm, (gv s 15).toNat, none⟩ = some (.int .i64 (gv m (gv s 15))))
                            (first | go_keep | (refine ⟨(ob_cell ho (p := ⟨Ns, 14, none⟩) h6n hNV).trans ?_, (ob_cell ho (p := ⟨Ns, 15, none⟩) h6n hNV).trans ?_, (ob_cell ho (p := ⟨gm, (gv s 14).toNat, none⟩) hgm5 (Ne.symm hgVm)).trans ?_, (ob_cell ho (p := ⟨gm, (gv s 15).toNat, none⟩) hgm5 (Ne.symm hgVm)).trans ?_⟩ <;> go_keep))
                            (first | (go_at_call 50; refine (put_any gV capV (mixL (mixL (mixL (mixL (mixL (mixL (mixL R 0 4 8 12 (gv m (gv s 0)) (gv m (gv s 1))) 1 5 9 13 (gv m (gv s 2)) (gv m (gv s 3))) 2 6 10 14 (gv m (gv s 4)) (gv m (gv s 5))) 3 7 11 15 (gv m (gv s 6)) (gv m (gv s 7))) 0 5 10 15 (gv m (gv s 8)) (gv m (gv s 9))) 1 6 11 12 (gv m (gv s 10)) (gv m (gv s 11))) 2 7 8 13 (gv m (gv s 12)) (gv m (gv s 13))) 3 4 9 14 _ _ _ (by decide) (by decide) (by decide) (by decide) (by decide) (by decide) (by decide) (by decide) (by decide) (by decide) (by decide) (by decide) (by decide) (by decide) h6v.drew hgl5 (Wds.mixL (Wds.mixL (Wds.mixL (Wds.mixL (Wds.mixL (Wds.mixL (Wds.mixL HWR.out _ _ _ _ _ _) _ _ _ _ _ _) _ _ _ _ _ _) _ _ _ _ _ _) _ _ _ _ _ _) _ _ _ _ _ _) _ _ _ _ _ _) (HWM.out _) (HWM.out _)).mono ?_; rintro e w' ⟨rfl, hh, ho⟩))
                          go_wp2
                          go_roundw
                          case rel => exact ⟨k + 1, by omega, by go_num, by rw [roundsTo, HR.out, HM.out, HS.out]; exact hh, h6o.drew.trans (ho.mono h6z), Nat.le_trans h6z ho.size⟩
                          case measure => simp [intOf]; omega
          · have e10 : Hid (k = 10) := (by omega : k = 10)
            obtain ⟨R, hR⟩ : ∃ R, roundsTo (tagV (initV h) t last) (mTo l 16) k = R := ⟨_, rfl⟩
            have HWR : Hid (Wds R) := hR ▸ Wds.rounds HWT.out (mTo l 16) k
            have HR : Hid (roundsTo (tagV (initV h) t last) (mTo l 16) k = R) := hR
            rw [hR] at hH3
            have hHh := hH2.ob hO3 hzH (by omega)
            have hb3 : Below N w wr3 := hb2.trans (hO3.below (m := N) (by omega) hVN)
            have HWH : Hid (Wds h) := hw
            obtain ⟨Y, hY⟩ : ∃ Y, wr3.heap.size = Y := ⟨_, rfl⟩
            have hyV : gV < wr3.heap.size := hH3.lt (by decide)
            have hyH : Bh < wr3.heap.size := hHh.lt (by decide)
            have hYN : N ≤ wr3.heap.size := Nat.le_of_lt (Nat.lt_of_le_of_lt hVN hyV)
            rw [hY] at hyV hyH hYN
            have HY : Hid (wr3.heap.size = Y) := hY
            clear hR hM2 hH2 hb2 hO3 hT hY hk hw HWT
            go_wp2
            clear hlt
            go_loopw [14, 15] (fun ov i wr4 => ∃ (q : Nat), q ≤ 8 ∧ i = .int .i64 q ∧ wr4.ownsRow Y 3 1 ov q (cellsOf .i64 (fTo h R q)) ∧ Below Y wr3 wr4) (fun _ i _ => 8 - (intOf i).toNat)
            case atStart => exact ⟨0, by omega, rfl, World.ownsRow_nil _ _ _ _, Below.refl _ _⟩
            case round =>
              obtain ⟨q, hq8, rfl, hown, hbw⟩ := hrel
              rename World => wr4
              have hVq := hH3.below hbw hyV
              have hHq := hHh.below hbw hyH
              have hs4 := hbw.size
              rw [HY.out] at hs4
              by_cases hlt : q < 8
              · have c1 := hHq.cellN q hlt
                have c2 := hVq.cellN q (by omega)
                have c3 := hVq.cellN (q + 8) (by omega)
                have y1 : bits .xor .i64 (gv h (q : Int)) (gv R (q : Int)) = bits .xor .u32 (gv h (q : Int)) (gv R (q : Int)) := xor64 _ _ (HWH.out _) (HWR.out _)
                have y2 : bits .xor .i64 (bits .xor .u32 (gv h (q : Int)) (gv R (q : Int))) (gv R ((q : Int) + 8)) = bits .xor .u32 (gv h (q : Int)) (bits .xor .u32 (gv R (q : Int)) (gv R ((q : Int) + 8))) := xor_asc _ _ _ (HWH.out _) (HWR.out _) (HWR.out _)
                have q0 : (0 : Int) ≤ (q : Int) := by omega
                have q1 : (q : Int) < 8 := by omega
                have q6 : (q : Int) < 16 := by omega
                have q2 : (0 : Int) ≤ (q : Int) + 8 := by omega
                have q3 : (q : Int) + 8 < 16 := by omega
                have q4 : IntKind.i64.wrap ((q : Int) + 8) = (q : Int) + 8 := wrap_id8 _ (by omega) (by omega)
                have q5 : ((q : Int) + 8).toNat = q + 8 := by omega
                have c3' : wr4.cell? ⟨gV, q + 8, none⟩ = some (.int .i64 (gv R ((q : Int) + 8))) := by have := c3; rwa [show ((q + 8 : Nat) : Int) = (q : Int) + 8 from by omega] at this
                clear c3
                go_wp2
                go_region_held3 (fun w' => w'.cell? ⟨Bh, q, none⟩ = some (.int .i64 (gv h (q : Int))) ∧ w'.cell? ⟨gV, q, none⟩ = some (.int .i64 (gv R (q : Int))) ∧ w'.cell? ⟨gV, q + 8, none⟩ = some (.int .i64 (gv R ((q : Int) + 8))))
                  (first | go_keep | (go_split_ands; refine ⟨?_, ?_, ?_⟩ <;> (rw [hgrow.cell_far _ (by simp; omega) (far hown (by omega))]; assumption)))
                  ((refine step_append_lies _ (by rfl) _ _ _ (by rfl) Y 3 i0 _ 1 8 Tryd.underlying67 HI.out HZ0.out HZ1.out HZ2.out rfl (by omega) _ q _ (by rfl) ((hown.alloc _).drew) ⟨wr4.heap.size, 0, none⟩ 1 1 [_] (by rfl) (by rfl) (World.news_of_block (cs := #[_]) (t := 3) (fr := (0, 0)) (heap_alloc_new wr4 _)) (by simp [Value.oneCell']) (by omega) (by unfold maxLen; omega) (by omega) (by simp; omega) (wr4.heap.size + 1) (by simp) ?_; intro g cap w1 hown1 hgrow hat hlt1))
                clear y1 y2 c1 c2 c3' q4
                go_wp2
                go_roundw
                case rel =>
                  refine ⟨q + 1, by omega, by go_num, ?_, ?_⟩
                  · rw [fTo_succ]; exact hown1
                  · exact ((hbw.alloc hs4 _).drew).grown hgrow (by simp; omega) (own_ge hown)
                case measure => simp [intOf]; omega
              · have hq9 : q = 8 := by omega
                clear hHq hVq
                subst hq9
                obtain ⟨go, capo, rfl, hgo, hgol⟩ := hown.form (by decide)
                obtain ⟨hF, _, _⟩ := Holds.ofOwns hown
                rw [fTo_all] at hF
                go_wp2
                go_ret
                refine ⟨go, capo, rfl, by rw [HN.out]; omega, ?_, ?_⟩
                · rw [compressL, ← e10.out, HR.out]; exact hF
                · rw [HN.out]; exact hb3.trans (hbw.mono hYN)
end Go.Proofs.YtihilkdokfdoeaaDoor
