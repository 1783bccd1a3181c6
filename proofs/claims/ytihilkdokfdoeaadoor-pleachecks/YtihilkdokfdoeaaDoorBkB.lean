import Derived.Test.YtihilkdokfdoeaaDoorBkA
namespace Go.Proofs.YtihilkdokfdoeaaDoor
open Go.RowKit
attribute [local go_sem ↓] Go.wp_at_zero Go.wp_at_succ

/-- Of the blocks below n nothing but block B has turned. -/
structure OB (B n : Nat) (w w' : World) : Prop where
  os : w'.os = w.os
  tape : w'.tape = w.tape
  output : w'.output = w.output
  size : w.heap.size ≤ w'.heap.size
  block : ∀ k, k < n → k ≠ B → w'.heap[k]? = w.heap[k]?
theorem OB.refl (B n : Nat) (w : World) : OB B n w w := ⟨rfl, rfl, rfl, Nat.le_refl _, fun _ _ _ => rfl⟩
theorem OB.trans {B n : Nat} {a b c : World} (h : OB B n a b) (k : OB B n b c) : OB B n a c :=
  ⟨k.os.trans h.os, k.tape.trans h.tape, k.output.trans h.output, Nat.le_trans h.size k.size, fun i hi hb => (k.block i hi hb).trans (h.block i hi hb)⟩
theorem OB.drew {B n : Nat} {a w : World} (h : OB B n a w) : OB B n a w.drew := ⟨h.os, h.tape, h.output, h.size, h.block⟩
theorem OB.only {B n : Nat} {a w w' : World} (h : OB B n a w) (o : Only B w w') : OB B n a w' :=
  h.trans ⟨o.os, o.tape, o.output, Nat.le_of_eq o.size.symm, fun k _ hb => o.block k hb⟩
theorem OB.mono {B n m : Nat} {w w' : World} (h : OB B n w w') (hm : m ≤ n) : OB B m w w' := ⟨h.os, h.tape, h.output, h.size, fun k hk hb => h.block k (by omega) hb⟩
theorem OB.below {B n m : Nat} {w w' : World} (h : OB B n w w') (hm : m ≤ n) (hB : m ≤ B) : Below m w w' := ⟨h.os, h.tape, h.output, h.size, fun k hk => h.block k (by omega) (by omega)⟩
theorem OB.ofBelow {B n m : Nat} {w w' : World} (h : Below m w w') (hm : n ≤ m) : OB B n w w' := ⟨h.os, h.tape, h.output, h.size, fun k hk _ => h.block k (by omega)⟩
theorem OB.alloc {B n : Nat} {a w : World} (h : OB B n a w) (hn : n ≤ w.heap.size) (o : Obj) : OB B n a (w.alloc o) :=
  h.trans (OB.ofBelow ((Below.refl w.heap.size w).alloc (Nat.le_refl _) o) hn)
theorem Holds.ob {w w' : World} {B n C m : Nat} {k : IntKind} {v : List Int} (h : Holds w C k m v) (o : OB B n w w') (hC : C < n) (hne : C ≠ B) : Holds w' C k m v :=
  ⟨h.len, fun i i0 i1 => (World.cell?_of_block (w := w) (a := ⟨C, i.toNat, none⟩) (o.block C hC hne)).trans (h.cell i i0 i1), fun i i0 i1 => (World.frozen?_of_block (w := w) (a := ⟨C, i.toNat, none⟩) (o.block C hC hne)).trans (h.free i i0 i1)⟩
theorem Holds.below {w w' : World} {n C m : Nat} {k : IntKind} {v : List Int} (h : Holds w C k m v) (o : Below n w w') (hC : C < n) : Holds w' C k m v :=
  ⟨h.len, fun i i0 i1 => (o.cell (p := ⟨C, i.toNat, none⟩) hC).trans (h.cell i i0 i1), fun i i0 i1 => (o.frozen (p := ⟨C, i.toNat, none⟩) hC).trans (h.free i i0 i1)⟩

def arr (k : IntKind) (v : List Int) : Array Value := (v.map (Value.int k)).toArray

theorem Holds.new (w : World) (k : IntKind) (t : TypeId) (n : Nat) (v : List Int) (hn : v.length = n) : Holds (w.alloc (.cells (arr k v) t)) w.heap.size k n v := by
  have hh : (w.alloc (.cells (arr k v) t)).heap[w.heap.size]? = some (.cells (arr k v) t) := heap_alloc_new w _
  refine ⟨hn, fun i i0 i1 => ?_, fun i i0 i1 => ?_⟩
  · unfold World.cell?
    simp only [hh]
    have hl : i.toNat < v.length := by omega
    simp [arr, gv, List.getElem?_eq_getElem hl]
  · unfold World.frozen?
    simp only [hh]
    simp
    try omega

def roundL (v m s : List Int) : List Int :=
  let v1 := mixL v 0 4 8 12 (gv m (gv s 0)) (gv m (gv s 1))
  let v2 := mixL v1 1 5 9 13 (gv m (gv s 2)) (gv m (gv s 3))
  let v3 := mixL v2 2 6 10 14 (gv m (gv s 4)) (gv m (gv s 5))
  let v4 := mixL v3 3 7 11 15 (gv m (gv s 6)) (gv m (gv s 7))
  let v5 := mixL v4 0 5 10 15 (gv m (gv s 8)) (gv m (gv s 9))
  let v6 := mixL v5 1 6 11 12 (gv m (gv s 10)) (gv m (gv s 11))
  let v7 := mixL v6 2 7 8 13 (gv m (gv s 12)) (gv m (gv s 13))
  let v8 := mixL v7 3 4 9 14 (gv m (gv s 14)) (gv m (gv s 15))
  v8

set_option maxRecDepth 4000 in
set_option maxHeartbeats 2000000 in
theorem round_any (B M : Nat) (v m s : List Int) (w : World) (hB : B < w.heap.size) (hM : M < w.heap.size) (hne : M ≠ B)
    (hv : Holds w B .u32 16 v) (hm : Holds w M .u32 16 m) (hs : s.length = 16) (hs1 : ∀ i : Int, 0 ≤ i → i < 16 → 0 ≤ gv s i ∧ gv s i < 16) :
    Calls Tryd.prog 81 #[.pointer (some ⟨B, 0, none⟩), .pointer (some ⟨M, 0, none⟩), .agg (arr .u8 s)] w fun e w' => e = .returned (.tuple #[]) ∧ Holds w' B .u32 16 (roundL v m s) ∧ OB B w.heap.size w w' := by
  have hz : (arr .u8 s).size = 16 := by simp [arr, hs]
  obtain ⟨S, hS⟩ : ∃ S, w.heap.size = S := ⟨_, rfl⟩
  have nS := Holds.new w .u8 167 16 s hs
  have nB : Below w.heap.size w (w.alloc (.cells (arr .u8 s) 167)) := (Below.refl _ w).alloc (Nat.le_refl _) _
  have nv := hv.below nB hB
  have nm := hm.below nB hM
  have nO : OB B w.heap.size w (w.alloc (.cells (arr .u8 s) 167)) := OB.ofBelow nB (Nat.le_refl _)
  rw [hS] at nS nO hB hM
  clear nB hv hm
  have HS : Hid (w.heap.size = S) := hS
  go_enter Tryd.func81, Tryd.ntmps81
  go_wp2
  clear hz
  obtain ⟨w0, hw0⟩ : ∃ w0, w.alloc (.cells (arr .u8 s) 167) = w0 := ⟨_, rfl⟩
  rw [hw0] at nS nv nm nO ⊢
  clear hw0 hS

  go_cut [19] from 6 to 19 (fun _ wx => Holds wx B .u32 16 (mixL v 0 4 8 12 (gv m (gv s 0)) (gv m (gv s 1))) ∧ Holds wx M .u32 16 m ∧ Holds wx S .u8 16 s ∧ OB B S w wx)
  case first =>
    obtain ⟨p0, p1⟩ := hs1 0 (by decide) (by decide); obtain ⟨q0, q1⟩ := hs1 1 (by decide) (by decide)
    have c1 : w0.cell? ⟨S, 0, none⟩ = some (.int .u8 (gv s 0)) := nS.cell 0 (by decide) (by decide)
    have c2 : w0.cell? ⟨S, 1, none⟩ = some (.int .u8 (gv s 1)) := nS.cell 1 (by decide) (by decide)
    have c3 := nm.cell _ p0 p1; have c4 := nm.cell _ q0 q1
    clear hs1
    go_region_held3 (fun w' => w'.cell? ⟨S, 0, none⟩ = some (.int .u8 (gv s 0)) ∧ w'.cell? ⟨S, 1, none⟩ = some (.int .u8 (gv s 1)) ∧ w'.cell? ⟨M, (gv s 0).toNat, none⟩ = some (.int .u32 (gv m (gv s 0))) ∧ w'.cell? ⟨M, (gv s 1).toNat, none⟩ = some (.int .u32 (gv m (gv s 1))))
      (first | go_keep | (refine ⟨(ho.cell (p := ⟨S, 0, none⟩) (by show S ≠ B; omega)).trans ?_, (ho.cell (p := ⟨S, 1, none⟩) (by show S ≠ B; omega)).trans ?_, (ho.cell (p := ⟨M, (gv s 0).toNat, none⟩) hne).trans ?_, (ho.cell (p := ⟨M, (gv s 1).toNat, none⟩) hne).trans ?_⟩ <;> go_keep))
      (first | (go_at_call 91; refine (mix_any B v 0 4 8 12 _ _ _ (by decide) (by decide) (by decide) (by decide) (by decide) (by decide) (by decide) (by decide) nv.drew).mono ?_; rintro e w' ⟨rfl, hh, ho⟩))
    all_goals (go_wp2_with fail; go_meet)
    all_goals exact ⟨hh, nm.drew.only ho hne, nS.drew.only ho (by omega), nO.drew.only ho⟩
  case rest =>
    obtain ⟨h0v, h0m, h0s, h0o⟩ := hcut
    clear nv nm nS nO
    go_wp2
    go_cut [33] from 20 to 33 (fun _ wx => Holds wx B .u32 16 (mixL (mixL v 0 4 8 12 (gv m (gv s 0)) (gv m (gv s 1))) 1 5 9 13 (gv m (gv s 2)) (gv m (gv s 3))) ∧ Holds wx M .u32 16 m ∧ Holds wx S .u8 16 s ∧ OB B S w wx)
    case first =>
      obtain ⟨p0, p1⟩ := hs1 2 (by decide) (by decide); obtain ⟨q0, q1⟩ := hs1 3 (by decide) (by decide)
      have c1 : wc.cell? ⟨S, 2, none⟩ = some (.int .u8 (gv s 2)) := h0s.cell 2 (by decide) (by decide)
      have c2 : wc.cell? ⟨S, 3, none⟩ = some (.int .u8 (gv s 3)) := h0s.cell 3 (by decide) (by decide)
      have c3 := h0m.cell _ p0 p1; have c4 := h0m.cell _ q0 q1
      clear hs1
      go_region_held3 (fun w' => w'.cell? ⟨S, 2, none⟩ = some (.int .u8 (gv s 2)) ∧ w'.cell? ⟨S, 3, none⟩ = some (.int .u8 (gv s 3)) ∧ w'.cell? ⟨M, (gv s 2).toNat, none⟩ = some (.int .u32 (gv m (gv s 2))) ∧ w'.cell? ⟨M, (gv s 3).toNat, none⟩ = some (.int .u32 (gv m (gv s 3))))
        (first | go_keep | (refine ⟨(ho.cell (p := ⟨S, 2, none⟩) (by show S ≠ B; omega)).trans ?_, (ho.cell (p := ⟨S, 3, none⟩) (by show S ≠ B; omega)).trans ?_, (ho.cell (p := ⟨M, (gv s 2).toNat, none⟩) hne).trans ?_, (ho.cell (p := ⟨M, (gv s 3).toNat, none⟩) hne).trans ?_⟩ <;> go_keep))
        (first | (go_at_call 91; refine (mix_any B (mixL v 0 4 8 12 (gv m (gv s 0)) (gv m (gv s 1))) 1 5 9 13 _ _ _ (by decide) (by decide) (by decide) (by decide) (by decide) (by decide) (by decide) (by decide) h0v.drew).mono ?_; rintro e w' ⟨rfl, hh, ho⟩))
      all_goals (go_wp2_with fail; go_meet)
      all_goals exact ⟨hh, h0m.drew.only ho hne, h0s.drew.only ho (by omega), h0o.drew.only ho⟩
    case rest =>
      obtain ⟨h1v, h1m, h1s, h1o⟩ := hcut
      clear h0v h0m h0s h0o
      go_wp2
      go_cut [47] from 34 to 47 (fun _ wx => Holds wx B .u32 16 (mixL (mixL (mixL v 0 4 8 12 (gv m (gv s 0)) (gv m (gv s 1))) 1 5 9 13 (gv m (gv s 2)) (gv m (gv s 3))) 2 6 10 14 (gv m (gv s 4)) (gv m (gv s 5))) ∧ Holds wx M .u32 16 m ∧ Holds wx S .u8 16 s ∧ OB B S w wx)
      case first =>
        obtain ⟨p0, p1⟩ := hs1 4 (by decide) (by decide); obtain ⟨q0, q1⟩ := hs1 5 (by decide) (by decide)
        have c1 : wc.cell? ⟨S, 4, none⟩ = some (.int .u8 (gv s 4)) := h1s.cell 4 (by decide) (by decide)
        have c2 : wc.cell? ⟨S, 5, none⟩ = some (.int .u8 (gv s 5)) := h1s.cell 5 (by decide) (by decide)
        have c3 := h1m.cell _ p0 p1; have c4 := h1m.cell _ q0 q1
        clear hs1
        go_region_held3 (fun w' => w'.cell? ⟨S, 4, none⟩ = some (.int .u8 (gv s 4)) ∧ w'.cell? ⟨S, 5, none⟩ = some (.int .u8 (gv s 5)) ∧ w'.cell? ⟨M, (gv s 4).toNat, none⟩ = some (.int .u32 (gv m (gv s 4))) ∧ w'.cell? ⟨M, (gv s 5).toNat, none⟩ = some (.int .u32 (gv m (gv s 5))))
          (first | go_keep | (refine ⟨(ho.cell (p := ⟨S, 4, none⟩) (by show S ≠ B; omega)).trans ?_, (ho.cell (p := ⟨S, 5, none⟩) (by show S ≠ B; omega)).trans ?_, (ho.cell (p := ⟨M, (gv s 4).toNat, none⟩) hne).trans ?_, (ho.cell (p := ⟨M, (gv s 5).toNat, none⟩) hne).trans ?_⟩ <;> go_keep))
          (first | (go_at_call 91; refine (mix_any B (mixL (mixL v 0 4 8 12 (gv m (gv s 0)) (gv m (gv s 1))) 1 5 9 13 (gv m (gv s 2)) (gv m (gv s 3))) 2 6 10 14 _ _ _ (by decide) (by decide) (by decide) (by decide) (by decide) (by decide) (by decide) (by decide) h1v.drew).mono ?_; rintro e w' ⟨rfl, hh, ho⟩))
        all_goals (go_wp2_with fail; go_meet)
        all_goals exact ⟨hh, h1m.drew.only ho hne, h1s.drew.only ho (by omega), h1o.drew.only ho⟩
      case rest =>
        obtain ⟨h2v, h2m, h2s, h2o⟩ := hcut
        clear h1v h1m h1s h1o
        go_wp2
        go_cut [61] from 48 to 61 (fun _ wx => Holds wx B .u32 16 (mixL (mixL (mixL (mixL v 0 4 8 12 (gv m (gv s 0)) (gv m (gv s 1))) 1 5 9 13 (gv m (gv s 2)) (gv m (gv s 3))) 2 6 10 14 (gv m (gv s 4)) (gv m (gv s 5))) 3 7 11 15 (gv m (gv s 6)) (gv m (gv s 7))) ∧ Holds wx M .u32 16 m ∧ Holds wx S .u8 16 s ∧ OB B S w wx)
        case first =>
          obtain ⟨p0, p1⟩ := hs1 6 (by decide) (by decide); obtain ⟨q0, q1⟩ := hs1 7 (by decide) (by decide)
          have c1 : wc.cell? ⟨S, 6, none⟩ = some (.int .u8 (gv s 6)) := h2s.cell 6 (by decide) (by decide)
          have c2 : wc.cell? ⟨S, 7, none⟩ = some (.int .u8 (gv s 7)) := h2s.cell 7 (by decide) (by decide)
          have c3 := h2m.cell _ p0 p1; have c4 := h2m.cell _ q0 q1
          clear hs1
          go_region_held3 (fun w' => w'.cell? ⟨S, 6, none⟩ = some (.int .u8 (gv s 6)) ∧ w'.cell? ⟨S, 7, none⟩ = some (.int .u8 (gv s 7)) ∧ w'.cell? ⟨M, (gv s 6).toNat, none⟩ = some (.int .u32 (gv m (gv s 6))) ∧ w'.cell? ⟨M, (gv s 7).toNat, none⟩ = some (.int .u32 (gv m (gv s 7))))
            (first | go_keep | (refine ⟨(ho.cell (p := ⟨S, 6, none⟩) (by show S ≠ B; omega)).trans ?_, (ho.cell (p := ⟨S, 7, none⟩) (by show S ≠ B; omega)).trans ?_, (ho.cell (p := ⟨M, (gv s 6).toNat, none⟩) hne).trans ?_, (ho.cell (p := ⟨M, (gv s 7).toNat, none⟩) hne).trans ?_⟩ <;> go_keep))
            (first | (go_at_call 91; refine (mix_any B (mixL (mixL (mixL v 0 4 8 12 (gv m (gv s 0)) (gv m (gv s 1))) 1 5 9 13 (gv m (gv s 2)) (gv m (gv s 3))) 2 6 10 14 (gv m (gv s 4)) (gv m (gv s 5))) 3 7 11 15 _ _ _ (by decide) (by decide) (by decide) (by decide) (by decide) (by decide) (by decide) (by decide) h2v.drew).mono ?_; rintro e w' ⟨rfl, hh, ho⟩))
          all_goals (go_wp2_with fail; go_meet)
          all_goals exact ⟨hh, h2m.drew.only ho hne, h2s.drew.only ho (by omega), h2o.drew.only ho⟩
        case rest =>
          obtain ⟨h3v, h3m, h3s, h3o⟩ := hcut
          clear h2v h2m h2s h2o
          go_wp2
          go_cut [75] from 62 to 75 (fun _ wx => Holds wx B .u32 16 (mixL (mixL (mixL (mixL (mixL v 0 4 8 12 (gv m (gv s 0)) (gv m (gv s 1))) 1 5 9 13 (gv m (gv s 2)) (gv m (gv s 3))) 2 6 10 14 (gv m (gv s 4)) (gv m (gv s 5))) 3 7 11 15 (gv m (gv s 6)) (gv m (gv s 7))) 0 5 10 15 (gv m (gv s 8)) (gv m (gv s 9))) ∧ Holds wx M .u32 16 m ∧ Holds wx S .u8 16 s ∧ OB B S w wx)
          case first =>
            obtain ⟨p0, p1⟩ := hs1 8 (by decide) (by decide); obtain ⟨q0, q1⟩ := hs1 9 (by decide) (by decide)
            have c1 : wc.cell? ⟨S, 8, none⟩ = some (.int .u8 (gv s 8)) := h3s.cell 8 (by decide) (by decide)
            have c2 : wc.cell? ⟨S, 9, none⟩ = some (.int .u8 (gv s 9)) := h3s.cell 9 (by decide) (by decide)
            have c3 := h3m.cell _ p0 p1; have c4 := h3m.cell _ q0 q1
            clear hs1
            go_region_held3 (fun w' => w'.cell? ⟨S, 8, none⟩ = some (.int .u8 (gv s 8)) ∧ w'.cell? ⟨S, 9, none⟩ = some (.int .u8 (gv s 9)) ∧ w'.cell? ⟨M, (gv s 8).toNat, none⟩ = some (.int .u32 (gv m (gv s 8))) ∧ w'.cell? ⟨M, (gv s 9).toNat, none⟩ = some (.int .u32 (gv m (gv s 9))))
              (first | go_keep | (refine ⟨(ho.cell (p := ⟨S, 8, none⟩) (by show S ≠ B; omega)).trans ?_, (ho.cell (p := ⟨S, 9, none⟩) (by show S ≠ B; omega)).trans ?_, (ho.cell (p := ⟨M, (gv s 8).toNat, none⟩) hne).trans ?_, (ho.cell (p := ⟨M, (gv s 9).toNat, none⟩) hne).trans ?_⟩ <;> go_keep))
              (first | (go_at_call 91; refine (mix_any B (mixL (mixL (mixL (mixL v 0 4 8 12 (gv m (gv s 0)) (gv m (gv s 1))) 1 5 9 13 (gv m (gv s 2)) (gv m (gv s 3))) 2 6 10 14 (gv m (gv s 4)) (gv m (gv s 5))) 3 7 11 15 (gv m (gv s 6)) (gv m (gv s 7))) 0 5 10 15 _ _ _ (by decide) (by decide) (by decide) (by decide) (by decide) (by decide) (by decide) (by decide) h3v.drew).mono ?_; rintro e w' ⟨rfl, hh, ho⟩))
            all_goals (go_wp2_with fail; go_meet)
            all_goals exact ⟨hh, h3m.drew.only ho hne, h3s.drew.only ho (by omega), h3o.drew.only ho⟩
          case rest =>
            obtain ⟨h4v, h4m, h4s, h4o⟩ := hcut
            clear h3v h3m h3s h3o
            go_wp2
            go_cut [89] from 76 to 89 (fun _ wx => Holds wx B .u32 16 (mixL (mixL (mixL (mixL (mixL (mixL v 0 4 8 12 (gv m (gv s 0)) (gv m (gv s 1))) 1 5 9 13 (gv m (gv s 2)) (gv m (gv s 3))) 2 6 10 14 (gv m (gv s 4)) (gv m (gv s 5))) 3 7 11 15 (gv m (gv s 6)) (gv m (gv s 7))) 0 5 10 15 (gv m (gv s 8)) (gv m (gv s 9))) 1 6 11 12 (gv m (gv s 10)) (gv m (gv s 11))) ∧ Holds wx M .u32 16 m ∧ Holds wx S .u8 16 s ∧ OB B S w wx)
            case first =>
              obtain ⟨p0, p1⟩ := hs1 10 (by decide) (by decide); obtain ⟨q0, q1⟩ := hs1 11 (by decide) (by decide)
              have c1 : wc.cell? ⟨S, 10, none⟩ = some (.int .u8 (gv s 10)) := h4s.cell 10 (by decide) (by decide)
              have c2 : wc.cell? ⟨S, 11, none⟩ = some (.int .u8 (gv s 11)) := h4s.cell 11 (by decide) (by decide)
              have c3 := h4m.cell _ p0 p1; have c4 := h4m.cell _ q0 q1
              clear hs1
              go_region_held3 (fun w' => w'.cell? ⟨S, 10, none⟩ = some (.int .u8 (gv s 10)) ∧ w'.cell? ⟨S, 11, none⟩ = some (.int .u8 (gv s 11)) ∧ w'.cell? ⟨M, (gv s 10).toNat, none⟩ = some (.int .u32 (gv m (gv s 10))) ∧ w'.cell? ⟨M, (gv s 11).toNat, none⟩ = some (.int .u32 (gv m (gv s 11))))
                (first | go_keep | (refine ⟨(ho.cell (p := ⟨S, 10, none⟩) (by show S ≠ B; omega)).trans ?_, (ho.cell (p := ⟨S, 11, none⟩) (by show S ≠ B; omega)).trans ?_, (ho.cell (p := ⟨M, (gv s 10).toNat, none⟩) hne).trans ?_, (ho.cell (p := ⟨M, (gv s 11).toNat, none⟩) hne).trans ?_⟩ <;> go_keep))
                (first | (go_at_call 91; refine (mix_any B (mixL (mixL (mixL (mixL (mixL v 0 4 8 12 (gv m (gv s 0)) (gv m (gv s 1))) 1 5 9 13 (gv m (gv s 2)) (gv m (gv s 3))) 2 6 10 14 (gv m (gv s 4)) (gv m (gv s 5))) 3 7 11 15 (gv m (gv s 6)) (gv m (gv s 7))) 0 5 10 15 (gv m (gv s 8)) (gv m (gv s 9))) 1 6 11 12 _ _ _ (by decide) (by decide) (by decide) (by decide) (by decide) (by decide) (by decide) (by decide) h4v.drew).mono ?_; rintro e w' ⟨rfl, hh, ho⟩))
              all_goals (go_wp2_with fail; go_meet)
              all_goals exact ⟨hh, h4m.drew.only ho hne, h4s.drew.only ho (by omega), h4o.drew.only ho⟩
            case rest =>
              obtain ⟨h5v, h5m, h5s, h5o⟩ := hcut
              clear h4v h4m h4s h4o
              go_wp2
              go_cut [103] from 90 to 103 (fun _ wx => Holds wx B .u32 16 (mixL (mixL (mixL (mixL (mixL (mixL (mixL v 0 4 8 12 (gv m (gv s 0)) (gv m (gv s 1))) 1 5 9 13 (gv m (gv s 2)) (gv m (gv s 3))) 2 6 10 14 (gv m (gv s 4)) (gv m (gv s 5))) 3 7 11 15 (gv m (gv s 6)) (gv m (gv s 7))) 0 5 10 15 (gv m (gv s 8)) (gv m (gv s 9))) 1 6 11 12 (gv m (gv s 10)) (gv m (gv s 11))) 2 7 8 13 (gv m (gv s 12)) (gv m (gv s 13))) ∧ Holds wx M .u32 16 m ∧ Holds wx S .u8 16 s ∧ OB B S w wx)
              case first =>
                obtain ⟨p0, p1⟩ := hs1 12 (by decide) (by decide); obtain ⟨q0, q1⟩ := hs1 13 (by decide) (by decide)
                have c1 : wc.cell? ⟨S, 12, none⟩ = some (.int .u8 (gv s 12)) := h5s.cell 12 (by decide) (by decide)
                have c2 : wc.cell? ⟨S, 13, none⟩ = some (.int .u8 (gv s 13)) := h5s.cell 13 (by decide) (by decide)
                have c3 := h5m.cell _ p0 p1; have c4 := h5m.cell _ q0 q1
                clear hs1
                go_region_held3 (fun w' => w'.cell? ⟨S, 12, none⟩ = some (.int .u8 (gv s 12)) ∧ w'.cell? ⟨S, 13, none⟩ = some (.int .u8 (gv s 13)) ∧ w'.cell? ⟨M, (gv s 12).toNat, none⟩ = some (.int .u32 (gv m (gv s 12))) ∧ w'.cell? ⟨M, (gv s 13).toNat, none⟩ = some (.int .u32 (gv m (gv s 13))))
                  (first | go_keep | (refine ⟨(ho.cell (p := ⟨S, 12, none⟩) (by show S ≠ B; omega)).trans ?_, (ho.cell (p := ⟨S, 13, none⟩) (by show S ≠ B; omega)).trans ?_, (ho.cell (p := ⟨M, (gv s 12).toNat, none⟩) hne).trans ?_, (ho.cell (p := ⟨M, (gv s 13).toNat, none⟩) hne).trans ?_⟩ <;> go_keep))
                  (first | (go_at_call 91; refine (mix_any B (mixL (mixL (mixL (mixL (mixL (mixL v 0 4 8 12 (gv m (gv s 0)) (gv m (gv s 1))) 1 5 9 13 (gv m (gv s 2)) (gv m (gv s 3))) 2 6 10 14 (gv m (gv s 4)) (gv m (gv s 5))) 3 7 11 15 (gv m (gv s 6)) (gv m (gv s 7))) 0 5 10 15 (gv m (gv s 8)) (gv m (gv s 9))) 1 6 11 12 (gv m (gv s 10)) (gv m (gv s 11))) 2 7 8 13 _ _ _ (by decide) (by decide) (by decide) (by decide) (by decide) (by decide) (by decide) (by decide) h5v.drew).mono ?_; rintro e w' ⟨rfl, hh, ho⟩))
                all_goals (go_wp2_with fail; go_meet)
                all_goals exact ⟨hh, h5m.drew.only ho hne, h5s.drew.only ho (by omega), h5o.drew.only ho⟩
              case rest =>
                obtain ⟨h6v, h6m, h6s, h6o⟩ := hcut
                clear h5v h5m h5s h5o
                go_wp2
                obtain ⟨p0, p1⟩ := hs1 14 (by decide) (by decide); obtain ⟨q0, q1⟩ := hs1 15 (by decide) (by decide)
                have c1 : wc.cell? ⟨S, 14, none⟩ = some (.int .u8 (gv s 14)) := h6s.cell 14 (by decide) (by decide)
                have c2 : wc.cell? ⟨S, 15, none⟩ = some (.int .u8 (gv s 15)) := h6s.cell 15 (by decide) (by decide)
                have c3 := h6m.cell _ p0 p1; have c4 := h6m.cell _ q0 q1
                clear hs1
                go_region_held3 (fun w' => w'.cell? ⟨S, 14, none⟩ = some (.int .u8 (gv s 14)) ∧ w'.cell? ⟨S, 15, none⟩ = some (.int .u8 (gv s 15)) ∧ w'.cell? ⟨M, (gv s 14).toNat, none⟩ = some (.int .u32 (gv m (gv s 14))) ∧ w'.cell? ⟨M, (gv s 15).toNat, none⟩ = some (.int .u32 (gv m (gv s 15))))
                  (first | go_keep | (refine ⟨(ho.cell (p := ⟨S, 14, none⟩) (by show S ≠ B; omega)).trans ?_, (ho.cell (p := ⟨S, 15, none⟩) (by show S ≠ B; omega)).trans ?_, (ho.cell (p := ⟨M, (gv s 14).toNat, none⟩) hne).trans ?_, (ho.cell (p := ⟨M, (gv s 15).toNat, none⟩) hne).trans ?_⟩ <;> go_keep))
                  (first | (go_at_call 91; refine (mix_any B (mixL (mixL (mixL (mixL (mixL (mixL (mixL v 0 4 8 12 (gv m (gv s 0)) (gv m (gv s 1))) 1 5 9 13 (gv m (gv s 2)) (gv m (gv s 3))) 2 6 10 14 (gv m (gv s 4)) (gv m (gv s 5))) 3 7 11 15 (gv m (gv s 6)) (gv m (gv s 7))) 0 5 10 15 (gv m (gv s 8)) (gv m (gv s 9))) 1 6 11 12 (gv m (gv s 10)) (gv m (gv s 11))) 2 7 8 13 (gv m (gv s 12)) (gv m (gv s 13))) 3 4 9 14 _ _ _ (by decide) (by decide) (by decide) (by decide) (by decide) (by decide) (by decide) (by decide) h6v.drew).mono ?_; rintro e w' ⟨rfl, hh, ho⟩))
                all_goals (go_end0; exact ⟨rfl, hh, HS.out ▸ h6o.drew.only ho⟩)
end Go.Proofs.YtihilkdokfdoeaaDoor
