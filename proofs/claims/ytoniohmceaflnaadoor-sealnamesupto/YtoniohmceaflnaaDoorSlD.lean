import Derived.Test.YtoniohmceaflnaaDoorSlC
namespace Go.Proofs.YtoniohmceaflnaaDoor
open Go.RowKit
attribute [local go_sem ↓] Go.wp_at_zero Go.wp_at_succ

/-- Is a ring there, with this seed? -/
def RingAt (w : World) (r : Option Addr) (seed : Option (List UInt8)) : Prop :=
  (r = none ∧ seed = none) ∨ ∃ B s, r = some ⟨B, 0, none⟩ ∧ seed = some s ∧ s.length ≤ 32 ∧ w.cell? ⟨B, 0, none⟩ = some (.string (bs s))
def tagErr (seed : Option (List UInt8)) (g n : Int) : Int := if ¬ isP g n then 1 else if seed = none then 7 else 0
def tagNum (seed : Option (List UInt8)) (g n : Int) (t : List UInt8) : List Int := if tagErr seed g n = 0 then bn (tagS (seed.getD []) g n t) else zeroT
theorem tagOf_any (r : Option Addr) (seed : Option (List UInt8)) (g n : Int) (t : List UInt8) (w : World) (he : EnvP w) (hb : EnvB w) (hr : RingAt w r seed) (ht : seed ≠ none → t.length ≤ 140737488355328) :
    Calls Tryd.prog 40 #[.pointer r, .agg #[.int .i64 g, .int .i64 n], .string (bs t)] w fun e W' => e = .returned (.tuple #[.agg (arr .u8 (tagNum seed g n t)), .int .i64 (tagErr seed g n)]) ∧ Below w.heap.size w W' := by
  by_cases hp : isP g n
  · rcases hr with ⟨rfl, rfl⟩ | ⟨B, s, rfl, rfl, hs, hc⟩
    · have e1 : tagErr none g n = 7 := by simp [tagErr, hp]
      have e2 : tagNum none g n t = zeroT := by simp [tagNum, e1]
      rw [e1, e2]
      exact tagOf_nil g n t w he hp
    · have e1 : tagErr (some s) g n = 0 := by simp [tagErr, hp]
      have e2 : tagNum (some s) g n t = bn (tagS s g n t) := by simp [tagNum, e1]
      rw [e1, e2]
      exact tagOf_ok B s g n t w he hb hp hs (ht (by simp)) hc
  · have e1 : tagErr seed g n = 1 := by simp only [tagErr, if_pos hp]
    have e2 : tagNum seed g n t = zeroT := by simp [tagNum, e1]
    rw [e1, e2]
    exact tagOf_no r g n t w he hp
theorem tagNum_len (seed : Option (List UInt8)) (g n : Int) (t : List UInt8) : (tagNum seed g n t).length = 16 := by
  unfold tagNum
  split
  · rw [bn_len, tagS_len]
  · rfl
/-- A party's tag of a text, or none. -/
def sigV (seed : Option (List UInt8)) (g n : Int) (t : List UInt8) : List UInt8 := if tagErr seed g n = 0 then tagS (seed.getD []) g n t else []

theorem str_bn (l : List UInt8) : strOfNums (bn l) = bs l := by
  unfold strOfNums bn bs
  congr 1
  congr 1
  rw [List.map_map]
  conv => rhs; rw [← List.map_id l]
  apply List.map_congr_left
  intro b _
  simp
set_option maxRecDepth 20000 in
set_option maxHeartbeats 2000000 in
theorem Tag_any (r : Option Addr) (seed : Option (List UInt8)) (g n : Int) (t : List UInt8) (w : World) (he : EnvP w) (hb : EnvB w) (hr : RingAt w r seed) (ht : seed ≠ none → t.length ≤ 140737488355328) :
    Calls Tryd.prog 15 #[.pointer r, .agg #[.int .i64 g, .int .i64 n], .string (bs t)] w fun e W' => e = .returned (.tuple #[.string (bs (sigV seed g n t)), .int .i64 (tagErr seed g n)]) ∧ Below w.heap.size w W' := by
  have hb1 : Below w.heap.size w (w.alloc (.cells #[.int .i64 g, .int .i64 n] 23)) := (Below.refl _ w).alloc (Nat.le_refl _) _
  have hrw : RingAt (w.alloc (.cells #[.int .i64 g, .int .i64 n] 23)) r seed := by
    rcases hr with h | ⟨B, s, h1, h2, h3, h4⟩
    · exact .inl h
    · exact .inr ⟨B, s, h1, h2, h3, (hb1.cell (p := ⟨B, 0, none⟩) (World.block_lt_of_cell? w _ h4)).trans h4⟩
  have hT := tagOf_any r seed g n t _ (he.next hb1) (hb.next hb1) hrw ht
  have hnl := tagNum_len seed g n t
  by_cases h0 : tagErr seed g n = 0
  · have e1 : sigV seed g n t = tagS (seed.getD []) g n t := if_pos h0
    have e2 : tagNum seed g n t = bn (sigV seed g n t) := by rw [e1]; exact if_pos h0
    rw [e2, h0] at hT
    rw [e2] at hnl
    rw [h0]
    obtain ⟨TV, hTV⟩ : ∃ TV, sigV seed g n t = TV := ⟨_, rfl⟩
    rw [hTV] at hT hnl ⊢
    clear hTV e1 e2 h0
    go_enter Tryd.func15, Tryd.ntmps15
    go_wp2_with fail
    refine hT.mono ?_
    clear hT
    rintro e w1 ⟨rfl, hb2⟩
    have hB1 := hb1.trans (hb2.mono hb1.size)
    have hHn : Holds (w1.alloc (.cells #[.int .u8 0, .int .u8 0, .int .u8 0, .int .u8 0, .int .u8 0, .int .u8 0, .int .u8 0, .int .u8 0, .int .u8 0, .int .u8 0, .int .u8 0, .int .u8 0, .int .u8 0, .int .u8 0, .int .u8 0, .int .u8 0] 83)) w1.heap.size .u8 16 zeroT := Holds.new w1 .u8 83 16 zeroT rfl
    have hHt := hHn.sets (bn TV) hnl
    have hcv : (convert 86 9 (.slice (some ⟨w1.heap.size, 0, none⟩) 16 16)).run Tryd.prog ((w1.alloc (.cells #[.int .u8 0, .int .u8 0, .int .u8 0, .int .u8 0, .int .u8 0, .int .u8 0, .int .u8 0, .int .u8 0, .int .u8 0, .int .u8 0, .int .u8 0, .int .u8 0, .int .u8 0, .int .u8 0, .int .u8 0, .int .u8 0] 83)).setCells w1.heap.size 0 (cellsOf .u8 (bn TV))) = .ok (.string (bs TV)) ((w1.alloc (.cells #[.int .u8 0, .int .u8 0, .int .u8 0, .int .u8 0, .int .u8 0, .int .u8 0, .int .u8 0, .int .u8 0, .int .u8 0, .int .u8 0, .int .u8 0, .int .u8 0, .int .u8 0, .int .u8 0, .int .u8 0, .int .u8 0] 83)).setCells w1.heap.size 0 (cellsOf .u8 (bn TV))) := by
      have h := run_convert_bytes_arg (P := Tryd.prog) ((w1.alloc (.cells #[.int .u8 0, .int .u8 0, .int .u8 0, .int .u8 0, .int .u8 0, .int .u8 0, .int .u8 0, .int .u8 0, .int .u8 0, .int .u8 0, .int .u8 0, .int .u8 0, .int .u8 0, .int .u8 0, .int .u8 0, .int .u8 0] 83)).setCells w1.heap.size 0 (cellsOf .u8 (bn TV))) 86 5 Tryd.underlying86 Tryd.underlying5 w1.heap.size 0 16 16 (bn TV) hnl (fun i hi => by rw [Nat.zero_add, hHt.cellN i (by omega)]; simp [gv, List.getElem?_eq_getElem (show i < (bn TV).length by omega)]) 9 Tryd.underlying9
      rw [str_bn] at h
      exact h
    have hBt := hB1.trans (((Below.refl w1.heap.size w1).alloc (Nat.le_refl _) (.cells #[.int .u8 0, .int .u8 0, .int .u8 0, .int .u8 0, .int .u8 0, .int .u8 0, .int .u8 0, .int .u8 0, .int .u8 0, .int .u8 0, .int .u8 0, .int .u8 0, .int .u8 0, .int .u8 0, .int .u8 0, .int .u8 0] 83)).trans ((only_setCells w1.heap.size (cellsOf .u8 (bn TV)) 0 _).below (Nat.le_refl _)) |>.mono hB1.size)
    go_wp2_with (first
      | (refine wpList_store_holds rfl 83 _ _ rfl w1.heap.size .u8 16 zeroT (bn TV) rfl rfl hHn hnl Tryd.size77 ?_))
    go_ret2
    exact ⟨rfl, hBt⟩
  · have e1 : sigV seed g n t = [] := if_neg h0
    have hq : (tagErr seed g n != 0) = true := by simpa using h0
    rw [e1]
    obtain ⟨E, hE⟩ : ∃ E, tagErr seed g n = E := ⟨_, rfl⟩
    rw [hE] at hT hq ⊢
    obtain ⟨TN, hTN⟩ : ∃ TN, tagNum seed g n t = TN := ⟨_, rfl⟩
    rw [hTN] at hT hnl
    clear hTN hE h0 e1
    go_enter Tryd.func15, Tryd.ntmps15
    go_wp2_with fail
    refine hT.mono ?_
    clear hT
    rintro e w1 ⟨rfl, hb2⟩
    have hB1 := hb1.trans (hb2.mono hb1.size)
    have hHn : Holds (w1.alloc (.cells #[.int .u8 0, .int .u8 0, .int .u8 0, .int .u8 0, .int .u8 0, .int .u8 0, .int .u8 0, .int .u8 0, .int .u8 0, .int .u8 0, .int .u8 0, .int .u8 0, .int .u8 0, .int .u8 0, .int .u8 0, .int .u8 0] 83)) w1.heap.size .u8 16 zeroT := Holds.new w1 .u8 83 16 zeroT rfl
    go_wp2_with (first
      | (refine wpList_store_holds rfl 83 _ _ rfl w1.heap.size .u8 16 zeroT TN rfl rfl hHn hnl Tryd.size77 ?_))
    go_ret2
    exact ⟨rfl, hB1.trans (((Below.refl w1.heap.size w1).alloc (Nat.le_refl _) _).trans ((only_setCells w1.heap.size _ 0 _).below (Nat.le_refl _)) |>.mono hB1.size)⟩
end Go.Proofs.YtoniohmceaflnaaDoor
