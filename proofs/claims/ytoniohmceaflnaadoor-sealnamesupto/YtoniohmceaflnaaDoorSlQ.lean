import Derived.Test.YtoniohmceaflnaaDoorSlD
namespace Go.Proofs.YtoniohmceaflnaaDoor
open Go.RowKit

set_option maxRecDepth 20000 in
set_option maxHeartbeats 4000000 in
theorem eq16 (a0 a1 a2 a3 a4 a5 a6 a7 a8 a9 a10 a11 a12 a13 a14 a15 b0 b1 b2 b3 b4 b5 b6 b7 b8 b9 b10 b11 b12 b13 b14 b15 : Int) (w : World) : (Op.equalIn 10000 83 (.agg #[.int .u8 a0, .int .u8 a1, .int .u8 a2, .int .u8 a3, .int .u8 a4, .int .u8 a5, .int .u8 a6, .int .u8 a7, .int .u8 a8, .int .u8 a9, .int .u8 a10, .int .u8 a11, .int .u8 a12, .int .u8 a13, .int .u8 a14, .int .u8 a15]) (.agg #[.int .u8 b0, .int .u8 b1, .int .u8 b2, .int .u8 b3, .int .u8 b4, .int .u8 b5, .int .u8 b6, .int .u8 b7, .int .u8 b8, .int .u8 b9, .int .u8 b10, .int .u8 b11, .int .u8 b12, .int .u8 b13, .int .u8 b14, .int .u8 b15])).run Tryd.prog w = .ok (decide ([a0, a1, a2, a3, a4, a5, a6, a7, a8, a9, a10, a11, a12, a13, a14, a15] = [b0, b1, b2, b3, b4, b5, b6, b7, b8, b9, b10, b11, b12, b13, b14, b15])) w := by
  have hu5 := Tryd.underlying5
  have ha5 := Tryd.isAgg5
  have hz5 := Tryd.sizeOf5
  rw [show (10000 : Nat) = 9999 + 1 from rfl, Op.equalIn]
  simp only [Sem.run_bind, run_underlying Tryd.underlying83, Result.andThen_ok]
  simp only [Std.Legacy.Range.forIn_eq_forIn_range', Std.Legacy.Range.size, Nat.sub_zero, Nat.add_sub_cancel, Nat.div_one, List.range'_succ, List.range'_zero, List.forIn_cons, List.forIn_nil]
  go_simp
  by_cases h0 : a0 = b0
  case neg => simp [h0]
  subst h0
  by_cases h1 : a1 = b1
  case neg => simp [h1]
  subst h1
  by_cases h2 : a2 = b2
  case neg => simp [h2]
  subst h2
  by_cases h3 : a3 = b3
  case neg => simp [h3]
  subst h3
  by_cases h4 : a4 = b4
  case neg => simp [h4]
  subst h4
  by_cases h5 : a5 = b5
  case neg => simp [h5]
  subst h5
  by_cases h6 : a6 = b6
  case neg => simp [h6]
  subst h6
  by_cases h7 : a7 = b7
  case neg => simp [h7]
  subst h7
  by_cases h8 : a8 = b8
  case neg => simp [h8]
  subst h8
  by_cases h9 : a9 = b9
  case neg => simp [h9]
  subst h9
  by_cases h10 : a10 = b10
  case neg => simp [h10]
  subst h10
  by_cases h11 : a11 = b11
  case neg => simp [h11]
  subst h11
  by_cases h12 : a12 = b12
  case neg => simp [h12]
  subst h12
  by_cases h13 : a13 = b13
  case neg => simp [h13]
  subst h13
  by_cases h14 : a14 = b14
  case neg => simp [h14]
  subst h14
  by_cases h15 : a15 = b15
  case neg => simp [h15]
  subst h15
  simp
theorem list16 (v : List Int) (h : v.length = 16) : v = [gv v 0, gv v 1, gv v 2, gv v 3, gv v 4, gv v 5, gv v 6, gv v 7, gv v 8, gv v 9, gv v 10, gv v 11, gv v 12, gv v 13, gv v 14, gv v 15] := by
  match v, h with
  | [x0, x1, x2, x3, x4, x5, x6, x7, x8, x9, x10, x11, x12, x13, x14, x15], _ => rfl
theorem bn_inj {ms cs : List UInt8} (h : bn ms = bn cs) : ms = cs := by
  have : strOfNums (bn ms) = strOfNums (bn cs) := by rw [h]
  rw [str_bn, str_bn] at this
  exact bs_inj this
set_option maxRecDepth 20000 in
theorem eqarr (ms cs : List UInt8) (ha : ms.length = 16) (hc : cs.length = 16) (w : World) : (Op.equalIn 10000 83 (.agg (arr .u8 (bn ms))) (.agg (arr .u8 (bn cs)))).run Tryd.prog w = .ok (decide (ms = cs)) w := by
  have e1 := list16 (bn ms) (by rw [bn_len, ha])
  have e2 := list16 (bn cs) (by rw [bn_len, hc])
  have h := eq16 (gv (bn ms) 0) (gv (bn ms) 1) (gv (bn ms) 2) (gv (bn ms) 3) (gv (bn ms) 4) (gv (bn ms) 5) (gv (bn ms) 6) (gv (bn ms) 7) (gv (bn ms) 8) (gv (bn ms) 9) (gv (bn ms) 10) (gv (bn ms) 11) (gv (bn ms) 12) (gv (bn ms) 13) (gv (bn ms) 14) (gv (bn ms) 15) (gv (bn cs) 0) (gv (bn cs) 1) (gv (bn cs) 2) (gv (bn cs) 3) (gv (bn cs) 4) (gv (bn cs) 5) (gv (bn cs) 6) (gv (bn cs) 7) (gv (bn cs) 8) (gv (bn cs) 9) (gv (bn cs) 10) (gv (bn cs) 11) (gv (bn cs) 12) (gv (bn cs) 13) (gv (bn cs) 14) (gv (bn cs) 15) w
  rw [← e1, ← e2] at h
  have a1 : arr .u8 (bn ms) = #[.int .u8 (gv (bn ms) 0), .int .u8 (gv (bn ms) 1), .int .u8 (gv (bn ms) 2), .int .u8 (gv (bn ms) 3), .int .u8 (gv (bn ms) 4), .int .u8 (gv (bn ms) 5), .int .u8 (gv (bn ms) 6), .int .u8 (gv (bn ms) 7), .int .u8 (gv (bn ms) 8), .int .u8 (gv (bn ms) 9), .int .u8 (gv (bn ms) 10), .int .u8 (gv (bn ms) 11), .int .u8 (gv (bn ms) 12), .int .u8 (gv (bn ms) 13), .int .u8 (gv (bn ms) 14), .int .u8 (gv (bn ms) 15)] := congrArg (arr .u8) e1
  have a2 : arr .u8 (bn cs) = #[.int .u8 (gv (bn cs) 0), .int .u8 (gv (bn cs) 1), .int .u8 (gv (bn cs) 2), .int .u8 (gv (bn cs) 3), .int .u8 (gv (bn cs) 4), .int .u8 (gv (bn cs) 5), .int .u8 (gv (bn cs) 6), .int .u8 (gv (bn cs) 7), .int .u8 (gv (bn cs) 8), .int .u8 (gv (bn cs) 9), .int .u8 (gv (bn cs) 10), .int .u8 (gv (bn cs) 11), .int .u8 (gv (bn cs) 12), .int .u8 (gv (bn cs) 13), .int .u8 (gv (bn cs) 14), .int .u8 (gv (bn cs) 15)] := congrArg (arr .u8) e2
  have hd : decide (bn ms = bn cs) = decide (ms = cs) := by
    by_cases h2 : ms = cs
    · subst h2; simp
    · rw [decide_eq_false h2, decide_eq_false (fun h3 => h2 (bn_inj h3))]
  rw [a1, a2, h, hd]
theorem wpList_load_holds_g {P : Program} {ops : Array Oper} {rest : List Oper} {op : Oper} {a : Act} {w : World} {Q : Exit → Act → World → Prop} (ty : TypeId) (x : Operand) (ho : op.op = .load ty x)
    (B : Nat) (hx : a.eval x = .pointer (some ⟨B, 0, none⟩)) (k : IntKind) (n : Nat) (v : List Int) (d : TypeDesc) (hH : Holds w B k n v)
    (hu : P.underlying ty = some d) (hd : d.isRow = true) (hi : (P.info? ty).map (·.size) = some n) (hw : Region.wanted op (yielded ops a.tmps) = true)
    (h : wpList P ops Q rest (a.put op.dst (.agg (arr k v))) w) : wpList P ops Q (op :: rest) a w :=
  wpList_step fun K hK => by
    rw [if_pos hw]
    exact wp_load_mid ty x ho B 0 hx (cellsOf k v) d hH.range hu hd (by rw [hi, cells_len, hH.len]) (hK _ _ h)
end Go.Proofs.YtoniohmceaflnaaDoor
