/- The law ShardOnce, walked. -/
import Derived.Test.YtgmobjdjojffgaaDoorSfD
namespace Go.Proofs.YtgmobjdjojffgaaDoor
open Go.RowKit
attribute [local go_sem ↓] Go.wp_at_zero Go.wp_at_succ

theorem dcs_len (D : List St8) : (dcs D).length = D.length * 8 := by
  induction D with
  | nil => rfl
  | cons y D ih => simp only [dcs, List.flatMap_cons, List.length_append, List.length_cons, St8.cells, List.length_nil] at ih ⊢; omega
theorem dcs_at {D : List St8} {n : Nat} {y : St8} (h : D[n]? = some y) {r : Nat} (hr : r < 8) : (dcs D)[n * 8 + r]? = y.cells[r]? := by
  obtain ⟨hi, e⟩ := List.getElem?_eq_some_iff.1 h
  have hs : D = D.take n ++ y :: D.drop (n + 1) := by rw [← e]; simp
  have hn : (dcs (D.take n)).length = n * 8 := by rw [dcs_len, List.length_take, Nat.min_eq_left (by omega)]
  rw [hs, dcs_append, List.getElem?_append_right (by omega), hn, show n * 8 + r - n * 8 = r by omega, show dcs (y :: D.drop (n + 1)) = y.cells ++ dcs (D.drop (n + 1)) by simp [dcs], List.getElem?_append_left (by simpa [St8.cells] using hr)]
theorem own8 {w : World} {base : Nat} {a : Option Addr} {c : Nat} {D : List St8} (h : w.ownsRow base 44 8 (.slice a D.length c) D.length (dcs D)) {n : Nat} {y : St8} (hy : D[n]? = some y) : ∃ g, a = some ⟨g, 0, none⟩ ∧ g < w.heap.size ∧ ∀ r u, y.cells[r]? = some u → w.cell? ⟨g, n * 8 + r, none⟩ = some u := by
  have hn : n < D.length := (List.getElem?_eq_some_iff.1 hy).1
  obtain ⟨hl, h⟩ := h
  rcases h with ⟨e, h0⟩ | ⟨g, cap, cur, e, hb, hh, h1, h2, h3, h4⟩
  · omega
  · injection e with e1 _ _
    refine ⟨g, e1, (Array.getElem?_eq_some_iff.1 hh).1, fun r u hu => ?_⟩
    have hr : r < 8 := by
      have := (List.getElem?_eq_some_iff.1 hu).1
      simpa [St8.cells] using this
    have e2 : (cur.toList.take (D.length * 8))[n * 8 + r]? = (dcs D)[n * 8 + r]? := by rw [h4]
    rw [List.getElem?_take_of_lt (by omega), dcs_at hy hr, hu] at e2
    rw [← e2]
    unfold World.cell?
    simp only [hh]
    simp
theorem Tryd.info44L : (Tryd.prog.info? 44).map (fun i => (i.zero, i.size, i.bytes)) = some (some (.agg #[.int .i64 0, .int .i64 0, .int .i64 0, .int .i64 0, .string ⟨#[]⟩, .string ⟨#[]⟩, .string ⟨#[]⟩, .string ⟨#[]⟩]), 8, 96) := by kernel_rfl
theorem start_on {w W : World} (h : ShAt W w.heap.size sh0 0 (.slice none 0 0)) (hb : Below w.heap.size w W) : Calls Tryd.prog 15 #[.pointer (some ⟨w.heap.size, 0, none⟩)] W fun e W' => e = .returned (.int .i64 0) ∧ On w W' w.heap.size shB [] (.slice none 0 0) [] := by
  refine (Begin_ok h rfl).mono ?_
  rintro e W' ⟨rfl, h1, hm⟩
  exact ⟨rfl, ⟨_, _, h1, hb.size, (fun k e => by cases e), fun x hx => by cases hx⟩, Nat.le_refl _, rfl, ⟨OkC.zero, Ok.nil, by show (0 : Int) ≤ 1; decide, by show (1 : Int) ≤ 3; decide⟩, World.ownsRow_nil _ _ _ _, hb.trans (hm.below (Nat.le_refl _) hb.size), (fun d hd => by cases hd), fun x hx => by cases hx⟩
set_option maxRecDepth 20000 in
set_option maxHeartbeats 8000000 in
theorem once_any {w : World} {v : Value} {l : List St8} (he : Env w) (hI : Stl w v l) (hT : ∀ s ∈ l, s.t.length ≤ 140737488355328) (hM : l.length ≤ 9223372036854775807) : Calls Tryd.prog 4 #[v] w fun e W' => e = .returned (.bool true) ∧ Below w.heap.size w W' := by
  obtain ⟨va, vc, rfl⟩ := hI.slice
  have hN := fz_new w
  have HSv : Hid (∀ W, Below w.heap.size w W → Calls Tryd.prog 8 #[] W fun e W' => e = .returned (.bool true) ∧ Below w.heap.size w W') := fun W hb => (serves_any W).mono fun e W' h => ⟨h.1, hb.trans (h.2.mono hb.size)⟩
  have HLg : Hid (∀ W, Below w.heap.size w W → Calls Tryd.prog 14 #[.slice va l.length vc] W fun e W' => LgPost W l.length e W') := fun W hb => large_any (hI.on hb) hT hM
  have HI : Hid (Stl w (.slice va l.length vc) l) := hI
  have HE : Hid (Env w) := he
  clear hI hT he
  go_enter Tryd.func4, Tryd.ntmps4
  go_upto_region 3 with (first
    | (go_at_call 13; refine hN.mono ?_; clear hN; rintro e w1 ⟨rfl, k1⟩; have hlg := HLg.out _ k1.2; clear HLg)
    | (go_at_call 14; refine hlg.mono ?_; clear hlg; rintro e w2 ⟨b, rfl, hb200, hb2⟩; have hb12 := k1.2.trans (hb2.mono k1.2.size); have hbg := start_on (k1.1.on hb2) hb12; cases b)
    | (go_at_call 15; refine hbg.mono ?_; clear hbg; rintro e w3 ⟨rfl, hOn0⟩))
  rotate_left
  · have hv := HSv.out _ hb12
    go_wp2_with (first | (go_at_call 8; refine hv.mono ?_; clear hv; rintro e w6 ⟨rfl, hb6⟩))
    go_ret
    exact ⟨rfl, hb6⟩
  have h200 : l.length ≤ 200 := by simpa using hb200
  obtain ⟨B0, hB0⟩ : ∃ B, w.heap.size = B := ⟨_, rfl⟩
  have hOn1 : On w w3 B0 shB [] (.slice none 0 0) [] := by rw [← hB0]; exact hOn0
  rw [hB0]
  clear hb200 hb12 hb2 k1 hOn0 hB0
  go_loopg [3, 4, 34] l.length (fun gk p dn i wr => ∃ (j B : Nat) (s : Sh) (D : List St8) (u : Value), j + gk = l.length ∧ p = .pointer (some ⟨B, 0, none⟩) ∧ dn = u ∧ i = .int .i64 (j : Int) ∧ On w wr B s D u [] ∧ D.length ≤ j)
  case atStart => exact ⟨0, B0, shB, [], _, by omega, rfl, rfl, rfl, hOn1, by simp⟩
  case round =>
    clear hOn1
    obtain ⟨j, B, s, D, u, hj, rfl, rfl, rfl, hOn, hDj⟩ := hrel
    obtain ⟨ua, uc, rfl⟩ := owns_slice hOn.own
    by_cases hne : j = l.length
    case pos =>
      subst hne
      have hv := HSv.out _ hOn.below
      clear HSv
      go_wp2_with (first | (go_at_call 8; refine hv.mono ?_; clear hv; rintro e w6 ⟨rfl, hb6⟩))
      go_ret
      exact ⟨rfl, hb6⟩
    obtain ⟨d, hd⟩ : ∃ d, l[j]? = some d := ⟨_, List.getElem?_eq_getElem (by omega)⟩
    obtain ⟨b, o, rfl, hb0, hc⟩ := (HI.out.on hOn.below).row hd
    have c0 := hc 0 _ rfl
    have c1 := hc 1 _ rfl
    have c2 := hc 2 _ rfl
    have c3 := hc 3 _ rfl
    have c4 := hc 4 _ rfl
    have c5 := hc 5 _ rfl
    have c6 := hc 6 _ rfl
    have c7 := hc 7 _ rfl
    rw [Nat.add_zero] at c0
    have hji : (j : Int) < (l.length : Int) := by omega
    have hwj : IntKind.i64.wrap ((j : Int) + 1) = ((j + 1 : Nat) : Int) := wrap_to (by omega) (by omega) (by omega)
    have hOn2 := hOn.alloc (.cells #[.int .i64 d.op, .int .i64 d.client, .int .i64 d.number, .int .i64 d.x.kind, .string (bs d.x.k), .string (bs d.x.v), .string (bs d.x.o), .string (bs d.t)] 44)
    obtain ⟨W2, hW2⟩ : ∃ W, wr.alloc (.cells #[.int .i64 d.op, .int .i64 d.client, .int .i64 d.number, .int .i64 d.x.kind, .string (bs d.x.k), .string (bs d.x.v), .string (bs d.x.o), .string (bs d.t)] 44) = W := ⟨_, rfl⟩
    obtain ⟨X, hX⟩ : ∃ X, wr.heap.size = X := ⟨_, rfl⟩
    have HW2 : Hid (wr.alloc (.cells #[.int .i64 d.op, .int .i64 d.client, .int .i64 d.number, .int .i64 d.x.kind, .string (bs d.x.k), .string (bs d.x.v), .string (bs d.x.o), .string (bs d.t)] 44) = W2) := hW2
    have HX : Hid (wr.heap.size = X) := hX
    rw [hW2, hX] at hOn2
    have rX := (hOn2.kept (X, .cells #[.int .i64 d.op, .int .i64 d.client, .int .i64 d.number, .int .i64 d.x.kind, .string (bs d.x.k), .string (bs d.x.v), .string (bs d.x.o), .string (bs d.t)] 44) (by simp)).1
    have w0 := cellB rX 0 (.int .i64 d.op) rfl
    have hXl0 := (Array.getElem?_eq_some_iff.1 rX).1
    clear hc hd hW2 hX rX
    go_upto_region 9 with fail
    rw [HW2.out, HX.out]
    clear HW2 HX c0 c1 c2 c3 c4 c5 c6 c7 hb0 hOn
    by_cases hop : 2 < d.op
    case pos =>
      have hss := str_same (contT s.l s.c)
      have hfz := hOn2.freeze
      have HNu : Hid (_) := hOn2.num
      have HOK : Hid (OkS s) := hOn2.ok
      obtain ⟨XX, hXX⟩ : ∃ x, contT s.l s.c = x := ⟨_, rfl⟩
      have HF1 : Hid (∀ W1, Fz w W1 B s D (.slice ua D.length uc) → (∀ W, M3 W1 W → Calls Tryd.prog 19 #[.pointer (some ⟨B, 0, none⟩)] W fun e W' => e = .returned (.string (bs XX)) ∧ M3 W1 W') ∧ (∀ W, M3 W1 W → Calls Tryd.prog 18 #[.pointer (some ⟨W1.heap.size, 0, none⟩), .string (bs XX)] W fun e W' => e = .returned (.int .i64 0) ∧ M1 w W1 W' s D (.slice ua D.length uc)) ∧ (∀ W, M1 w W1 W s D (.slice ua D.length uc) → Calls Tryd.prog 19 #[.pointer (some ⟨W1.heap.size, 0, none⟩)] W fun e W' => e = .returned (.string (bs XX)) ∧ M1 w W1 W' s D (.slice ua D.length uc)) ∧ (∀ W, M1 w W1 W s D (.slice ua D.length uc) → Calls Tryd.prog 19 #[.pointer (some ⟨B, 0, none⟩)] W fun e W' => e = .returned (.string (bs XX)) ∧ M1 w W1 W' s D (.slice ua D.length uc))) := fun W1 hf => by
        rw [← hXX]
        refine ⟨fun W h => ?_, fun W h => m3_install HE.out hf HOK.out HNu.out h, fun W h => m1_content HE.out.p h, fun W h => ?_⟩
        · refine (fz_content HE.out.p hf HOK.out h.2).mono ?_
          rintro e W' ⟨rfl, hb⟩
          exact ⟨rfl, h.1.on hb, h.2.trans (hb.mono h.2.size)⟩
        · refine (fz_content HE.out.p hf HOK.out h.2).mono ?_
          rintro e W' ⟨rfl, hb⟩
          exact ⟨rfl, h.1.new hb, h.2.trans (hb.mono h.2.size)⟩
      rw [hXX] at hss
      clear hXX hOn2
      go_wp2_with (first
        | (go_at_call 16; refine hfz.mono ?_; clear hfz; rintro e w4 ⟨rfl, k4⟩; obtain ⟨f1, f2, f3, f4⟩ := HF1.out _ k4; have F1 : Hid (_) := f1; have F2 : Hid (_) := f2; have F3 : Hid (_) := f3; have F4 : Hid (_) := f4; have hnw := fz_new w4; clear HF1 f1 f2 f3 f4 k4)
        | (go_at_call 13; refine hnw.mono ?_; clear hnw; rintro e w5 ⟨rfl, k5⟩; have hpl := m0_pull k5; clear k5)
        | (go_at_call 17; refine hpl.mono ?_; clear hpl; rintro e w6 ⟨rfl, k6⟩; have hca := F1.out _ k6; clear F1 k6)
        | (go_at_call 19; refine hca.mono ?_; clear hca; rintro e w7 ⟨rfl, k7⟩; have hin := F2.out _ k7; clear F2 k7)
        | (go_at_call 18; refine hin.mono ?_; clear hin; rintro e w8 ⟨rfl, k8⟩; have hcb := F3.out _ k8; clear F3 k8)
        | (go_at_call 19; refine hcb.mono ?_; clear hcb; rintro e w9 ⟨rfl, k9⟩; have hcc := F4.out _ k9; clear F4 k9)
        | (go_at_call 19; refine hcc.mono ?_; clear hcc; rintro e wz ⟨rfl, kz⟩; have HKZ : Hid (_) := kz.1; clear kz))
      go_roundg (l.length - (j + 1))
      case measure => omega
      case rel => exact ⟨j + 1, _, _, D, _, by omega, rfl, rfl, rfl, HKZ.out, by omega⟩
    have hop2 : d.op ≤ 2 := by omega
    have hc1 := hOn2.content HE.out.p
    have HC2 : Hid (∀ W P, On w W B s D (.slice ua D.length uc) P → Calls Tryd.prog 19 #[.pointer (some ⟨B, 0, none⟩)] W fun e W' => e = .returned (.string (bs (contS s))) ∧ On w W' B s D (.slice ua D.length uc) P) := fun W P h => h.content HE.out.p
    have hss := str_same (contS s)
    obtain ⟨XX, hXX⟩ : ∃ x, contS s = x := ⟨_, rfl⟩
    rw [hXX] at hc1 HC2 hss
    have HNu : Hid (∀ y ∈ D, ∃ n : Nat, n < 8 ∧ y.client = n ∧ y.number ≤ (s.c n).1) := hOn2.num
    have hem := emp_t (v := []) rfl
    clear hXX hOn2
    cases hN : okN d.client d.number with
    | false =>
      have HDo : Hid (∀ W, On w W B s D (.slice ua D.length uc) [(X, .cells #[.int .i64 d.op, .int .i64 d.client, .int .i64 d.number, .int .i64 d.x.kind, .string (bs d.x.k), .string (bs d.x.v), .string (bs d.x.o), .string (bs d.t)] 44)] → Calls Tryd.prog 20 #[.pointer (some ⟨B, 0, none⟩), .int .i64 d.client, .int .i64 d.number, .agg #[.int .i64 d.x.kind, .string (bs d.x.k), .string (bs d.x.v), .string (bs d.x.o)]] W fun e W' => e = .returned (.tuple #[.agg #[.int .i64 0, .string ⟨#[]⟩], .bool false, .int .i64 1]) ∧ On w W' B s D (.slice ua D.length uc) [(X, .cells #[.int .i64 d.op, .int .i64 d.client, .int .i64 d.number, .int .i64 d.x.kind, .string (bs d.x.k), .string (bs d.x.v), .string (bs d.x.o), .string (bs d.t)] 44)]) := fun W h => h.do_bad d.client d.number _ _ _ _ hN
      clear hN HNu
      go_upto_region 18 with (first
        | (go_at_call 19; refine hc1.mono ?_; clear hc1; rintro e w3 ⟨rfl, k3⟩; have rX3 := (k3.kept (X, .cells #[.int .i64 d.op, .int .i64 d.client, .int .i64 d.number, .int .i64 d.x.kind, .string (bs d.x.k), .string (bs d.x.v), .string (bs d.x.o), .string (bs d.t)] 44) (by simp)).1; have hXl3 := (Array.getElem?_eq_some_iff.1 rX3).1; have x1 := cellB rX3 1 (.int .i64 d.client) rfl; have x2 := cellB rX3 2 (.int .i64 d.number) rfl; have x3 := cellB rX3 3 (.int .i64 d.x.kind) rfl; have x4 := cellB rX3 4 (.string (bs d.x.k)) rfl; have x5 := cellB rX3 5 (.string (bs d.x.v)) rfl; have x6 := cellB rX3 6 (.string (bs d.x.o)) rfl; have hdo := HDo.out _ k3; clear k3 rX3 HDo)
        | (go_at_call 20; refine hdo.mono ?_; clear hdo; rintro e w4 ⟨rfl, k4⟩; have hOn4 := k4.alloc (.cells #[.int .i64 0, .string ⟨#[]⟩] 47); clear k4))
      obtain ⟨A, hA⟩ : ∃ A, w4.heap.size = A := ⟨_, rfl⟩
      obtain ⟨w5, hw5⟩ : ∃ W, w4.alloc (.cells #[.int .i64 0, .string ⟨#[]⟩] 47) = W := ⟨_, rfl⟩
      rw [hA, hw5] at hOn4
      rw [hA, hw5]
      clear hA hw5 x1 x2 x3 x4 x5 x6 hXl3
      go_wp2
      go_loopg [12, 79] D.length (fun gk ws ii wr => ∃ (m : Nat) (q : Bool), m + gk = D.length ∧ ws = .bool q ∧ ii = .int .i64 (m : Int) ∧ On w wr B s D (.slice ua D.length uc) [(A, .cells #[.int .i64 0, .string ⟨#[]⟩] 47), (X, .cells #[.int .i64 d.op, .int .i64 d.client, .int .i64 d.number, .int .i64 d.x.kind, .string (bs d.x.k), .string (bs d.x.v), .string (bs d.x.o), .string (bs d.t)] 44)])
      case atStart => exact ⟨0, false, by omega, rfl, rfl, hOn4⟩
      case round =>
      clear hOn4
      obtain ⟨m, q, hm, rfl, rfl, hOn5⟩ := hrel
      have rX := (hOn5.kept (X, .cells #[.int .i64 d.op, .int .i64 d.client, .int .i64 d.number, .int .i64 d.x.kind, .string (bs d.x.k), .string (bs d.x.v), .string (bs d.x.o), .string (bs d.t)] 44) (by simp)).1
      have t1 := cellB rX 1 (.int .i64 d.client) rfl
      have t2 := cellB rX 2 (.int .i64 d.number) rfl
      by_cases hmD : m = D.length
      case neg =>
        obtain ⟨y, hy⟩ : ∃ y, D[m]? = some y := ⟨_, List.getElem?_eq_getElem (by omega)⟩
        obtain ⟨g, rfl, hg, hcy⟩ := own8 hOn5.own hy
        have y0 := hcy 0 _ rfl
        have y1 := hcy 1 _ rfl
        have y2 := hcy 2 _ rfl
        have y3 := hcy 3 _ rfl
        have y4 := hcy 4 _ rfl
        have y5 := hcy 5 _ rfl
        have y6 := hcy 6 _ rfl
        have y7 := hcy 7 _ rfl
        rw [Nat.add_zero] at y0
        have hXl := (Array.getElem?_eq_some_iff.1 rX).1
        have hmi : (m : Int) < (D.length : Int) := by omega
        have hwm : IntKind.i64.wrap ((m : Int) + 1) = ((m + 1 : Nat) : Int) := wrap_to (by omega) (by omega) (by omega)
        have HO6 : Hid (_) := hOn5.new ((Below.refl wr.heap.size wr).alloc (Nat.le_refl _) (.cells #[.int .i64 y.op, .int .i64 y.client, .int .i64 y.number, .int .i64 y.x.kind, .string (bs y.x.k), .string (bs y.x.v), .string (bs y.x.o), .string (bs y.t)] 44))
        clear hOn5 hcy hy rX
        cases q
        · cases e3 : (y.client == d.client)
          · skip
            go_wp2
            go_roundg (D.length - (m + 1))
            case measure => omega
            case rel => exact ⟨m + 1, _, by omega, rfl, rfl, HO6.out⟩
          · cases e2 : (y.number == d.number)
            · skip
              go_wp2
              go_roundg (D.length - (m + 1))
              case measure => omega
              case rel => exact ⟨m + 1, _, by omega, rfl, rfl, HO6.out⟩
            · skip
              go_wp2
              go_roundg (D.length - (m + 1))
              case measure => omega
              case rel => exact ⟨m + 1, _, by omega, rfl, rfl, HO6.out⟩
        · skip
          go_wp2
          go_roundg (D.length - (m + 1))
          case measure => omega
          case rel => exact ⟨m + 1, _, by omega, rfl, rfl, HO6.out⟩
      subst hmD
      have rA := (hOn5.kept (A, .cells #[.int .i64 0, .string ⟨#[]⟩] 47) (by simp)).1
      have a0 := cellB rA 0 (.int .i64 0) rfl
      have a1 := cellB rA 1 (.string ⟨#[]⟩) rfl
      have hAl := (Array.getElem?_eq_some_iff.1 rA).1
      have hc2 := HC2.out _ _ hOn5
      clear hOn5 rA rX
      go_wp2_with (first
        | (go_at_call 19; refine hc2.mono ?_; clear hc2; rintro e w6 ⟨rfl, k6⟩; have rA6 := (k6.kept (A, .cells #[.int .i64 0, .string ⟨#[]⟩] 47) (by simp)).1; have b0 := cellB rA6 0 (.int .i64 0) rfl; have b1 := cellB rA6 1 (.string ⟨#[]⟩) rfl; have HK6 : Hid (_) := k6.less (Q := []) (fun x hx => by cases hx); clear k6 rA6))
      go_roundg (l.length - (j + 1))
      case measure => omega
      case rel => exact ⟨j + 1, B, s, D, _, by omega, rfl, rfl, rfl, HK6.out, by omega⟩
    | true =>
    have hN2 := hN
    rw [okN, Bool.and_eq_true] at hN2
    have i1 := inR_t hN2.1
    have i2 := inR_t hN2.2
    obtain ⟨n, hcn⟩ : ∃ n : Nat, d.client = n := ⟨d.client.toNat, by omega⟩
    have hn8 : n < 8 := by omega
    clear hN2 i1
    rcases Int.lt_trichotomy d.number (s.c n).1 with hlt | heq | hgt
    · skip
      have HDo : Hid (∀ W, On w W B s D (.slice ua D.length uc) [(X, .cells #[.int .i64 d.op, .int .i64 d.client, .int .i64 d.number, .int .i64 d.x.kind, .string (bs d.x.k), .string (bs d.x.v), .string (bs d.x.o), .string (bs d.t)] 44)] → Calls Tryd.prog 20 #[.pointer (some ⟨B, 0, none⟩), .int .i64 d.client, .int .i64 d.number, .agg #[.int .i64 d.x.kind, .string (bs d.x.k), .string (bs d.x.v), .string (bs d.x.o)]] W fun e W' => e = .returned (.tuple #[.agg #[.int .i64 0, .string ⟨#[]⟩], .bool false, .int .i64 6]) ∧ On w W' B s D (.slice ua D.length uc) [(X, .cells #[.int .i64 d.op, .int .i64 d.client, .int .i64 d.number, .int .i64 d.x.kind, .string (bs d.x.k), .string (bs d.x.v), .string (bs d.x.o), .string (bs d.t)] 44)]) := fun W h => by
        have h9 := h.do_old n d.number d.x.kind d.x.k d.x.v d.x.o (by rw [← hcn]; exact hN) hlt
        rw [← hcn] at h9
        exact h9
      clear hN hlt HNu hcn hn8 i2
      go_upto_region 18 with (first
        | (go_at_call 19; refine hc1.mono ?_; clear hc1; rintro e w3 ⟨rfl, k3⟩; have rX3 := (k3.kept (X, .cells #[.int .i64 d.op, .int .i64 d.client, .int .i64 d.number, .int .i64 d.x.kind, .string (bs d.x.k), .string (bs d.x.v), .string (bs d.x.o), .string (bs d.t)] 44) (by simp)).1; have hXl3 := (Array.getElem?_eq_some_iff.1 rX3).1; have x1 := cellB rX3 1 (.int .i64 d.client) rfl; have x2 := cellB rX3 2 (.int .i64 d.number) rfl; have x3 := cellB rX3 3 (.int .i64 d.x.kind) rfl; have x4 := cellB rX3 4 (.string (bs d.x.k)) rfl; have x5 := cellB rX3 5 (.string (bs d.x.v)) rfl; have x6 := cellB rX3 6 (.string (bs d.x.o)) rfl; have hdo := HDo.out _ k3; clear k3 rX3 HDo)
        | (go_at_call 20; refine hdo.mono ?_; clear hdo; rintro e w4 ⟨rfl, k4⟩; have hOn4 := k4.alloc (.cells #[.int .i64 0, .string ⟨#[]⟩] 47); clear k4))
      obtain ⟨A, hA⟩ : ∃ A, w4.heap.size = A := ⟨_, rfl⟩
      obtain ⟨w5, hw5⟩ : ∃ W, w4.alloc (.cells #[.int .i64 0, .string ⟨#[]⟩] 47) = W := ⟨_, rfl⟩
      rw [hA, hw5] at hOn4
      rw [hA, hw5]
      clear hA hw5 x1 x2 x3 x4 x5 x6 hXl3
      go_wp2
      go_loopg [12, 79] D.length (fun gk ws ii wr => ∃ (m : Nat) (q : Bool), m + gk = D.length ∧ ws = .bool q ∧ ii = .int .i64 (m : Int) ∧ On w wr B s D (.slice ua D.length uc) [(A, .cells #[.int .i64 0, .string ⟨#[]⟩] 47), (X, .cells #[.int .i64 d.op, .int .i64 d.client, .int .i64 d.number, .int .i64 d.x.kind, .string (bs d.x.k), .string (bs d.x.v), .string (bs d.x.o), .string (bs d.t)] 44)])
      case atStart => exact ⟨0, false, by omega, rfl, rfl, hOn4⟩
      case round =>
      clear hOn4
      obtain ⟨m, q, hm, rfl, rfl, hOn5⟩ := hrel
      have rX := (hOn5.kept (X, .cells #[.int .i64 d.op, .int .i64 d.client, .int .i64 d.number, .int .i64 d.x.kind, .string (bs d.x.k), .string (bs d.x.v), .string (bs d.x.o), .string (bs d.t)] 44) (by simp)).1
      have t1 := cellB rX 1 (.int .i64 d.client) rfl
      have t2 := cellB rX 2 (.int .i64 d.number) rfl
      by_cases hmD : m = D.length
      case neg =>
        obtain ⟨y, hy⟩ : ∃ y, D[m]? = some y := ⟨_, List.getElem?_eq_getElem (by omega)⟩
        obtain ⟨g, rfl, hg, hcy⟩ := own8 hOn5.own hy
        have y0 := hcy 0 _ rfl
        have y1 := hcy 1 _ rfl
        have y2 := hcy 2 _ rfl
        have y3 := hcy 3 _ rfl
        have y4 := hcy 4 _ rfl
        have y5 := hcy 5 _ rfl
        have y6 := hcy 6 _ rfl
        have y7 := hcy 7 _ rfl
        rw [Nat.add_zero] at y0
        have hXl := (Array.getElem?_eq_some_iff.1 rX).1
        have hmi : (m : Int) < (D.length : Int) := by omega
        have hwm : IntKind.i64.wrap ((m : Int) + 1) = ((m + 1 : Nat) : Int) := wrap_to (by omega) (by omega) (by omega)
        have HO6 : Hid (_) := hOn5.new ((Below.refl wr.heap.size wr).alloc (Nat.le_refl _) (.cells #[.int .i64 y.op, .int .i64 y.client, .int .i64 y.number, .int .i64 y.x.kind, .string (bs y.x.k), .string (bs y.x.v), .string (bs y.x.o), .string (bs y.t)] 44))
        clear hOn5 hcy hy rX
        cases q
        · cases e3 : (y.client == d.client)
          · skip
            go_wp2
            go_roundg (D.length - (m + 1))
            case measure => omega
            case rel => exact ⟨m + 1, _, by omega, rfl, rfl, HO6.out⟩
          · cases e2 : (y.number == d.number)
            · skip
              go_wp2
              go_roundg (D.length - (m + 1))
              case measure => omega
              case rel => exact ⟨m + 1, _, by omega, rfl, rfl, HO6.out⟩
            · skip
              go_wp2
              go_roundg (D.length - (m + 1))
              case measure => omega
              case rel => exact ⟨m + 1, _, by omega, rfl, rfl, HO6.out⟩
        · skip
          go_wp2
          go_roundg (D.length - (m + 1))
          case measure => omega
          case rel => exact ⟨m + 1, _, by omega, rfl, rfl, HO6.out⟩
      subst hmD
      have rA := (hOn5.kept (A, .cells #[.int .i64 0, .string ⟨#[]⟩] 47) (by simp)).1
      have a0 := cellB rA 0 (.int .i64 0) rfl
      have a1 := cellB rA 1 (.string ⟨#[]⟩) rfl
      have hAl := (Array.getElem?_eq_some_iff.1 rA).1
      have hc2 := HC2.out _ _ hOn5
      clear hOn5 rA rX
      go_wp2_with (first
        | (go_at_call 19; refine hc2.mono ?_; clear hc2; rintro e w6 ⟨rfl, k6⟩; have rA6 := (k6.kept (A, .cells #[.int .i64 0, .string ⟨#[]⟩] 47) (by simp)).1; have b0 := cellB rA6 0 (.int .i64 0) rfl; have b1 := cellB rA6 1 (.string ⟨#[]⟩) rfl; have HK6 : Hid (_) := k6.less (Q := []) (fun x hx => by cases hx); clear k6 rA6))
      go_roundg (l.length - (j + 1))
      case measure => omega
      case rel => exact ⟨j + 1, B, s, D, _, by omega, rfl, rfl, rfl, HK6.out, by omega⟩
    · skip
      have HDo : Hid (∀ W, On w W B s D (.slice ua D.length uc) [(X, .cells #[.int .i64 d.op, .int .i64 d.client, .int .i64 d.number, .int .i64 d.x.kind, .string (bs d.x.k), .string (bs d.x.v), .string (bs d.x.o), .string (bs d.t)] 44)] → Calls Tryd.prog 20 #[.pointer (some ⟨B, 0, none⟩), .int .i64 d.client, .int .i64 d.number, .agg #[.int .i64 d.x.kind, .string (bs d.x.k), .string (bs d.x.v), .string (bs d.x.o)]] W fun e W' => e = .returned (.tuple #[.agg #[.int .i64 (s.c n).2.1, .string (bs (s.c n).2.2)], .bool false, .int .i64 0]) ∧ On w W' B s D (.slice ua D.length uc) [(X, .cells #[.int .i64 d.op, .int .i64 d.client, .int .i64 d.number, .int .i64 d.x.kind, .string (bs d.x.k), .string (bs d.x.v), .string (bs d.x.o), .string (bs d.t)] 44)]) := fun W h => by
        have h9 := h.do_same n d.number d.x.kind d.x.k d.x.v d.x.o (by rw [← hcn]; exact hN) heq
        rw [← hcn] at h9
        exact h9
      obtain ⟨ae, hae⟩ : ∃ a, (s.c n).2.1 = a := ⟨_, rfl⟩
      obtain ⟨at_, hat⟩ : ∃ a, bs (s.c n).2.2 = a := ⟨_, rfl⟩
      rw [hae, hat] at HDo
      clear hae hat
      clear hN heq HNu hcn hn8 i2
      go_upto_region 18 with (first
        | (go_at_call 19; refine hc1.mono ?_; clear hc1; rintro e w3 ⟨rfl, k3⟩; have rX3 := (k3.kept (X, .cells #[.int .i64 d.op, .int .i64 d.client, .int .i64 d.number, .int .i64 d.x.kind, .string (bs d.x.k), .string (bs d.x.v), .string (bs d.x.o), .string (bs d.t)] 44) (by simp)).1; have hXl3 := (Array.getElem?_eq_some_iff.1 rX3).1; have x1 := cellB rX3 1 (.int .i64 d.client) rfl; have x2 := cellB rX3 2 (.int .i64 d.number) rfl; have x3 := cellB rX3 3 (.int .i64 d.x.kind) rfl; have x4 := cellB rX3 4 (.string (bs d.x.k)) rfl; have x5 := cellB rX3 5 (.string (bs d.x.v)) rfl; have x6 := cellB rX3 6 (.string (bs d.x.o)) rfl; have hdo := HDo.out _ k3; clear k3 rX3 HDo)
        | (go_at_call 20; refine hdo.mono ?_; clear hdo; rintro e w4 ⟨rfl, k4⟩; have hOn4 := k4.alloc (.cells #[.int .i64 ae, .string at_] 47); clear k4))
      obtain ⟨A, hA⟩ : ∃ A, w4.heap.size = A := ⟨_, rfl⟩
      obtain ⟨w5, hw5⟩ : ∃ W, w4.alloc (.cells #[.int .i64 ae, .string at_] 47) = W := ⟨_, rfl⟩
      rw [hA, hw5] at hOn4
      rw [hA, hw5]
      clear hA hw5 x1 x2 x3 x4 x5 x6 hXl3
      go_wp2
      go_loopg [12, 79] D.length (fun gk ws ii wr => ∃ (m : Nat) (q : Bool), m + gk = D.length ∧ ws = .bool q ∧ ii = .int .i64 (m : Int) ∧ On w wr B s D (.slice ua D.length uc) [(A, .cells #[.int .i64 ae, .string at_] 47), (X, .cells #[.int .i64 d.op, .int .i64 d.client, .int .i64 d.number, .int .i64 d.x.kind, .string (bs d.x.k), .string (bs d.x.v), .string (bs d.x.o), .string (bs d.t)] 44)])
      case atStart => exact ⟨0, false, by omega, rfl, rfl, hOn4⟩
      case round =>
      clear hOn4
      obtain ⟨m, q, hm, rfl, rfl, hOn5⟩ := hrel
      have rX := (hOn5.kept (X, .cells #[.int .i64 d.op, .int .i64 d.client, .int .i64 d.number, .int .i64 d.x.kind, .string (bs d.x.k), .string (bs d.x.v), .string (bs d.x.o), .string (bs d.t)] 44) (by simp)).1
      have t1 := cellB rX 1 (.int .i64 d.client) rfl
      have t2 := cellB rX 2 (.int .i64 d.number) rfl
      by_cases hmD : m = D.length
      case neg =>
        obtain ⟨y, hy⟩ : ∃ y, D[m]? = some y := ⟨_, List.getElem?_eq_getElem (by omega)⟩
        obtain ⟨g, rfl, hg, hcy⟩ := own8 hOn5.own hy
        have y0 := hcy 0 _ rfl
        have y1 := hcy 1 _ rfl
        have y2 := hcy 2 _ rfl
        have y3 := hcy 3 _ rfl
        have y4 := hcy 4 _ rfl
        have y5 := hcy 5 _ rfl
        have y6 := hcy 6 _ rfl
        have y7 := hcy 7 _ rfl
        rw [Nat.add_zero] at y0
        have hXl := (Array.getElem?_eq_some_iff.1 rX).1
        have hmi : (m : Int) < (D.length : Int) := by omega
        have hwm : IntKind.i64.wrap ((m : Int) + 1) = ((m + 1 : Nat) : Int) := wrap_to (by omega) (by omega) (by omega)
        have HO6 : Hid (_) := hOn5.new ((Below.refl wr.heap.size wr).alloc (Nat.le_refl _) (.cells #[.int .i64 y.op, .int .i64 y.client, .int .i64 y.number, .int .i64 y.x.kind, .string (bs y.x.k), .string (bs y.x.v), .string (bs y.x.o), .string (bs y.t)] 44))
        clear hOn5 hcy hy rX
        cases q
        · cases e3 : (y.client == d.client)
          · skip
            go_wp2
            go_roundg (D.length - (m + 1))
            case measure => omega
            case rel => exact ⟨m + 1, _, by omega, rfl, rfl, HO6.out⟩
          · cases e2 : (y.number == d.number)
            · skip
              go_wp2
              go_roundg (D.length - (m + 1))
              case measure => omega
              case rel => exact ⟨m + 1, _, by omega, rfl, rfl, HO6.out⟩
            · skip
              go_wp2
              go_roundg (D.length - (m + 1))
              case measure => omega
              case rel => exact ⟨m + 1, _, by omega, rfl, rfl, HO6.out⟩
        · skip
          go_wp2
          go_roundg (D.length - (m + 1))
          case measure => omega
          case rel => exact ⟨m + 1, _, by omega, rfl, rfl, HO6.out⟩
      subst hmD
      have rA := (hOn5.kept (A, .cells #[.int .i64 ae, .string at_] 47) (by simp)).1
      have a0 := cellB rA 0 (.int .i64 ae) rfl
      have a1 := cellB rA 1 (.string at_) rfl
      have hAl := (Array.getElem?_eq_some_iff.1 rA).1
      have hc2 := HC2.out _ _ hOn5
      clear hOn5 rA rX
      go_wp2_with (first
        | (go_at_call 19; refine hc2.mono ?_; clear hc2; rintro e w6 ⟨rfl, k6⟩; have rA6 := (k6.kept (A, .cells #[.int .i64 ae, .string at_] 47) (by simp)).1; have b0 := cellB rA6 0 (.int .i64 ae) rfl; have b1 := cellB rA6 1 (.string at_) rfl; have HK6 : Hid (_) := k6.less (Q := []) (fun x hx => by cases hx); clear k6 rA6))
      go_roundg (l.length - (j + 1))
      case measure => omega
      case rel => exact ⟨j + 1, B, s, D, _, by omega, rfl, rfl, rfl, HK6.out, by omega⟩
    · skip
      have HDo : Hid (∀ W, On w W B s D (.slice ua D.length uc) [(X, .cells #[.int .i64 d.op, .int .i64 d.client, .int .i64 d.number, .int .i64 d.x.kind, .string (bs d.x.k), .string (bs d.x.v), .string (bs d.x.o), .string (bs d.t)] 44)] → Calls Tryd.prog 20 #[.pointer (some ⟨B, 0, none⟩), .int .i64 d.client, .int .i64 d.number, .agg #[.int .i64 d.x.kind, .string (bs d.x.k), .string (bs d.x.v), .string (bs d.x.o)]] W fun e W' => e = .returned (.tuple #[.agg #[.int .i64 (doR s.l d.x.kind d.x.k d.x.v d.x.o).2.1, .string (bs (doR s.l d.x.kind d.x.k d.x.v d.x.o).1)], .bool true, .int .i64 0]) ∧ On w W' B (doneS s n d.number d.x.kind d.x.k d.x.v d.x.o) D (.slice ua D.length uc) [(X, .cells #[.int .i64 d.op, .int .i64 d.client, .int .i64 d.number, .int .i64 d.x.kind, .string (bs d.x.k), .string (bs d.x.v), .string (bs d.x.o), .string (bs d.t)] 44)]) := fun W h => by
        have h9 := h.do_new n d.number d.x.kind d.x.k d.x.v d.x.o (by rw [← hcn]; exact hN) hgt
        rw [← hcn] at h9
        exact h9
      have HNM : Hid (∀ (m : Nat) (y : St8), D[m]? = some y → ¬ (y.client = d.client ∧ y.number = d.number)) := fun m y hy ⟨e1, e2⟩ => by
        obtain ⟨q, _, q2, q3⟩ := HNu.out y (List.mem_of_getElem? hy)
        have : q = n := by omega
        subst this
        omega
      have HAg : Hid (∀ W ga ca P, On w W B (doneS s n d.number d.x.kind d.x.k d.x.v d.x.o) (D ++ [d]) (.slice (some ⟨ga, 0, none⟩) (D.length + 1) ca) P → Calls Tryd.prog 20 #[.pointer (some ⟨B, 0, none⟩), .int .i64 d.client, .int .i64 d.number, .agg #[.int .i64 4, .string ⟨#[97]⟩, .string ⟨#[]⟩, .string ⟨#[]⟩]] W fun e W' => e = .returned (.tuple #[.agg #[.int .i64 (doR s.l d.x.kind d.x.k d.x.v d.x.o).2.1, .string (bs (doR s.l d.x.kind d.x.k d.x.v d.x.o).1)], .bool false, .int .i64 0]) ∧ On w W' B (doneS s n d.number d.x.kind d.x.k d.x.v d.x.o) (D ++ [d]) (.slice (some ⟨ga, 0, none⟩) (D.length + 1) ca) P) := fun W ga ca P h => by
        have e : (doneS s n d.number d.x.kind d.x.k d.x.v d.x.o).c n = (d.number, (doR s.l d.x.kind d.x.k d.x.v d.x.o).2.1, (doR s.l d.x.kind d.x.k d.x.v d.x.o).1) := updC_same _ _ _
        have := h.do_same n d.number 4 [97] [] [] (by rw [← hcn]; exact hN) (by rw [e])
        rw [e] at this
        rw [hcn]
        exact this
      have HdN : Hid (∃ q : Nat, q < 8 ∧ d.client = q ∧ d.number ≤ ((doneS s n d.number d.x.kind d.x.k d.x.v d.x.o).c q).1) := ⟨n, hn8, hcn, by show d.number ≤ (updC s.c n _ n).1; rw [updC_same]; exact Int.le_refl _⟩
      have hsr := str_same (doR s.l d.x.kind d.x.k d.x.v d.x.o).1
      obtain ⟨ae, hae⟩ : ∃ a, (doR s.l d.x.kind d.x.k d.x.v d.x.o).2.1 = a := ⟨_, rfl⟩
      obtain ⟨at_, hat⟩ : ∃ a, bs (doR s.l d.x.kind d.x.k d.x.v d.x.o).1 = a := ⟨_, rfl⟩
      obtain ⟨s', hs'⟩ : ∃ a, doneS s n d.number d.x.kind d.x.k d.x.v d.x.o = a := ⟨_, rfl⟩
      rw [hae, hat, hs'] at HDo
      rw [hs'] at HdN
      rw [hae, hat, hs'] at HAg
      rw [hat] at hsr
      clear hae hat hs'
      clear hN hgt HNu hcn hn8 i2
      go_upto_region 18 with (first
        | (go_at_call 19; refine hc1.mono ?_; clear hc1; rintro e w3 ⟨rfl, k3⟩; have rX3 := (k3.kept (X, .cells #[.int .i64 d.op, .int .i64 d.client, .int .i64 d.number, .int .i64 d.x.kind, .string (bs d.x.k), .string (bs d.x.v), .string (bs d.x.o), .string (bs d.t)] 44) (by simp)).1; have hXl3 := (Array.getElem?_eq_some_iff.1 rX3).1; have x1 := cellB rX3 1 (.int .i64 d.client) rfl; have x2 := cellB rX3 2 (.int .i64 d.number) rfl; have x3 := cellB rX3 3 (.int .i64 d.x.kind) rfl; have x4 := cellB rX3 4 (.string (bs d.x.k)) rfl; have x5 := cellB rX3 5 (.string (bs d.x.v)) rfl; have x6 := cellB rX3 6 (.string (bs d.x.o)) rfl; have hdo := HDo.out _ k3; clear k3 rX3 HDo)
        | (go_at_call 20; refine hdo.mono ?_; clear hdo; rintro e w4 ⟨rfl, k4⟩; have hOn4 := k4.alloc (.cells #[.int .i64 ae, .string at_] 47); clear k4))
      obtain ⟨A, hA⟩ : ∃ A, w4.heap.size = A := ⟨_, rfl⟩
      obtain ⟨w5, hw5⟩ : ∃ W, w4.alloc (.cells #[.int .i64 ae, .string at_] 47) = W := ⟨_, rfl⟩
      rw [hA, hw5] at hOn4
      rw [hA, hw5]
      clear hA hw5 x1 x2 x3 x4 x5 x6 hXl3
      go_wp2
      go_loopg [12, 79] D.length (fun gk ws ii wr => ∃ (m : Nat) (q : Bool), m + gk = D.length ∧ ws = .bool q ∧ ii = .int .i64 (m : Int) ∧ On w wr B s' D (.slice ua D.length uc) [(A, .cells #[.int .i64 ae, .string at_] 47), (X, .cells #[.int .i64 d.op, .int .i64 d.client, .int .i64 d.number, .int .i64 d.x.kind, .string (bs d.x.k), .string (bs d.x.v), .string (bs d.x.o), .string (bs d.t)] 44)] ∧ q = false)
      case atStart => exact ⟨0, false, by omega, rfl, rfl, hOn4, rfl⟩
      case round =>
      clear hOn4
      obtain ⟨m, q, hm, rfl, rfl, hOn5, rfl⟩ := hrel
      have rX := (hOn5.kept (X, .cells #[.int .i64 d.op, .int .i64 d.client, .int .i64 d.number, .int .i64 d.x.kind, .string (bs d.x.k), .string (bs d.x.v), .string (bs d.x.o), .string (bs d.t)] 44) (by simp)).1
      have t1 := cellB rX 1 (.int .i64 d.client) rfl
      have t2 := cellB rX 2 (.int .i64 d.number) rfl
      by_cases hmD : m = D.length
      case neg =>
        obtain ⟨y, hy⟩ : ∃ y, D[m]? = some y := ⟨_, List.getElem?_eq_getElem (by omega)⟩
        obtain ⟨g, rfl, hg, hcy⟩ := own8 hOn5.own hy
        have y0 := hcy 0 _ rfl
        have y1 := hcy 1 _ rfl
        have y2 := hcy 2 _ rfl
        have y3 := hcy 3 _ rfl
        have y4 := hcy 4 _ rfl
        have y5 := hcy 5 _ rfl
        have y6 := hcy 6 _ rfl
        have y7 := hcy 7 _ rfl
        rw [Nat.add_zero] at y0
        have hXl := (Array.getElem?_eq_some_iff.1 rX).1
        have hmi : (m : Int) < (D.length : Int) := by omega
        have hwm : IntKind.i64.wrap ((m : Int) + 1) = ((m + 1 : Nat) : Int) := wrap_to (by omega) (by omega) (by omega)
        have HO6 : Hid (_) := hOn5.new ((Below.refl wr.heap.size wr).alloc (Nat.le_refl _) (.cells #[.int .i64 y.op, .int .i64 y.client, .int .i64 y.number, .int .i64 y.x.kind, .string (bs y.x.k), .string (bs y.x.v), .string (bs y.x.o), .string (bs y.t)] 44))
        have hno := HNM.out m y hy
        clear hOn5 hcy hy rX
        by_cases e1 : y.client = d.client
        · have e2 : (y.number == d.number) = false := by rw [beq_eq_false_iff_ne]; exact fun e => hno ⟨e1, e⟩
          have e3 : (y.client == d.client) = true := by rw [e1]; simp
          clear e1 hno
          go_wp2
          go_roundg (D.length - (m + 1))
          case measure => omega
          case rel => exact ⟨m + 1, _, by omega, rfl, rfl, HO6.out, rfl⟩
        · have e3 : (y.client == d.client) = false := by simpa using e1
          clear e1 hno
          go_wp2
          go_roundg (D.length - (m + 1))
          case measure => omega
          case rel => exact ⟨m + 1, _, by omega, rfl, rfl, HO6.out, rfl⟩
      subst hmD
      have rA := (hOn5.kept (A, .cells #[.int .i64 ae, .string at_] 47) (by simp)).1
      have a0 := cellB rA 0 (.int .i64 ae) rfl
      have a1 := cellB rA 1 (.string at_) rfl
      have hAl := (Array.getElem?_eq_some_iff.1 rA).1
      have r0 := cellB rX 0 (.int .i64 d.op) rfl
      have r3 := cellB rX 3 (.int .i64 d.x.kind) rfl
      have r4 := cellB rX 4 (.string (bs d.x.k)) rfl
      have r5 := cellB rX 5 (.string (bs d.x.v)) rfl
      have r6 := cellB rX 6 (.string (bs d.x.o)) rfl
      have r7 := cellB rX 7 (.string (bs d.t)) rfl
      have hXl := (Array.getElem?_eq_some_iff.1 rX).1
      obtain ⟨i0, hi, hy0, hy1, hy2⟩ := info_parts Tryd.info44L
      have HI : Hid (Tryd.prog.info? 44 = some i0 ∧ i0.zero = some (.agg #[.int .i64 0, .int .i64 0, .int .i64 0, .int .i64 0, .string ⟨#[]⟩, .string ⟨#[]⟩, .string ⟨#[]⟩, .string ⟨#[]⟩]) ∧ i0.size = 8 ∧ i0.bytes = 96) := ⟨hi, hy0, hy1, hy2⟩
      have hOn6 := hOn5.new ((Below.refl wr.heap.size wr).alloc (Nat.le_refl _) (.cells #[.int .i64 d.op, .int .i64 d.client, .int .i64 d.number, .int .i64 d.x.kind, .string (bs d.x.k), .string (bs d.x.v), .string (bs d.x.o), .string (bs d.t)] 44))
      have hml : D.length + 1 ≤ maxLen := by unfold maxLen; omega
      have hmb : (D.length + 1) * 96 ≤ 140737488355328 := by omega
      have HO6 : Hid (On w (wr.alloc (.cells #[.int .i64 d.op, .int .i64 d.client, .int .i64 d.number, .int .i64 d.x.kind, .string (bs d.x.k), .string (bs d.x.v), .string (bs d.x.o), .string (bs d.t)] 44)) B s' D (.slice ua D.length uc) [(A, .cells #[.int .i64 ae, .string at_] 47), (X, .cells #[.int .i64 d.op, .int .i64 d.client, .int .i64 d.number, .int .i64 d.x.kind, .string (bs d.x.k), .string (bs d.x.v), .string (bs d.x.o), .string (bs d.t)] 44)]) := hOn6
      have hw6 : w.heap.size ≤ (wr.alloc (.cells #[.int .i64 d.op, .int .i64 d.client, .int .i64 d.number, .int .i64 d.x.kind, .string (bs d.x.k), .string (bs d.x.v), .string (bs d.x.o), .string (bs d.t)] 44)).heap.size := hOn6.below.size
      have HPS : Hid (∀ W ga ca, W.ownsRow w.heap.size 44 8 (.slice (some ⟨ga, 0, none⟩) (D.length + 1) ca) (D.length + 1) (dcs D ++ d.cells) → (wr.alloc (.cells #[.int .i64 d.op, .int .i64 d.client, .int .i64 d.number, .int .i64 d.x.kind, .string (bs d.x.k), .string (bs d.x.v), .string (bs d.x.o), .string (bs d.t)] 44)).grownBy W (Value.slice ua D.length uc).ownBlock → ((Value.slice ua D.length uc).ownBlock = some ga ∨ ga = (wr.alloc (.cells #[.int .i64 d.op, .int .i64 d.client, .int .i64 d.number, .int .i64 d.x.kind, .string (bs d.x.k), .string (bs d.x.v), .string (bs d.x.o), .string (bs d.t)] 44)).heap.size) → On w W B s' (D ++ [d]) (.slice (some ⟨ga, 0, none⟩) (D.length + 1) ca) [(A, .cells #[.int .i64 ae, .string at_] 47), (X, .cells #[.int .i64 d.op, .int .i64 d.client, .int .i64 d.number, .int .i64 d.x.kind, .string (bs d.x.k), .string (bs d.x.v), .string (bs d.x.o), .string (bs d.t)] 44)]) := fun W ga ca a b c => HO6.out.push a b c HdN.out
      clear hOn5 hOn6 rA rX hi hy0 hy1 hy2
      go_wp2_with (first
        | (at_builtin; refine wpList_append_lies _ rfl _ _ 37 rfl w.heap.size 44 i0 (.agg #[.int .i64 0, .int .i64 0, .int .i64 0, .int .i64 0, .string ⟨#[]⟩, .string ⟨#[]⟩, .string ⟨#[]⟩, .string ⟨#[]⟩]) 8 96 Tryd.underlying37 HI.out.1 HI.out.2.1 HI.out.2.2.1 HI.out.2.2.2 rfl (by decide) _ D.length (dcs D) rfl HO6.out.own ⟨wr.heap.size, 0, none⟩ 1 1 d.cells rfl rfl (World.news_of_block (heap_alloc_new wr _)) (by simp [St8.cells, Value.oneCell']) (by decide) hml hmb hw6 _ rfl ?_; intro ga ca w7 hown7 hgrow hat hlt7; have k7 := HPS.out _ _ _ hown7 hgrow hat; have rX7 := (k7.kept (X, .cells #[.int .i64 d.op, .int .i64 d.client, .int .i64 d.number, .int .i64 d.x.kind, .string (bs d.x.k), .string (bs d.x.v), .string (bs d.x.o), .string (bs d.t)] 44) (by simp)).1; have v1 := cellB rX7 1 (.int .i64 d.client) rfl; have v2 := cellB rX7 2 (.int .i64 d.number) rfl; have hag := HAg.out _ _ _ _ k7; clear HPS HO6 hown7 hgrow hat hlt7 rX7 k7)
        | (go_at_call 20; refine hag.mono ?_; clear hag; rintro e w8 ⟨rfl, k8⟩; have rA8 := (k8.kept (A, .cells #[.int .i64 ae, .string at_] 47) (by simp)).1; have b0 := cellB rA8 0 (.int .i64 ae) rfl; have b1 := cellB rA8 1 (.string at_) rfl; have hAl8 := (Array.getElem?_eq_some_iff.1 rA8).1; have HK9 : Hid (_) := (k8.new ((Below.refl w8.heap.size w8).alloc (Nat.le_refl _) (.cells #[.int .i64 ae, .string at_] 47))).less (Q := []) (fun x hx => by cases hx); clear k8 rA8))
      go_roundg (l.length - (j + 1))
      case measure => omega
      case rel => exact ⟨j + 1, B, s', D ++ [d], _, by omega, rfl, rfl, rfl, HK9.out, by rw [List.length_append]; simp; omega⟩
end Go.Proofs.YtgmobjdjojffgaaDoor
