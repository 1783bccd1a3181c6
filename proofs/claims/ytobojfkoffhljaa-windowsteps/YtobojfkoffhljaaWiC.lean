/- What a map does: look-up, store, delete; clone, walked. -/
import Derived.Test.YtobojfkoffhljaaWiB
namespace Go.Proofs.Ytobojfkoffhljaa
open Go.RowKit Go.Maps
attribute [local go_sem ↓] Go.wp_at_zero Go.wp_at_succ

theorem own_len {w : World} {K : TypeId} {b n : Nat} {D : DataW Value} {l : List (Lit × Value)} (h : w.ownsMap Try.prog K heldE b n D) (hr : Rep D l) : w.ownsMap Try.prog K heldE b l.length D := by
  have hs := hr.size
  obtain ⟨es, clock, hb, F, _, rfl⟩ := h
  refine ⟨es, clock, hb, F, ?_, rfl⟩
  rw [← hs]
  simp [Maps.size, length_sorted]
theorem MapAt.look {w : World} {K : TypeId} {m : Option Nat} {l : List (Lit × Value)} (h : MapAt w K m l) (law : Keyed Try.prog K) {t e : TypeId} (ht : Try.prog.underlying t = some (.map K e)) {z : Value} (hz : (zeroValue e).run Try.prog w = .ok z w) {key : Value} {kl : Lit} (hkey : keyOf Try.prog K key = some kl) :
    (∀ v, (kl, v) ∈ l → (Instr.lookup t (.map m) key true).run Try.prog w = .ok (.tuple #[v, .bool true]) w) ∧ ((∀ p ∈ l, p.1 ≠ kl) → (Instr.lookup t (.map m) key true).run Try.prog w = .ok (.tuple #[z, .bool false]) w) := by
  rcases h with ⟨rfl, rfl⟩ | ⟨b, D, rfl, ho, hr⟩
  · refine ⟨fun v hv => by simp at hv, fun _ => ?_⟩
    have := Maps.look_nil (w := w) true law ht hz hkey
    simpa using this
  · obtain ⟨v', ps, hrun, hv'⟩ := ho.look_ok law ht hz (zd := .held z) (zp := []) rfl hkey
    injection hv' with hv'
    injection hv' with hv' _
    refine ⟨fun v hv => ?_, fun hn => ?_⟩
    · obtain ⟨e1, e2⟩ := hr.at hv (.held z)
      rw [e1] at hv'
      injection hv' with hv'
      rw [hrun, e2, hv']
    · obtain ⟨e1, e2⟩ := hr.none hn (.held z)
      rw [e1] at hv'
      injection hv' with hv'
      rw [hrun, e2, hv']
theorem MapAt.store {w : World} {K : TypeId} {b : Nat} {l : List (Lit × Value)} (h : MapAt w K (some b) l) (law : Keyed Try.prog K) {t e : TypeId} (ht : Try.prog.underlying t = some (.map K e)) (hl : l.length ≤ 1000) {key val : Value} {kl : Lit} (hkey : keyOf Try.prog K key = some kl) :
    ∃ w', (Instr.mapUpdate t (.map (some b)) key val).run Try.prog w = .ok () w' ∧ MapAt w' K (some b) (l.filter (fun p => !p.1.sameKey kl) ++ [(kl, val)]) ∧ w.grownBy w' (some b) := by
  rcases h with ⟨h, _⟩ | ⟨b', D, hb, ho, hr⟩
  · cases h
  · injection hb with hb
    subst hb
    obtain ⟨w', hrun, ho', hg⟩ := ho.update law ht (by unfold maxLen; omega) hkey (d := .held val) (ps := []) rfl
    have hr' := hr.put (law.key hkey) val
    exact ⟨w', hrun, .inr ⟨b, _, rfl, own_len ho' hr', hr'⟩, hg⟩
theorem MapAt.made (w : World) (K : TypeId) : MapAt (w.alloc (.map #[] 0)) K (some w.heap.size) [] := .inr ⟨_, _, rfl, World.ownsMap_made w Try.prog K heldE, Rep.nil⟩
theorem eql62n (w : World) : (binOp .eql 62 (.map none) (.map none)).run Try.prog w = .ok (.bool true) w := by kernel_rfl
theorem eql62s (b : Nat) (w : World) : (binOp .eql 62 (.map (some b)) (.map none)).run Try.prog w = .ok (.bool false) w := by kernel_rfl
theorem eql63n (w : World) : (binOp .eql 63 (.map none) (.map none)).run Try.prog w = .ok (.bool true) w := by kernel_rfl
theorem eql63s (b : Nat) (w : World) : (binOp .eql 63 (.map (some b)) (.map none)).run Try.prog w = .ok (.bool false) w := by kernel_rfl
set_option maxHeartbeats 1000000 in
theorem clone_any (t : List UInt8) (g : Int) (w : World) : Calls Try.prog 30 #[.agg #[.string (bs t), .int .i64 g, .slice none 0 0]] w fun e W' => e = .returned (.agg #[.string (bs t), .int .i64 g, .slice none 0 0]) ∧ Below w.heap.size w W' := by
  go_enter Try.func30, Try.ntmps30
  go_wp2
  have h1 := (Below.refl w.heap.size w).alloc (Nat.le_refl _) (.cells #[.string (bs t), .int .i64 g, .slice none 0 0] 38)
  exact bodyPost_ret (v := .agg #[.string (bs t), .int .i64 g, .slice none 0 0]) (by simp [results, Try.f30, go_sem]) rfl ⟨rfl, h1.alloc h1.size _⟩
end Go.Proofs.Ytobojfkoffhljaa
