/- Which bytes are a change: plain. -/
import Derived.Test.YtifalaigfinciaaDoorSiA
namespace Go.Proofs.YtifalaigfinciaaDoor
open Go.RowKit

def mk3 : Option Int → Option Int → Option (List UInt8 × Int × List Tg) → Option Bq
  | some n, some v, some (x, g, T) => some ⟨n, v, x, g, T⟩
  | _, _, _ => none
def cat2 : Option Bq → Option (List Bq) → Option (List Bq)
  | some e, some l => some (e :: l)
  | _, _ => none
/-- The entries that a list of texts is, strictly read. -/
def entsL : List (List UInt8) → Option (List Bq)
  | [] => some []
  | a :: b :: c :: r => cat2 (mk3 (toNumL a) (toNumL b) (cDecL c)) (entsL r)
  | _ => none
/-- .. loosely read: what is no number's text reads as 0. -/
def looseL : List (List UInt8) → Option (List Bq)
  | [] => some []
  | a :: b :: c :: r => cat2 (mk3 (some (tnV a)) (some (tnV b)) (cDecL c)) (looseL r)
  | _ => none
theorem mk3_some {o p : Option Int} {q : Option (List UInt8 × Int × List Tg)} {e : Bq} (h : mk3 o p q = some e) : o = some e.n ∧ p = some e.v ∧ q = some (e.x, e.g, e.T) := by
  match o, p, q with
  | some n, some v, some (x, g, T) => simp only [mk3, Option.some.injEq] at h; subst h; exact ⟨rfl, rfl, rfl⟩
  | none, _, _ => cases h
  | some _, none, _ => cases h
  | some _, some _, none => cases h
theorem cat2_some {o : Option Bq} {p : Option (List Bq)} {l : List Bq} (h : cat2 o p = some l) : ∃ e r, o = some e ∧ p = some r ∧ l = e :: r := by
  match o, p with
  | some e, some r => exact ⟨e, r, rfl, rfl, (Option.some.inj h).symm⟩
  | none, _ => cases h
  | some _, none => cases h
/-- What is strictly read packs to the same texts. -/
theorem ents_back : ∀ {L : List (List UInt8)} {l : List Bq}, entsL L = some l → shT l = L ∧ firstF l = 0
  | [], l, h => by simp only [entsL, Option.some.injEq] at h; subst h; exact ⟨rfl, rfl⟩
  | [_], l, h => by cases h
  | [_, _], l, h => by cases h
  | a :: b :: c :: r, l, h => by
    obtain ⟨e, l', h1, h2, rfl⟩ := cat2_some h
    obtain ⟨k1, k2, k3⟩ := mk3_some h1
    obtain ⟨i1, i2⟩ := ents_back h2
    obtain ⟨f1, f2, _⟩ := cDec_some k3
    refine ⟨?_, ?_⟩
    · show entT e ++ shT l' = _
      rw [i1, entT, f2, toNum_back k1, toNum_back k2]
      rfl
    · show (if faultL e.g e.T ≠ 0 then faultL e.g e.T else firstF l') = 0
      rw [f1]
      exact i2
/-- What packs to texts is strictly read of them. -/
theorem ents_there : ∀ {l : List Bq}, (∀ b ∈ l, b.Ok) → firstF l = 0 → entsL (shT l) = some l
  | [], _, _ => rfl
  | b :: l, hok, hf => by
    have hb := hok b (by simp)
    have hf1 : faultL b.g b.T = 0 := by
      simp only [firstF] at hf
      split at hf
      · rename_i h; exact absurd hf h
      · rename_i h; simpa using h
    have hf2 : firstF l = 0 := by
      simp only [firstF] at hf
      rw [if_neg (by rw [hf1]; simp)] at hf
      exact hf
    have ih := ents_there (fun c hc => hok c (by simp [hc])) hf2
    have e : shT (b :: l) = Lib.itoa b.n :: Lib.itoa b.v :: encV b.x b.g b.T :: shT l := rfl
    rw [e]
    show cat2 (mk3 (toNumL (Lib.itoa b.n)) (toNumL (Lib.itoa b.v)) (cDecL (encV b.x b.g b.T))) (entsL (shT l)) = _
    rw [ih, toNum_itoa b.n hb.n.1 hb.n.2, toNum_itoa b.v hb.v.1 hb.v.2, cDec_enc hf1 (by have := hb.x; omega)]
    rfl
/-- Strictly read is loosely read. -/
theorem loose_of : ∀ {L : List (List UInt8)} {l : List Bq}, entsL L = some l → looseL L = some l
  | [], l, h => h
  | [_], l, h => by cases h
  | [_, _], l, h => by cases h
  | a :: b :: c :: r, l, h => by
    obtain ⟨e, l', h1, h2, rfl⟩ := cat2_some h
    obtain ⟨k1, k2, k3⟩ := mk3_some h1
    show cat2 (mk3 (some (tnV a)) (some (tnV b)) (cDecL c)) (looseL r) = _
    rw [loose_of h2, (tnV_some k1).1, (tnV_some k2).1, k3]
    rfl
theorem loose_len : ∀ {L : List (List UInt8)} {l : List Bq}, looseL L = some l → L.length = 3 * l.length
  | [], l, h => by simp only [looseL, Option.some.injEq] at h; subst h; rfl
  | [_], l, h => by cases h
  | [_, _], l, h => by cases h
  | a :: b :: c :: r, l, h => by
    obtain ⟨e, l', h1, h2, rfl⟩ := cat2_some h
    have := loose_len h2
    simp only [List.length_cons]
    omega
/-- The change that bytes are. -/
def dec12T (L : List (List UInt8)) : Option (Bq × List Bq) :=
  match entsL L with
  | some (c :: l) => if sizedB c l.length = true then some (c, l) else none
  | _ => none
def dec12 (s : List UInt8) : Option (Bq × List Bq) := dec12T (texts s)
theorem dec12_some {s : List UInt8} {c : Bq} {l : List Bq} (h : dec12 s = some (c, l)) : errOf s = 0 ∧ entsL (texts s) = some (c :: l) ∧ sizedB c l.length = true ∧ shE c l = 0 ∧ shV c l = s := by
  have h0 : errOf s = 0 := by
    rcases err_cases s with h0 | ⟨_, h0⟩
    · exact h0
    · rw [dec12, h0] at h; cases h
  unfold dec12 dec12T at h
  split at h
  · rename_i c' l' he
    split at h
    · rename_i hs
      simp only [Option.some.injEq, Prod.mk.injEq] at h
      obtain ⟨rfl, rfl⟩ := h
      obtain ⟨b1, b2⟩ := ents_back he
      obtain ⟨e1, _, e3⟩ := shE_f hs b2
      exact ⟨h0, he, hs, e1, by rw [e3 rfl, b1, pack_texts (err_good h0)]⟩
    · cases h
  · cases h
theorem tnV_wf (a : List UInt8) : wf64 (tnV a) := by
  rcases h : toNumL a with _ | z
  · rw [(tnV_none h).1]; exact ⟨by decide, by decide⟩
  · rw [(tnV_some h).1]; exact toNum_range h
theorem loose_ok : ∀ {L : List (List UInt8)} {l : List Bq}, looseL L = some l → (∀ t ∈ L, t.length ≤ 200000) → ∀ b ∈ l, b.Ok
  | [], l, h, _ => by simp only [looseL, Option.some.injEq] at h; subst h; simp
  | [_], l, h, _ => by cases h
  | [_, _], l, h, _ => by cases h
  | a :: b :: c :: r, l, h, hl => by
    obtain ⟨e, l', h1, h2, rfl⟩ := cat2_some h
    obtain ⟨k1, k2, k3⟩ := mk3_some h1
    have ih := loose_ok h2 (fun t ht => hl t (by simp [ht]))
    have hc := hl c (by simp)
    have hcl := cDec_lens c
    have hcv : cDecV c = (e.x, e.g, e.T) := by rw [cDecV, k3]; rfl
    rw [hcv] at hcl
    simp only at hcl
    intro q hq
    rcases List.mem_cons.1 hq with rfl | hq
    · simp only [Option.some.injEq] at k1 k2
      exact ⟨by rw [← k1]; exact tnV_wf a, by rw [← k2]; exact tnV_wf b, by omega, by omega⟩
    · exact ih q hq
theorem entT_lens {b : Bq} (h : b.Ok) : ∀ t ∈ entT b, t.length ≤ 1000000000 := by
  intro t ht
  have := tot_mem ht
  have := ent_tot h
  omega
theorem shT_lens {l : List Bq} (h : ∀ b ∈ l, b.Ok) : ∀ t ∈ shT l, t.length ≤ 1000000000 := by
  intro t ht
  obtain ⟨b, hb, hbt⟩ := List.mem_flatMap.1 ht
  exact entT_lens (h b hb) t hbt
/-- There and back. -/
theorem dec_enc {c : Bq} {l : List Bq} (hok : ∀ b ∈ c :: l, b.Ok) (h : shE c l = 0) : dec12 (shV c l) = some (c, l) := by
  cases hs : sizedB c l.length
  · rw [(shE_1 hs).1] at h; cases h
  · obtain ⟨e1, _, e3⟩ := shE_f (c := c) (l := l) hs rfl
    rw [e1] at h
    rw [e3 h, dec12, texts_pack _ (shT_lens hok), dec12T, ents_there hok h]
    simp only [hs, if_true]
/-- What is loosely read is a change where its bytes are the same. -/
theorem dec_loose {s : List UInt8} {c : Bq} {l : List Bq} (hL : looseL (texts s) = some (c :: l)) (hs : s.length ≤ 200000) : (shE c l = 0 ∧ shV c l = s) ↔ dec12 s = some (c, l) := by
  constructor
  · rintro ⟨h1, h2⟩
    have hok := loose_ok hL (fun t ht => Nat.le_trans (texts_mem ht) hs)
    rw [← h2]
    exact dec_enc hok h1
  · intro h
    obtain ⟨_, _, _, h4, h5⟩ := dec12_some h
    exact ⟨h4, h5⟩
theorem dec_not {s : List UInt8} (h : ∀ c l, looseL (texts s) ≠ some (c :: l)) : dec12 s = none := by
  cases hd : dec12 s with
  | none => rfl
  | some y =>
    obtain ⟨c, l⟩ := y
    exact absurd (loose_of (dec12_some hd).2.1) (h c l)
end Go.Proofs.YtifalaigfinciaaDoor
