/-
  Plain mathematics of records on bytes: how they lie, what is read of them, what is laid behind, over a disk that can lose its last writes.
-/
import Derived.Test.YthcikgbnenfjpaaDoorPureD
namespace Go.Proofs.YthcikgbnenfjpaaDoor.pk
open Go

/-- A number as four bytes, the highest first. -/
def be4 (n : Nat) : List UInt8 := [UInt8.ofNat (n / 16777216), UInt8.ofNat (n / 65536), UInt8.ofNat (n / 256), UInt8.ofNat n]
def num4 (a b c e : UInt8) : Nat := a.toNat * 16777216 + b.toNat * 65536 + c.toNat * 256 + e.toNat
theorem num4_be4 (n : Nat) (h : n < 4294967296) : num4 (UInt8.ofNat (n / 16777216)) (UInt8.ofNat (n / 65536)) (UInt8.ofNat (n / 256)) (UInt8.ofNat n) = n := by
  unfold num4
  simp only [UInt8.toNat_ofNat']
  omega
theorem num4_lt (a b c e : UInt8) : num4 a b c e < 4294967296 := by
  unfold num4
  have := a.toNat_lt; have := b.toNat_lt; have := c.toNat_lt; have := e.toNat_lt
  omega
theorem byte_eq (n : Nat) (a : UInt8) (h : n % 256 = a.toNat) : UInt8.ofNat n = a := by
  apply UInt8.toNat_inj.1
  rw [UInt8.toNat_ofNat']
  exact h
theorem be4_num4 (a b c e : UInt8) : be4 (num4 a b c e) = [a, b, c, e] := by
  have h1 := a.toNat_lt; have h2 := b.toNat_lt; have h3 := c.toNat_lt; have h4 := e.toNat_lt
  unfold be4
  have e1 : num4 a b c e / 16777216 % 256 = a.toNat := by unfold num4; omega
  have e2 : num4 a b c e / 65536 % 256 = b.toNat := by unfold num4; omega
  have e3 : num4 a b c e / 256 % 256 = c.toNat := by unfold num4; omega
  have e4 : num4 a b c e % 256 = e.toNat := by unfold num4; omega
  rw [byte_eq _ _ e1, byte_eq _ _ e2, byte_eq _ _ e3, byte_eq _ _ e4]
/-- A record as it lies. -/
def enc1 (b : List UInt8) : List UInt8 := 1 :: (be4 b.length ++ b)
theorem enc1_len (b : List UInt8) : (enc1 b).length = 5 + b.length := by simp [enc1, be4]; omega
def encL (l : List (List UInt8)) : List UInt8 := (l.map enc1).flatten
theorem encL_append (l r : List (List UInt8)) : encL (l ++ r) = encL l ++ encL r := by simp [encL]
theorem encL_cons (b : List UInt8) (l : List (List UInt8)) : encL (b :: l) = enc1 b ++ encL l := by simp [encL]
theorem encL_one (b : List UInt8) : encL [b] = enc1 b := by simp [encL]

/-- What is read of an area: the records, and where the next one begins; none: it can't be read. -/
def parse : Nat → List UInt8 → Option (List (List UInt8) × Nat)
  | 0, _ => some ([], 0)
  | f + 1, m :: a :: b :: c :: e :: r =>
    if m = 0 then some ([], 0)
    else if m = 1 ∧ num4 a b c e ≤ r.length then (parse f (r.drop (num4 a b c e))).map fun x => (r.take (num4 a b c e) :: x.1, 5 + num4 a b c e + x.2)
    else none
  | _ + 1, _ => some ([], 0)
def readT (A : List UInt8) : Option (List (List UInt8) × Nat) := parse A.length A

theorem parse_short (f : Nat) (A : List UInt8) (h : A.length < 5) : parse f A = some ([], 0) := by
  cases f with
  | zero => rfl
  | succ f =>
    rcases A with _ | ⟨_, _ | ⟨_, _ | ⟨_, _ | ⟨_, _ | ⟨_, r⟩⟩⟩⟩⟩ <;> first | rfl | (simp at h; omega)
/-- More fuel changes nothing. -/
theorem parse_fuel : ∀ (f g : Nat) (A : List UInt8), A.length ≤ f → A.length ≤ g → parse f A = parse g A
  | 0, g, A, hf, _ => by
    rw [parse_short g A (by omega)]; rfl
  | f + 1, 0, A, _, hg => by
    rw [parse_short (f + 1) A (by omega)]; rfl
  | f + 1, g + 1, A, hf, hg => by
    by_cases h5 : A.length < 5
    · rw [parse_short _ A h5, parse_short _ A h5]
    · rcases A with _ | ⟨m, _ | ⟨a, _ | ⟨b, _ | ⟨c, _ | ⟨e, r⟩⟩⟩⟩⟩ <;> first | (simp at h5; done) | skip
      simp only [List.length_cons] at hf hg
      unfold parse
      rw [parse_fuel f g (r.drop (num4 a b c e)) (by rw [List.length_drop]; omega) (by rw [List.length_drop]; omega)]

/-- How an area lies: records, and no mark behind, if there is a place. -/
structure Lies (A : List UInt8) (l : List (List UInt8)) : Prop where
  fits : (encL l).length ≤ A.length
  front : A.take (encL l).length = encL l
  stop : (encL l).length + 5 ≤ A.length → A.getD (encL l).length 1 = 0
  small : ∀ b ∈ l, b.length < 4294967296

theorem parse_lies : ∀ (l : List (List UInt8)) (f : Nat) (A : List UInt8), A.length ≤ f → Lies A l → parse f A = some (l, (encL l).length)
  | [], f, A, _, h => by
    by_cases h5 : A.length < 5
    · rw [parse_short f A h5]; rfl
    · have hs := h.stop (by simp [encL]; omega)
      rcases A with _ | ⟨m, _ | ⟨a, _ | ⟨b, _ | ⟨c, _ | ⟨e, r⟩⟩⟩⟩⟩ <;> first | (simp at h5; done) | skip
      simp [encL] at hs
      cases f with
      | zero => rfl
      | succ f =>
        unfold parse
        rw [if_pos hs]
        simp [encL]
  | b :: l, f, A, hf, h => by
    have hsm := h.small b (List.mem_cons_self ..)
    have hfr := h.front
    have hft := h.fits
    have hst := h.stop
    rw [encL_cons] at hfr hft hst
    have hlen : (enc1 b ++ encL l).length = 5 + b.length + (encL l).length := by rw [List.length_append, enc1_len]
    rw [hlen] at hfr hft hst
    obtain ⟨R, hR⟩ : ∃ R, A = enc1 b ++ encL l ++ R := ⟨A.drop (5 + b.length + (encL l).length), by rw [← hfr, List.take_append_drop]⟩
    have hA : A = 1 :: UInt8.ofNat (b.length / 16777216) :: UInt8.ofNat (b.length / 65536) :: UInt8.ofNat (b.length / 256) :: UInt8.ofNat b.length :: (b ++ (encL l ++ R)) := by
      rw [hR]; simp [enc1, be4]
    have hAl : A.length = 5 + b.length + ((encL l).length + R.length) := by rw [hA]; simp; omega
    cases f with
    | zero => omega
    | succ f =>
      have hl' : Lies (encL l ++ R) l := by
        refine ⟨by simp, by simp, fun h5 => ?_, fun x hx => h.small x (List.mem_cons_of_mem _ hx)⟩
        rw [List.length_append] at h5
        have h6 := hst (by rw [hAl]; omega)
        rw [hA] at h6
        have e : 5 + b.length + (encL l).length = (b.length + (encL l).length) + 5 := by omega
        rw [e] at h6
        simp only [List.getD_cons_succ] at h6
        rw [← h6]
        simp only [List.getD]
        rw [List.getElem?_append_right (by omega) (l₁ := b), show b.length + (encL l).length - b.length = (encL l).length by omega]
      have ih := parse_lies l f (encL l ++ R) (by rw [hAl] at hf; simp; omega) hl'
      rw [hA]
      unfold parse
      rw [if_neg (by decide), num4_be4 _ hsm, if_pos ⟨rfl, by simp⟩]
      have e1 : (b ++ (encL l ++ R)).drop b.length = encL l ++ R := by simp
      have e2 : (b ++ (encL l ++ R)).take b.length = b := by simp
      rw [e1, e2, ih]
      show some _ = some _
      rw [encL_cons, List.length_append, enc1_len]
theorem readT_lies {A : List UInt8} {l : List (List UInt8)} (h : Lies A l) : readT A = some (l, (encL l).length) := parse_lies l _ A (Nat.le_refl _) h
theorem lies_cons {n : Nat} {a b c e : UInt8} {r : List UInt8} {l : List (List UInt8)} (hbe : be4 n = [a, b, c, e]) (hn : n < 4294967296) (hr : n ≤ r.length) (hl : Lies (r.drop n) l) :
    Lies (1 :: a :: b :: c :: e :: r) (r.take n :: l) ∧ (encL (r.take n :: l)).length = 5 + n + (encL l).length := by
  have htl : (r.take n).length = n := by rw [List.length_take]; omega
  have hdl : (r.drop n).length = r.length - n := List.length_drop ..
  have hE : encL (r.take n :: l) = 1 :: a :: b :: c :: e :: (r.take n ++ encL l) := by
    rw [encL_cons, enc1, htl, hbe]
    rfl
  have hEl : (encL (r.take n :: l)).length = 5 + n + (encL l).length := by rw [encL_cons, List.length_append, enc1_len, htl]
  have hfit := hl.fits
  rw [hdl] at hfit
  refine ⟨⟨by rw [hEl]; simp only [List.length_cons]; omega, ?_, fun h6 => ?_, fun x hx => ?_⟩, hEl⟩
  · rw [hEl, hE, show 5 + n + (encL l).length = (n + (encL l).length) + 5 by omega]
    simp only [List.take_succ_cons]
    rw [List.take_add, hl.front]
  · rw [hEl] at h6 ⊢
    simp only [List.length_cons] at h6
    rw [show 5 + n + (encL l).length = (n + (encL l).length) + 5 by omega]
    simp only [List.getD_cons_succ]
    have := hl.stop (by rw [hdl]; omega)
    simpa [List.getD] using this
  · rcases List.mem_cons.1 hx with rfl | hx
    · rw [htl]; exact hn
    · exact hl.small x hx
/-- What can be read lies so. -/
theorem lies_parse : ∀ (f : Nat) (A : List UInt8) (l : List (List UInt8)) (k : Nat), A.length ≤ f → parse f A = some (l, k) → Lies A l ∧ k = (encL l).length
  | 0, A, l, k, hf, h => by
    have h0 : A = [] := List.eq_nil_of_length_eq_zero (by omega)
    subst h0
    unfold parse at h
    injection h with h
    injection h with h1 h2
    subst h1; subst h2
    exact ⟨⟨by simp [encL], by simp [encL], fun h => by simp at h, fun b hb => by cases hb⟩, rfl⟩
  | f + 1, A, l, k, hf, h => by
    by_cases h5 : A.length < 5
    · rw [parse_short _ A h5] at h
      injection h with h
      injection h with h1 h2
      subst h1; subst h2
      exact ⟨⟨by simp [encL], by simp [encL], fun h => by simp [encL] at h; omega, fun b hb => by cases hb⟩, rfl⟩
    · rcases A with _ | ⟨m, _ | ⟨a, _ | ⟨b, _ | ⟨c, _ | ⟨e, r⟩⟩⟩⟩⟩ <;> first | (simp at h5; done) | skip
      unfold parse at h
      by_cases hm : m = 0
      · rw [if_pos hm] at h
        injection h with h
        injection h with h1 h2
        subst h1; subst h2
        exact ⟨⟨by simp [encL], by simp [encL], fun _ => by simp [encL, hm], fun b hb => by cases hb⟩, rfl⟩
      · rw [if_neg hm] at h
        by_cases hc : m = 1 ∧ num4 a b c e ≤ r.length
        · rw [if_pos hc] at h
          obtain ⟨⟨l', k'⟩, hp, he⟩ := Option.map_eq_some_iff.1 h
          injection he with h1 h2
          simp only [List.length_cons] at hf
          obtain ⟨hl, hk⟩ := lies_parse f (r.drop (num4 a b c e)) l' k' (by rw [List.length_drop]; omega) hp
          obtain ⟨h3, h4⟩ := lies_cons (be4_num4 a b c e) (num4_lt a b c e) hc.2 hl
          rw [hc.1]
          rw [← h1]
          exact ⟨h3, by rw [h4, ← h2, hk]⟩
        · rw [if_neg hc] at h
          cases h
theorem readT_some {A : List UInt8} {l : List (List UInt8)} {k : Nat} (h : readT A = some (l, k)) : Lies A l ∧ k = (encL l).length := lies_parse _ A l k (Nat.le_refl _) h

end Go.Proofs.YthcikgbnenfjpaaDoor.pk
