/-
  Plain mathematics of the sum CRC-32C: a step is linear and loses nothing; so what lies within four bytes that follow one another is told. Nothing of a program is in it.
-/
import Derived.Lib.ItoaNum
namespace Go.Proofs.YtfblgkcipnkhaaaGreatDoor.pk
open Go

/-- Halved, and, if it was odd, xored. -/
def sh (r : Nat) : Nat := if r % 2 = 1 then r / 2 ^^^ 2197175160 else r / 2
def rep : Nat → Nat → Nat
  | 0, r => r
  | k + 1, r => rep k (sh r)
/-- A byte taken in. -/
def crcB (r c : Nat) : Nat := rep 8 (r ^^^ c)
def crc (r : Nat) : List UInt8 → Nat
  | [] => r
  | c :: l => crc (crcB r c.toNat) l
/-- The sum of bytes. -/
def sum (l : List UInt8) : Nat := 4294967295 ^^^ crc 4294967295 l

theorem xor_div2 (a b : Nat) : (a ^^^ b) / 2 = a / 2 ^^^ b / 2 := by simpa using Nat.xor_div_two_pow (a := a) (b := b) (n := 1)
theorem xor_lc (a b c : Nat) : a ^^^ (b ^^^ c) = b ^^^ (a ^^^ c) := by rw [← Nat.xor_assoc, Nat.xor_comm a b, Nat.xor_assoc]
theorem xor_zero_eq {a b : Nat} (h : a ^^^ b = 0) : a = b := by
  have : (a ^^^ b) ^^^ b = 0 ^^^ b := by rw [h]
  rw [Nat.xor_assoc, Nat.xor_self, Nat.xor_zero, Nat.zero_xor] at this
  exact this
theorem xor_swap {a b c : Nat} (h : a ^^^ b = c) : b = a ^^^ c := by rw [← h, ← Nat.xor_assoc, Nat.xor_self, Nat.zero_xor]

theorem sh_xor (a b : Nat) : sh (a ^^^ b) = sh a ^^^ sh b := by
  have hm := Nat.xor_mod_two_eq_one (a := a) (b := b)
  unfold sh
  by_cases ha : a % 2 = 1
  · by_cases hb : b % 2 = 1
    · rw [if_neg (by rw [hm]; simp [ha, hb]), if_pos ha, if_pos hb, xor_div2]
      rw [Nat.xor_assoc, xor_lc 2197175160, Nat.xor_self, Nat.xor_zero]
    · rw [if_pos (by rw [hm]; simp [ha, hb]), if_pos ha, if_neg hb, xor_div2]
      rw [Nat.xor_assoc, Nat.xor_assoc, Nat.xor_comm (b / 2)]
  · by_cases hb : b % 2 = 1
    · rw [if_pos (by rw [hm]; simp [ha, hb]), if_neg ha, if_pos hb, xor_div2, Nat.xor_assoc]
    · rw [if_neg (by rw [hm]; simp [ha, hb]), if_neg ha, if_neg hb, xor_div2]
theorem sh_zero : sh 0 = 0 := rfl
theorem sh_lt {a : Nat} (h : a < 4294967296) : sh a < 4294967296 := by
  unfold sh
  by_cases ha : a % 2 = 1
  · rw [if_pos ha]
    exact Nat.xor_lt_two_pow (n := 32) (by omega) (by omega)
  · rw [if_neg ha]; omega
theorem sh_eq_zero {a : Nat} (h : a < 4294967296) (h0 : sh a = 0) : a = 0 := by
  unfold sh at h0
  by_cases ha : a % 2 = 1
  · rw [if_pos ha] at h0
    have := xor_zero_eq h0
    omega
  · rw [if_neg ha] at h0; omega
theorem sh_double (m : Nat) : sh (2 * m) = m := by unfold sh; rw [if_neg (by omega)]; omega

theorem rep_xor : ∀ (k a b : Nat), rep k (a ^^^ b) = rep k a ^^^ rep k b
  | 0, _, _ => rfl
  | k + 1, a, b => by unfold rep; rw [sh_xor, rep_xor k]
theorem rep_zero : ∀ k, rep k 0 = 0
  | 0 => rfl
  | k + 1 => by unfold rep; rw [sh_zero, rep_zero k]
theorem rep_lt : ∀ (k : Nat) {a : Nat}, a < 4294967296 → rep k a < 4294967296
  | 0, _, h => h
  | k + 1, _, h => by unfold rep; exact rep_lt k (sh_lt h)
theorem rep_eq_zero : ∀ (k : Nat) {a : Nat}, a < 4294967296 → rep k a = 0 → a = 0
  | 0, _, _, h => h
  | k + 1, _, hl, h => by unfold rep at h; exact sh_eq_zero hl (rep_eq_zero k (sh_lt hl) h)
theorem rep_add : ∀ (j k a : Nat), rep (j + k) a = rep k (rep j a)
  | 0, k, a => by rw [Nat.zero_add]; rfl
  | j + 1, k, a => by rw [show j + 1 + k = (j + k) + 1 from by omega]; exact rep_add j k (sh a)
theorem rep_byte (m : Nat) : rep 8 (256 * m) = m := by
  have h : 256 * m = 2 * (2 * (2 * (2 * (2 * (2 * (2 * (2 * m))))))) := by omega
  rw [h]
  simp only [rep, sh_double]

/-- Bytes as a number, the lowest first. -/
def le : List UInt8 → Nat
  | [] => 0
  | c :: l => c.toNat ^^^ 256 * le l

theorem mul256_xor (a b : Nat) : 256 * (a ^^^ b) = 256 * a ^^^ 256 * b := by
  have h := Nat.shiftLeft_xor_distrib (i := 8) (a := a) (b := b)
  simp only [Nat.shiftLeft_eq] at h
  rw [Nat.mul_comm 256, Nat.mul_comm 256, Nat.mul_comm 256]
  exact h
theorem xor256_div (c m : Nat) (h : c < 256) : (c ^^^ 256 * m) / 256 = m := by
  have := Nat.xor_div_two_pow (a := c) (b := 256 * m) (n := 8)
  simp only [show (2 : Nat) ^ 8 = 256 from rfl] at this
  rw [this, Nat.div_eq_of_lt h, Nat.mul_div_cancel_left m (by omega), Nat.zero_xor]
theorem xor256_mod (c m : Nat) (h : c < 256) : (c ^^^ 256 * m) % 256 = c := by
  have := Nat.xor_mod_two_pow (a := c) (b := 256 * m) (n := 8)
  simp only [show (2 : Nat) ^ 8 = 256 from rfl] at this
  rw [this, Nat.mod_eq_of_lt h, Nat.mul_mod_right, Nat.xor_zero]
theorem xor256 (c m : Nat) (h : c < 256) : c ^^^ 256 * m = c + 256 * m := by
  have h1 := xor256_div c m h
  have h2 := xor256_mod c m h
  omega

theorem crc_append : ∀ (l r : List UInt8) (s : Nat), crc s (l ++ r) = crc (crc s l) r
  | [], _, _ => rfl
  | c :: l, r, s => crc_append l r (crcB s c.toNat)
theorem crc_le : ∀ (l : List UInt8) (s : Nat), crc s l = rep (8 * l.length) (s ^^^ le l)
  | [], s => (Nat.xor_zero s).symm
  | c :: l, s => by
    unfold crc le
    rw [crc_le l, List.length_cons, show 8 * (l.length + 1) = 8 + 8 * l.length from by omega, rep_add, ← Nat.xor_assoc, rep_xor 8, rep_byte]
    rfl

/-- Two lists of bytes, one byte xored to the other one. -/
def xorL : List UInt8 → List UInt8 → List UInt8
  | c :: l, d :: r => (c ^^^ d) :: xorL l r
  | [], _ => []
  | l, [] => l

theorem crc_xor : ∀ (l r : List UInt8) (s t : Nat), l.length = r.length → crc (s ^^^ t) (xorL l r) = crc s l ^^^ crc t r
  | [], [], _, _, _ => rfl
  | c :: l, d :: r, s, t, h => by
    unfold xorL crc
    rw [← crc_xor l r _ _ (by simpa using h)]
    congr 1
    unfold crcB
    rw [← rep_xor, UInt8.toNat_xor]
    congr 1
    rw [Nat.xor_assoc, Nat.xor_assoc, xor_lc t]
  | [], _ :: _, _, _, h => by simp at h
  | _ :: _, [], _, _, h => by simp at h

theorem crc_lt : ∀ (l : List UInt8) {s : Nat}, s < 4294967296 → crc s l < 4294967296
  | [], _, h => h
  | c :: l, s, h => by
    unfold crc
    exact crc_lt l (rep_lt 8 (Nat.xor_lt_two_pow (n := 32) (by omega) (by have := c.toNat_lt; omega)))

theorem crc_zeros : ∀ (n s : Nat), crc s (List.replicate n 0) = rep (8 * n) s
  | 0, _ => rfl
  | n + 1, s => by
    rw [List.replicate_succ]
    unfold crc
    rw [crc_zeros n, show 8 * (n + 1) = 8 + 8 * n from by omega, rep_add]
    simp [crcB]

theorem le_lt : ∀ (l : List UInt8), le l < 256 ^ l.length
  | [] => by simp [le]
  | c :: l => by
    have ih := le_lt l
    have hc := c.toNat_lt
    unfold le
    rw [xor256 _ _ (by omega), List.length_cons, Nat.pow_succ]
    omega
theorem le_eq_zero : ∀ (l : List UInt8), le l = 0 → ∀ c ∈ l, c = 0
  | [], _, c, hc => by simp at hc
  | d :: l, h, c, hc => by
    have hd := d.toNat_lt
    unfold le at h
    rw [xor256 _ _ (by omega)] at h
    rcases List.mem_cons.1 hc with rfl | hc
    · exact UInt8.toNat_inj.1 (by simp; omega)
    · exact le_eq_zero l (by omega) c hc
theorem le_inj : ∀ (l r : List UInt8), l.length = r.length → le l = le r → l = r
  | [], [], _, _ => rfl
  | c :: l, d :: r, h, e => by
    have hc := c.toNat_lt
    have hd := d.toNat_lt
    unfold le at e
    rw [xor256 _ _ (by omega), xor256 _ _ (by omega)] at e
    rw [le_inj l r (by simpa using h) (by omega), UInt8.toNat_inj.1 (show c.toNat = d.toNat from by omega)]
  | [], _ :: _, h, _ => by simp at h
  | _ :: _, [], h, _ => by simp at h

/-- What lies within four bytes that follow one another, others 0: it leaves 0 only where all are 0. -/
theorem burst (m n : Nat) (e : List UInt8) (he : e.length ≤ 4) (h : crc 0 (List.replicate m 0 ++ e ++ List.replicate n 0) = 0) : ∀ c ∈ e, c = 0 := by
  rw [crc_append, crc_append, crc_zeros n, crc_zeros m, rep_zero, crc_le e, Nat.zero_xor] at h
  have hl : le e < 4294967296 := by
    have h1 := le_lt e
    have h2 : (256 : Nat) ^ e.length ≤ 256 ^ 4 := Nat.pow_le_pow_right (by omega) he
    simp only [show (256 : Nat) ^ 4 = 4294967296 from rfl] at h2
    omega
  exact le_eq_zero e (rep_eq_zero _ hl (rep_eq_zero _ (rep_lt _ hl) h))

/-- A sum's bytes, the lowest first. -/
def tail4 (n : Nat) : List UInt8 := [UInt8.ofNat (n % 256), UInt8.ofNat (n / 256 % 256), UInt8.ofNat (n / 65536 % 256), UInt8.ofNat (n / 16777216 % 256)]
theorem tail4_len (n : Nat) : (tail4 n).length = 4 := rfl
theorem toNat_ofNat (n : Nat) : (UInt8.ofNat (n % 256)).toNat = n % 256 := by simp
theorem le_tail4 (n : Nat) (h : n < 4294967296) : le (tail4 n) = n := by
  unfold tail4 le le le le le
  simp only [toNat_ofNat]
  rw [xor256 _ _ (by omega), xor256 _ _ (by omega), xor256 _ _ (by omega), xor256 _ _ (by omega)]
  omega

/-- The register behind all of what is sealed rightly. -/
def good : Nat := rep 32 4294967295

/-- Bytes with four behind them: these are the sum if and only if the register is the good one. -/
theorem sealed_iff (l t : List UInt8) (ht : t.length = 4) : crc 4294967295 (l ++ t) = good ↔ t = tail4 (sum l) := by
  have hL := crc_lt l (s := 4294967295) (by omega)
  have hT : le t < 4294967296 := by have := le_lt t; rw [ht] at this; simpa using this
  have hS : sum l < 4294967296 := Nat.xor_lt_two_pow (n := 32) (by omega) (by omega)
  rw [crc_append, crc_le t, ht]
  unfold good
  constructor
  · intro h
    have h1 : rep 32 (crc 4294967295 l ^^^ le t ^^^ 4294967295) = 0 := by
      have h' : rep 32 (crc 4294967295 l ^^^ le t) = rep 32 4294967295 := h
      rw [rep_xor, h', Nat.xor_self]
    have h2 := rep_eq_zero 32 (Nat.xor_lt_two_pow (n := 32) (Nat.xor_lt_two_pow (n := 32) (by omega) (by omega)) (by omega)) h1
    have h3 := xor_swap (xor_zero_eq h2)
    refine le_inj _ _ (by rw [ht, tail4_len]) ?_
    rw [le_tail4 _ hS, h3]
    unfold sum
    rw [Nat.xor_comm]
  · intro h
    rw [h, le_tail4 _ hS]
    unfold sum
    rw [xor_lc, Nat.xor_self, Nat.xor_zero]

/-- WHAT IS SEALED AND THEN CHANGED WITHIN FOUR BYTES IS TOLD. -/
theorem near (l t l' t' : List UInt8) (ht : t.length = 4) (ht' : t'.length = 4) (hs : t = tail4 (sum l)) (m n : Nat) (e : List UInt8) (he : e.length ≤ 4) (hl : (l ++ t).length = m + e.length + n)
    (hx : l' ++ t' = xorL (l ++ t) (List.replicate m 0 ++ e ++ List.replicate n 0)) (hne : ∃ c ∈ e, c ≠ 0) : t' ≠ tail4 (sum l') := by
  intro h
  have h1 := (sealed_iff l t ht).2 hs
  have h2 := (sealed_iff l' t' ht').2 h
  have h3 := crc_xor (l ++ t) (List.replicate m 0 ++ e ++ List.replicate n 0) 4294967295 0 (by rw [hl]; simp only [List.length_append, List.length_replicate])
  rw [Nat.xor_zero, ← hx, h2, h1] at h3
  have h4 : crc 0 (List.replicate m 0 ++ e ++ List.replicate n 0) = 0 := by
    rw [xor_swap h3.symm, Nat.xor_self]
  obtain ⟨c, hc, hn⟩ := hne
  exact hn (burst m n e he h4 c hc)

end Go.Proofs.YtfblgkcipnkhaaaGreatDoor.pk
