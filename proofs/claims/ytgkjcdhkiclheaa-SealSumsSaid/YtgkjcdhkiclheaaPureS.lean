/-
  Plain mathematics of what is sealed and opened.
-/
import Derived.Test.YtgkjcdhkiclheaaCrc
import Derived.ProofKit
namespace Go.Proofs.Ytgkjcdhkiclheaa.pk
open Go Go.RowKit
set_option maxRecDepth 100000

theorem xor_all (a : Nat) (h : a < 2 ^ 32) : (2 ^ 32 - 1) ^^^ a = 2 ^ 32 - 1 - a := by
  have h1 := (BitVec.ofNat 32 a).toNat_not
  have h2 : (~~~(BitVec.ofNat 32 a)) = BitVec.allOnes 32 ^^^ BitVec.ofNat 32 a := by rw [BitVec.allOnes_xor]
  rw [h2, BitVec.toNat_xor, BitVec.toNat_allOnes, BitVec.toNat_ofNat, Nat.mod_eq_of_lt h] at h1
  exact h1
theorem sum_sub (l : List UInt8) : sum l = 4294967295 - crc 4294967295 l := xor_all _ (crc_lt l (s := 4294967295) (by omega))

/-- What sealing bytes of a kind gives: the error's number, the bytes. -/
def sealE (kind : UInt8) (b : List UInt8) : Nat := if kind = 0 then 1 else if 1048576 < b.length then 2 else 0
def sealB (kind : UInt8) (b : List UInt8) : List UInt8 := if sealE kind b = 0 then (kind :: b) ++ tail4 (sum (kind :: b)) else []

theorem sum_lt (l : List UInt8) : sum l < 4294967296 := by
  have := crc_lt l (s := 4294967295) (by omega)
  rw [sum_sub]; omega

/-- What opening bytes gives: the error's number, the kind, the bytes between. -/
def openE (b : List UInt8) : Nat :=
  if b.length < 5 then 12 else if tail4 (sum (b.take (b.length - 4))) ≠ b.drop (b.length - 4) then 11 else if b.headD 0 = 0 then 1 else if 1048577 < b.length - 4 then 2 else 0
def openK (b : List UInt8) : UInt8 := if openE b = 0 then b.headD 0 else 0
def openX (b : List UInt8) : List UInt8 := if openE b = 0 then (b.take (b.length - 4)).drop 1 else []

theorem text_ne {x y : List UInt8} (h : x ≠ y) : (⟨x.toArray⟩ : ByteArray) ≠ ⟨y.toArray⟩ := fun e => h (by injection e with e; exact List.toArray_inj e)

/-- The sum of all, if s is that of the bytes ahead. -/
def more (s : Nat) (l : List UInt8) : Nat := 4294967295 ^^^ crc (4294967295 ^^^ s) l
theorem more_sum (a b : List UInt8) : more (sum a) b = sum (a ++ b) := by
  unfold more sum
  rw [crc_append, ← Nat.xor_assoc, Nat.xor_self, Nat.zero_xor]
theorem more_zero (b : List UInt8) : more 0 b = sum b := rfl

/-- What is sealed is opened as it was. -/
theorem seal_open (kind : UInt8) (b : List UInt8) (h : sealE kind b = 0) : openE (sealB kind b) = 0 ∧ openK (sealB kind b) = kind ∧ openX (sealB kind b) = b := by
  have hb : sealB kind b = (kind :: b) ++ tail4 (sum (kind :: b)) := by unfold sealB; rw [if_pos h]
  have hl : (sealB kind b).length - 4 = (kind :: b).length := by rw [hb, List.length_append, tail4_len]; omega
  have hk : kind ≠ 0 ∧ ¬ 1048576 < b.length := by
    unfold sealE at h
    by_cases h0 : kind = 0
    · rw [if_pos h0] at h; omega
    · rw [if_neg h0] at h
      refine ⟨h0, fun h1 => ?_⟩
      rw [if_pos h1] at h; omega
  have ht : (sealB kind b).take ((sealB kind b).length - 4) = kind :: b := by rw [hl, hb, List.take_left]
  have hd : (sealB kind b).drop ((sealB kind b).length - 4) = tail4 (sum (kind :: b)) := by rw [hl, hb, List.drop_left]
  have hh : (sealB kind b).headD 0 = kind := by rw [hb]; rfl
  have he : openE (sealB kind b) = 0 := by
    unfold openE
    rw [if_neg (by rw [hb, List.length_append, tail4_len, List.length_cons]; omega), ht, hd, if_neg (by simp), hh, if_neg hk.1, hl, if_neg (by rw [List.length_cons]; omega)]
  refine ⟨he, ?_, ?_⟩
  · unfold openK; rw [if_pos he, hh]
  · unfold openX; rw [if_pos he, ht]; rfl

theorem sum_check : sum [49, 50, 51, 52, 53, 54, 55, 56, 57] = 3808858755 := by kernel_rfl
theorem sealE_ab : sealE 7 [97, 98] = 0 := by kernel_rfl

end Go.Proofs.Ytgkjcdhkiclheaa.pk
