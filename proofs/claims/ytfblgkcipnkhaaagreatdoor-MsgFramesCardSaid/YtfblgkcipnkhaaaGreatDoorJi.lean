/-
  Texts of the proof, joined: PureS, NearP.
-/
import Derived.Test.YtfblgkcipnkhaaaGreatDoorCrc
import Derived.ProofKit

/-
  Plain mathematics of what is sealed and opened.
-/
namespace Go.Proofs.YtfblgkcipnkhaaaGreatDoor.pk
open Go Go.RowKit
set_option maxRecDepth 100000

theorem xor_all (a : Nat) (h : a < 2 ^ 32) : (2 ^ 32 - 1) ^^^ a = 2 ^ 32 - 1 - a := by
  have h1 := (BitVec.ofNat 32 a).toNat_not
  have h2 : (~~~(BitVec.ofNat 32 a)) = BitVec.allOnes 32 ^^^ BitVec.ofNat 32 a := by rw [BitVec.allOnes_xor]
  rw [h2, BitVec.toNat_xor, BitVec.toNat_allOnes, BitVec.toNat_ofNat, Nat.mod_eq_of_lt h] at h1
  exact h1
theorem sum_sub (l : List UInt8) : sum l = 4294967295 - crc 4294967295 l := xor_all _ (crc_lt l (s := 4294967295) (by omega))

/-- What sealing bytes of a kind gives: the error's number, the bytes. -/
def sealE (kind : UInt8) (b : List UInt8) : Nat := if kind = 0 then 1 else if 1048576 < b.length then 2 else 0
def sealB (kind : UInt8) (b : List UInt8) : List UInt8 := if sealE kind b = 0 then (kind :: b) ++ tail4 (sum (kind :: b)) else []

theorem sum_lt (l : List UInt8) : sum l < 4294967296 := by
  have := crc_lt l (s := 4294967295) (by omega)
  rw [sum_sub]; omega

/-- What opening bytes gives: the error's number, the kind, the bytes between. -/
def openE (b : List UInt8) : Nat :=
  if b.length < 5 then 12 else if tail4 (sum (b.take (b.length - 4))) ≠ b.drop (b.length - 4) then 11 else if b.headD 0 = 0 then 1 else if 1048577 < b.length - 4 then 2 else 0
def openK (b : List UInt8) : UInt8 := if openE b = 0 then b.headD 0 else 0
def openX (b : List UInt8) : List UInt8 := if openE b = 0 then (b.take (b.length - 4)).drop 1 else []

theorem text_ne {x y : List UInt8} (h : x ≠ y) : (⟨x.toArray⟩ : ByteArray) ≠ ⟨y.toArray⟩ := fun e => h (by injection e with e; exact List.toArray_inj e)

/-- The sum of all, if s is that of the bytes ahead. -/
def more (s : Nat) (l : List UInt8) : Nat := 4294967295 ^^^ crc (4294967295 ^^^ s) l
theorem more_sum (a b : List UInt8) : more (sum a) b = sum (a ++ b) := by
  unfold more sum
  rw [crc_append, ← Nat.xor_assoc, Nat.xor_self, Nat.zero_xor]
theorem more_zero (b : List UInt8) : more 0 b = sum b := rfl

/-- What is sealed is opened as it was. -/
theorem seal_open (kind : UInt8) (b : List UInt8) (h : sealE kind b = 0) : openE (sealB kind b) = 0 ∧ openK (sealB kind b) = kind ∧ openX (sealB kind b) = b := by
  have hb : sealB kind b = (kind :: b) ++ tail4 (sum (kind :: b)) := by unfold sealB; rw [if_pos h]
  have hl : (sealB kind b).length - 4 = (kind :: b).length := by rw [hb, List.length_append, tail4_len]; omega
  have hk : kind ≠ 0 ∧ ¬ 1048576 < b.length := by
    unfold sealE at h
    by_cases h0 : kind = 0
    · rw [if_pos h0] at h; omega
    · rw [if_neg h0] at h
      refine ⟨h0, fun h1 => ?_⟩
      rw [if_pos h1] at h; omega
  have ht : (sealB kind b).take ((sealB kind b).length - 4) = kind :: b := by rw [hl, hb, List.take_left]
  have hd : (sealB kind b).drop ((sealB kind b).length - 4) = tail4 (sum (kind :: b)) := by rw [hl, hb, List.drop_left]
  have hh : (sealB kind b).headD 0 = kind := by rw [hb]; rfl
  have he : openE (sealB kind b) = 0 := by
    unfold openE
    rw [if_neg (by rw [hb, List.length_append, tail4_len, List.length_cons]; omega), ht, hd, if_neg (by simp), hh, if_neg hk.1, hl, if_neg (by rw [List.length_cons]; omega)]
  refine ⟨he, ?_, ?_⟩
  · unfold openK; rw [if_pos he, hh]
  · unfold openX; rw [if_pos he, ht]; rfl

theorem sum_check : sum [49, 50, 51, 52, 53, 54, 55, 56, 57] = 3808858755 := by kernel_rfl
theorem sealE_ab : sealE 7 [97, 98] = 0 := by kernel_rfl

end Go.Proofs.YtfblgkcipnkhaaaGreatDoor.pk

/-
  Plain mathematics of the law SealNear: a window of up to four bytes that are xored; where none of it is 0's fellow, it is told.
-/
namespace Go.Proofs.YtfblgkcipnkhaaaGreatDoor.pk
open Go
set_option maxRecDepth 100000

theorem xorL_zip : ∀ (l r : List UInt8), l.length = r.length → xorL l r = List.zipWith (· ^^^ ·) l r
  | [], [], _ => rfl
  | c :: l, d :: r, h => by unfold xorL; rw [xorL_zip l r (by simpa using h)]; rfl
  | [], _ :: _, h => by simp at h
  | _ :: _, [], h => by simp at h

/-- The window's mask: j bytes from the place i on. -/
def mask (N i : Nat) (by4 : List UInt8) (j : Nat) : List UInt8 := (List.range N).map fun k => if i ≤ k ∧ k < i + j then by4.getD (k - i) 0 else 0
theorem mask_len (N i : Nat) (by4 : List UInt8) (j : Nat) : (mask N i by4 j).length = N := by simp [mask]
theorem mask_get (N i : Nat) (by4 : List UInt8) (j k : Nat) (h : k < (mask N i by4 j).length) : (mask N i by4 j)[k] = if i ≤ k ∧ k < i + j then by4.getD (k - i) 0 else 0 := by simp [mask]

/-- What is left behind j bytes of the window. -/
def win (S : List UInt8) (i : Nat) (by4 : List UInt8) (j : Nat) : List UInt8 := List.zipWith (· ^^^ ·) S (mask S.length i by4 j)
theorem win_len (S : List UInt8) (i : Nat) (by4 : List UInt8) (j : Nat) : (win S i by4 j).length = S.length := by simp [win, mask_len]
theorem win_get (S : List UInt8) (i : Nat) (by4 : List UInt8) (j k : Nat) (h : k < S.length) : (win S i by4 j)[k]'(by rw [win_len]; exact h) = S[k] ^^^ (if i ≤ k ∧ k < i + j then by4.getD (k - i) 0 else 0) := by
  unfold win
  rw [List.getElem_zipWith, mask_get]
theorem win_zero (S : List UInt8) (i : Nat) (by4 : List UInt8) (j : Nat) (h : ∀ k, k < j → by4.getD k 0 = 0) : win S i by4 j = S := by
  refine List.ext_getElem (win_len ..) fun k h1 h2 => ?_
  rw [win_get S i by4 j k h2]
  by_cases hk : i ≤ k ∧ k < i + j
  · rw [if_pos hk, h _ (by omega)]; simp
  · rw [if_neg hk]; simp
theorem win_none (S : List UInt8) (i : Nat) (by4 : List UInt8) : win S i by4 0 = S := by
  refine List.ext_getElem (win_len ..) fun k h1 h2 => ?_
  rw [win_get S i by4 0 k h2, if_neg (by omega)]; simp
theorem win_step (S : List UInt8) (i : Nat) (by4 : List UInt8) (j : Nat) (h : i + j < S.length) : (win S i by4 j).set (i + j) (S[i + j] ^^^ by4.getD j 0) = win S i by4 (j + 1) := by
  refine List.ext_getElem (by rw [List.length_set, win_len, win_len]) fun k h1 h2 => ?_
  rw [List.length_set, win_len] at h1
  rw [win_get S i by4 (j + 1) k h1, List.getElem_set]
  by_cases hk : i + j = k
  · subst hk
    rw [if_pos rfl, if_pos (by omega), show i + j - i = j from by omega]
  · rw [if_neg hk, win_get S i by4 j k h1]
    by_cases h2 : i ≤ k ∧ k < i + j
    · rw [if_pos h2, if_pos (by omega)]
    · rw [if_neg h2, if_neg (by omega)]
theorem win_at (S : List UInt8) (i : Nat) (by4 : List UInt8) (j : Nat) (h : i + j < S.length) : (win S i by4 j)[i + j]'(by rw [win_len]; exact h) = S[i + j] := by
  rw [win_get S i by4 j _ h, if_neg (by omega)]; simp

/-- Is one of the first j another one than 0? -/
def some4 (by4 : List UInt8) : Nat → Bool
  | 0 => false
  | j + 1 => some4 by4 j || by4.getD j 0 != 0
theorem some4_false (by4 : List UInt8) : ∀ j, some4 by4 j = false → ∀ k, k < j → by4.getD k 0 = 0
  | 0, _, k, hk => by omega
  | j + 1, h, k, hk => by
    unfold some4 at h
    rw [Bool.or_eq_false_iff] at h
    by_cases he : k = j
    · subst he; simpa using h.2
    · exact some4_false by4 j h.1 k (by omega)
theorem some4_true (by4 : List UInt8) : ∀ j, some4 by4 j = true → ∃ k, k < j ∧ by4.getD k 0 ≠ 0
  | 0, h => by simp [some4] at h
  | j + 1, h => by
    unfold some4 at h
    rw [Bool.or_eq_true] at h
    rcases h with h | h
    · obtain ⟨k, hk, hn⟩ := some4_true by4 j h
      exact ⟨k, by omega, hn⟩
    · exact ⟨j, by omega, by simpa using h⟩

/-- A list that is 0 but within four places. -/
theorem mask_split (M : List UInt8) (i : Nat) (hi : i ≤ M.length) (h : ∀ k (hk : k < M.length), (k < i ∨ i + 4 ≤ k) → M[k] = 0) :
    M = List.replicate i 0 ++ (M.drop i).take 4 ++ List.replicate (M.length - i - 4) 0 := by
  have h1 : M.take i = List.replicate i 0 := by
    refine List.eq_replicate_iff.2 ⟨by rw [List.length_take]; omega, fun c hc => ?_⟩
    obtain ⟨k, hk, rfl⟩ := List.mem_iff_getElem.1 hc
    rw [List.length_take] at hk
    rw [List.getElem_take]
    exact h k (by omega) (Or.inl (by omega))
  have h2 : (M.drop i).drop 4 = List.replicate (M.length - i - 4) 0 := by
    refine List.eq_replicate_iff.2 ⟨by rw [List.length_drop, List.length_drop], fun c hc => ?_⟩
    obtain ⟨k, hk, rfl⟩ := List.mem_iff_getElem.1 hc
    rw [List.length_drop, List.length_drop] at hk
    rw [List.getElem_drop, List.getElem_drop]
    exact h _ (by omega) (Or.inr (by omega))
  rw [← h1, ← h2, List.append_assoc, List.take_append_drop, List.take_append_drop]

/-- WHAT BECOMES OF UP TO FOUR BYTES IS TOLD. -/
theorem near_told (kind : UInt8) (b : List UInt8) (hs : sealE kind b = 0) (i : Nat) (by4 : List UInt8) (j : Nat) (hj : j ≤ 4) (hij : i + j ≤ (sealB kind b).length) (h : some4 by4 j = true) : openE (win (sealB kind b) i by4 j) = 11 := by
  have hb : sealB kind b = (kind :: b) ++ tail4 (sum (kind :: b)) := by unfold sealB; rw [if_pos hs]
  have hlen : (sealB kind b).length = b.length + 5 := by rw [hb, List.length_append, tail4_len, List.length_cons]
  generalize hS : sealB kind b = S at *
  have hM := mask_split (mask S.length i by4 j) i (by rw [mask_len]; omega) (fun k hk h => by
    rw [mask_get, if_neg (by omega)])
  rw [mask_len] at hM
  have hT : win S i by4 j = xorL S (mask S.length i by4 j) := by rw [xorL_zip _ _ (by rw [mask_len])]; rfl
  have hTl := win_len S i by4 j
  obtain ⟨k, hk, hn⟩ := some4_true by4 j h
  have hne : ∃ c ∈ ((mask S.length i by4 j).drop i).take 4, c ≠ 0 := by
    have hlt : k < (((mask S.length i by4 j).drop i).take 4).length := by rw [List.length_take, List.length_drop, mask_len]; omega
    refine ⟨(((mask S.length i by4 j).drop i).take 4)[k], List.getElem_mem hlt, ?_⟩
    rw [List.getElem_take, List.getElem_drop, mask_get, if_pos (by omega), show i + k - i = k from by omega]
    exact hn
  have hnear := near (kind :: b) (tail4 (sum (kind :: b))) ((win S i by4 j).take ((win S i by4 j).length - 4)) ((win S i by4 j).drop ((win S i by4 j).length - 4)) (tail4_len _) (by rw [List.length_drop]; omega) rfl
    i (S.length - i - 4) (((mask S.length i by4 j).drop i).take 4) (by rw [List.length_take]; omega)
    (by rw [← hb, List.length_take, List.length_drop, mask_len]; omega)
    (by rw [List.take_append_drop, hT, ← hb]; exact congrArg (xorL S) hM) hne
  unfold openE
  rw [if_neg (by omega), if_pos (fun e => hnear e.symm)]

end Go.Proofs.YtfblgkcipnkhaaaGreatDoor.pk
