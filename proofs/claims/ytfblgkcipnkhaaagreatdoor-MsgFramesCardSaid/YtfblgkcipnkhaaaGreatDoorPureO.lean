/-
  Frames: what is sealed is opened as it was; cut, with more behind, or with a byte another one it is none.
-/
import Derived.Test.YtfblgkcipnkhaaaGreatDoorJf
import Derived.Test.YtfblgkcipnkhaaaGreatDoorJi
namespace Go.Proofs.YtfblgkcipnkhaaaGreatDoor.pk
open Go

def sealM (m : Ms) : List UInt8 := sealB 109 (encM m)
def openM (b : List UInt8) : Ms × Nat := if openE b = 0 ∧ openK b = 109 then decM (openX b) else (zm, 3)

theorem encEs_len {d : Nat} : ∀ {l : List En}, (∀ e ∈ l, e.data.length ≤ d) → d ≤ 1000000 → (encEs l).length ≤ l.length * (d + 110)
  | [], _, _ => by simp [encEs]
  | e :: l, h, hd => by
    have h1 := encEs_len (l := l) (fun x hx => h x (List.mem_cons_of_mem _ hx)) hd
    have h2 := h e (List.mem_cons_self ..)
    have h3 := encE_len (e := e) (by omega)
    have h4 := digits_len (encE e).length (by omega)
    rw [encEs_cons, List.length_append, List.length_cons, Nat.add_mul, Nat.one_mul]
    have h5 : (lBytes (encE e)).length ≤ 22 + (encE e).length := by unfold lBytes lHead; simp only [List.length_append, List.length_cons, List.length_nil]; omega
    omega
theorem encM_len {m : Ms} (h1 : m.data.length ≤ 1000000) (h2 : m.ents.length ≤ 1000000) : (encM m).length ≤ 300 + m.data.length + (encEs m.ents).length := by
  have a1 := dec_len _ (u64_lt m.kind)
  have a2 := dec_len _ (u64_lt m.frm)
  have a3 := dec_len _ (u64_lt m.to)
  have a4 := dec_len _ (u64_lt m.term)
  have a5 := dec_len _ (u64_lt m.index)
  have a6 := dec_len _ (u64_lt m.logTerm)
  have a7 := dec_len _ (u64_lt m.commit)
  have a8 := dec_len _ (u64_lt m.round)
  have a9 := dec_len _ (u64_lt m.off)
  have b1 := dec_len m.ents.length (by omega)
  have b2 := digits_len m.data.length (by omega)
  have b3 : (lBool m.ok).length = 1 := rfl
  have b4 : (lBytes m.data).length ≤ 22 + m.data.length := by unfold lBytes lHead; simp only [List.length_append, List.length_cons, List.length_nil]; omega
  unfold encM headM
  simp only [List.length_append]
  omega
theorem sealM_ok {m : Ms} (h : mayM m = true) : sealE 109 (encM m) = 0 := by
  obtain ⟨-, ⟨-, -, -, -, -, -, -, -, -, -, h1, h2⟩, h3⟩ := mayM_iff.1 h
  have h4 := encEs_len (l := m.ents) (d := 4096) (fun e he => (fitM_iff.1 (h3 e he)).2.2.2.2.2.2) (by omega)
  have h5 := encM_len (m := m) (by omega) (by omega)
  have h6 : m.ents.length * (4096 + 110) ≤ 64 * 4206 := Nat.mul_le_mul h2 (by omega)
  unfold sealE
  rw [if_neg (by decide), if_neg (by omega)]
theorem sealM_eq {m : Ms} (h : mayM m = true) : sealM m = (109 :: encM m) ++ tail4 (sum (109 :: encM m)) := by
  unfold sealM sealB
  rw [if_pos (sealM_ok h)]
theorem sealM_len {m : Ms} (h : mayM m = true) : (sealM m).length = (encM m).length + 5 := by
  rw [sealM_eq h, List.length_append, tail4_len, List.length_cons]
theorem openM_seal {m : Ms} (h : mayM m = true) : openM (sealM m) = (m, 0) := by
  obtain ⟨h1, h2, h3⟩ := seal_open 109 (encM m) (sealM_ok h)
  unfold openM sealM
  rw [if_pos ⟨h1, h2⟩, h3]
  exact decM_lay h
theorem openE_five {b : List UInt8} (h : openE b = 0) : 5 ≤ b.length := by
  unfold openE at h
  by_cases h0 : b.length < 5
  · rw [if_pos h0] at h; cases h
  · omega
theorem openM_cut {m : Ms} (h : mayM m = true) {i : Nat} (hi : i < (sealM m).length) : openM ((sealM m).take i) = (zm, 3) := by
  unfold openM
  by_cases hc : openE ((sealM m).take i) = 0 ∧ openK ((sealM m).take i) = 109
  · rw [if_pos hc]
    have h5 := openE_five hc.1
    have hl := sealM_len h
    rw [List.length_take] at h5
    have hx : openX ((sealM m).take i) = (encM m).take (i - 5) := by
      unfold openX
      rw [if_pos hc.1, List.length_take, List.take_take, sealM_eq h, List.cons_append, show min (min i ((109 :: (encM m ++ tail4 (sum (109 :: encM m)))).length) - 4) i = (i - 5) + 1 by rw [← List.cons_append, ← sealM_eq h, hl]; omega, List.take_succ_cons, List.drop_one, List.tail_cons, List.take_append_of_le_length (by omega)]
    rw [hx]
    exact decM_cut h (by omega)
  · rw [if_neg hc]
theorem openX_more {c t S : List UInt8} (ht : t.length = 4) (hS : S = (109 :: c) ++ t) (x : UInt8) (h : openE (S ++ [x]) = 0) : openX (S ++ [x]) = c ++ t.take 1 := by
  have hl : (S ++ [x]).length - 4 = (c.length + 1) + 1 := by rw [hS]; simp only [List.length_append, List.length_cons, List.length_nil]; omega
  unfold openX
  rw [if_pos h, hl, hS, List.append_assoc, List.cons_append, List.take_succ_cons, List.drop_one, List.tail_cons, List.take_append, List.take_of_length_le (by omega), show c.length + 1 - c.length = 1 by omega, List.take_append_of_le_length (by omega)]
theorem openM_more {m : Ms} (h : mayM m = true) (x : UInt8) : openM (sealM m ++ [x]) = (zm, 3) := by
  obtain ⟨t, ht⟩ : ∃ t, t = tail4 (sum (109 :: encM m)) := ⟨_, rfl⟩
  have ht4 : t.length = 4 := by rw [ht]; exact tail4_len _
  have hS := sealM_eq h
  rw [← ht] at hS
  clear ht
  unfold openM
  by_cases hc : openE (sealM m ++ [x]) = 0 ∧ openK (sealM m ++ [x]) = 109
  · rw [if_pos hc, openX_more ht4 hS x hc.1]
    refine decM_more h fun e => ?_
    have := congrArg List.length e
    rw [List.length_take, List.length_nil] at this
    omega
  · rw [if_neg hc]
theorem openM_turn {m : Ms} (h : mayM m = true) {i : Nat} (hi : i < (sealM m).length) {y : UInt8} (hy : y ≠ 0) : openM ((sealM m).set i ((sealM m)[i] ^^^ y)) = (zm, 3) := by
  have h1 := win_step (sealM m) i [y] 0 (by omega)
  have h2 : (sealM m).set i ((sealM m)[i] ^^^ y) = win (sealM m) i [y] 1 := by
    rw [← h1, win_none]
    rfl
  have h3 := near_told 109 (encM m) (sealM_ok h) i [y] 1 (by omega) (by show i + 1 ≤ (sealM m).length; omega) (by simp [some4, hy])
  have h4 : openE ((sealM m).set i ((sealM m)[i] ^^^ y)) = 11 := by rw [h2]; exact h3
  unfold openM
  rw [if_neg (by rw [h4]; rintro ⟨e, _⟩; cases e)]

end Go.Proofs.YtfblgkcipnkhaaaGreatDoor.pk
