/-
  Plain mathematics of a disk: its safe bytes, the writes behind, what is armed, whether the power is gone. Nothing of a program is in it.
-/
import Derived.Lib.ItoaNum
namespace Go.Proofs.YthcikgbnenfjpaaDoor.pk
open Go

/-- A disk. -/
structure Dk where
  B : List UInt8
  L : List (Nat × List UInt8)
  armed : Int
  off : Bool

/-- Bytes with others over them, at a place. -/
def put1 (b : List UInt8) (at_ : Nat) (x : List UInt8) : List UInt8 := b.take at_ ++ x ++ b.drop (at_ + x.length)
def nowL (b : List UInt8) : List (Nat × List UInt8) → List UInt8
  | [] => b
  | w :: l => nowL (put1 b w.1 w.2) l
def Dk.now (d : Dk) : List UInt8 := nowL d.B d.L
/-- Every write lies within. -/
def Dk.Ok (d : Dk) : Prop := ∀ w ∈ d.L, w.1 + w.2.length ≤ d.B.length

def badE (d : Dk) (at_ n : Int) : Nat := if 0 ≤ at_ ∧ 0 ≤ n ∧ at_ ≤ d.B.length ∧ n ≤ d.B.length - at_ then (if d.off = true then 13 else 0) else 1
def readB (d : Dk) (at_ n : Int) : List UInt8 := if badE d at_ n = 0 then (d.now.drop at_.toNat).take n.toNat else []
def stepD (d : Dk) : Dk := if d.armed = 0 then { d with off := true, armed := -1 } else if 0 < d.armed then { d with armed := d.armed - 1 } else d
def stepE (d : Dk) : Nat := if d.armed = 0 then 13 else 0
def putD (d : Dk) (at_ : Int) (x : List UInt8) : Dk := if badE d at_ x.length = 0 then stepD { d with L := d.L ++ [(at_.toNat, x)] } else d
def putE (d : Dk) (at_ : Int) (x : List UInt8) : Nat := if badE d at_ x.length = 0 then stepE d else badE d at_ x.length
def syncD (d : Dk) : Dk := if d.off = true then d else if stepE d = 0 then { stepD d with B := d.now, L := [] } else stepD d
def syncE (d : Dk) : Nat := if d.off = true then 13 else stepE d
def armD (d : Dk) (n : Int) : Dk := if n < 0 then d else { d with armed := n }
def armE (n : Int) : Nat := if n < 0 then 1 else 0
/-- A number's remainder, never below 0. -/
def restK (keep : List Int) (i by_ : Nat) : Nat := if i < keep.length then ((keep.getD i 0) % (by_ : Int)).toNat else 0
def keptL (L : List (Nat × List UInt8)) (keep : List Int) : List (Nat × List UInt8) :=
  L.take (restK keep 0 (L.length + 1)) ++ ((L.drop (restK keep 0 (L.length + 1))).take 1).map fun w => (w.1, w.2.take (restK keep 1 (w.2.length + 1)))
def startD (d : Dk) (keep : List Int) : Dk := { B := nowL d.B (keptL d.L keep), L := [], armed := -1, off := false }
def newD (n : Nat) : Dk := { B := List.replicate n 0, L := [], armed := -1, off := false }

theorem put1_len {b : List UInt8} {at_ : Nat} {x : List UInt8} (h : at_ + x.length ≤ b.length) : (put1 b at_ x).length = b.length := by
  unfold put1
  simp only [List.length_append, List.length_take, List.length_drop]
  omega
theorem nowL_len : ∀ {l : List (Nat × List UInt8)} {b : List UInt8}, (∀ w ∈ l, w.1 + w.2.length ≤ b.length) → (nowL b l).length = b.length
  | [], _, _ => rfl
  | w :: l, b, h => by
    have h0 := h w (List.mem_cons_self ..)
    unfold nowL
    rw [nowL_len (fun v hv => by rw [put1_len h0]; exact h v (List.mem_cons_of_mem _ hv)), put1_len h0]
theorem Dk.Ok.now {d : Dk} (h : d.Ok) : d.now.length = d.B.length := nowL_len h
theorem nowL_append : ∀ (l r : List (Nat × List UInt8)) (b : List UInt8), nowL b (l ++ r) = nowL (nowL b l) r
  | [], _, _ => rfl
  | _ :: l, r, _ => nowL_append l r _

/-- The byte at a place. -/
theorem put1_get {b : List UInt8} {at_ : Nat} {x : List UInt8} (h : at_ + x.length ≤ b.length) (j : Nat) :
    (put1 b at_ x).getD j 0 = if at_ ≤ j ∧ j < at_ + x.length then x.getD (j - at_) 0 else b.getD j 0 := by
  have hta : (b.take at_).length = at_ := by rw [List.length_take]; omega
  unfold put1
  simp only [List.getD]
  by_cases h1 : j < at_
  · rw [if_neg (by omega), List.append_assoc, List.getElem?_append_left (by omega), List.getElem?_take, if_pos h1]
  · by_cases h2 : j < at_ + x.length
    · rw [if_pos ⟨by omega, h2⟩, List.getElem?_append_left (by rw [List.length_append]; omega), List.getElem?_append_right (by omega), hta]
    · rw [if_neg (by omega), List.getElem?_append_right (by rw [List.length_append]; omega), List.getElem?_drop, List.length_append, hta]
      congr 2
      omega

theorem newD_ok (n : Nat) : (newD n).Ok := by intro w hw; cases hw
theorem stepD_L (d : Dk) : (stepD d).L = d.L ∧ (stepD d).B = d.B := by
  unfold stepD
  by_cases h : d.armed = 0
  · rw [if_pos h]; exact ⟨rfl, rfl⟩
  · rw [if_neg h]
    by_cases h1 : 0 < d.armed
    · rw [if_pos h1]; exact ⟨rfl, rfl⟩
    · rw [if_neg h1]; exact ⟨rfl, rfl⟩
theorem stepD_ok {d : Dk} (h : d.Ok) : (stepD d).Ok := by
  intro w hw
  rw [(stepD_L d).2]
  rw [(stepD_L d).1] at hw
  exact h w hw
theorem badE_in {d : Dk} {at_ n : Int} (h : badE d at_ n = 0) : 0 ≤ at_ ∧ 0 ≤ n ∧ at_ ≤ d.B.length ∧ n ≤ d.B.length - at_ ∧ d.off = false := by
  unfold badE at h
  by_cases hc : 0 ≤ at_ ∧ 0 ≤ n ∧ at_ ≤ d.B.length ∧ n ≤ d.B.length - at_
  · rw [if_pos hc] at h
    obtain ⟨a, b, c, e⟩ := hc
    refine ⟨a, b, c, e, ?_⟩
    cases ho : d.off with
    | false => rfl
    | true => rw [if_pos ho] at h; omega
  · rw [if_neg hc] at h; omega
theorem putD_ok {d : Dk} (h : d.Ok) (at_ : Int) (x : List UInt8) : (putD d at_ x).Ok := by
  unfold putD
  by_cases hb : badE d at_ x.length = 0
  · rw [if_pos hb]
    obtain ⟨h1, h2, h3, h4, _⟩ := badE_in hb
    refine stepD_ok (d := { d with L := d.L ++ [(at_.toNat, x)] }) ?_
    intro w hw
    rcases List.mem_append.1 hw with hw | hw
    · exact h w hw
    · obtain rfl := List.mem_singleton.1 hw
      show at_.toNat + x.length ≤ d.B.length
      omega
  · rw [if_neg hb]; exact h
theorem syncD_ok {d : Dk} (h : d.Ok) : (syncD d).Ok := by
  unfold syncD
  by_cases ho : d.off = true
  · rw [if_pos ho]; exact h
  · rw [if_neg ho]
    by_cases he : stepE d = 0
    · rw [if_pos he]; intro w hw; cases hw
    · rw [if_neg he]; exact stepD_ok h
theorem armD_ok {d : Dk} (h : d.Ok) (n : Int) : (armD d n).Ok := by
  unfold armD
  by_cases hn : n < 0
  · rw [if_pos hn]; exact h
  · rw [if_neg hn]; exact h
theorem startD_ok (d : Dk) (keep : List Int) : (startD d keep).Ok := by intro w hw; cases hw

theorem putD_len (d : Dk) (at_ : Int) (x : List UInt8) : (putD d at_ x).B.length = d.B.length := by
  unfold putD
  by_cases hb : badE d at_ x.length = 0
  · rw [if_pos hb, (stepD_L _).2]
  · rw [if_neg hb]
theorem putD_lenL (d : Dk) (at_ : Int) (x : List UInt8) : (putD d at_ x).L.length ≤ d.L.length + 1 := by
  unfold putD
  by_cases hb : badE d at_ x.length = 0
  · rw [if_pos hb, (stepD_L _).1]; simp
  · rw [if_neg hb]; omega
theorem syncD_len {d : Dk} (h : d.Ok) : (syncD d).B.length = d.B.length := by
  unfold syncD
  by_cases ho : d.off = true
  · rw [if_pos ho]
  · rw [if_neg ho]
    by_cases he : stepE d = 0
    · rw [if_pos he]; exact h.now
    · rw [if_neg he, (stepD_L d).2]
theorem syncD_lenL (d : Dk) : (syncD d).L.length ≤ d.L.length := by
  unfold syncD
  by_cases ho : d.off = true
  · rw [if_pos ho]; exact Nat.le_refl _
  · rw [if_neg ho]
    by_cases he : stepE d = 0
    · rw [if_pos he]; exact Nat.zero_le _
    · rw [if_neg he, (stepD_L d).1]; exact Nat.le_refl _
theorem armD_len (d : Dk) (n : Int) : (armD d n).B.length = d.B.length ∧ (armD d n).L.length = d.L.length := by
  unfold armD
  by_cases hn : n < 0
  · rw [if_pos hn]; exact ⟨rfl, rfl⟩
  · rw [if_neg hn]; exact ⟨rfl, rfl⟩

theorem restK_le (keep : List Int) (i by_ : Nat) (h : 0 < by_) : restK keep i by_ < by_ := by
  unfold restK
  by_cases hi : i < keep.length
  · rw [if_pos hi]
    have := Int.emod_lt_of_pos (keep.getD i 0) (show (0 : Int) < by_ by omega)
    have := Int.emod_nonneg (keep.getD i 0) (show (by_ : Int) ≠ 0 by omega)
    omega
  · rw [if_neg hi]; exact h
theorem keptL_ok {d : Dk} (h : d.Ok) (keep : List Int) : ∀ w ∈ keptL d.L keep, w.1 + w.2.length ≤ d.B.length := by
  intro w hw
  unfold keptL at hw
  rcases List.mem_append.1 hw with hw | hw
  · exact h w (List.mem_of_mem_take hw)
  · obtain ⟨v, hv, rfl⟩ := List.mem_map.1 hw
    have := h v (List.mem_of_mem_drop (List.mem_of_mem_take hv))
    show v.1 + (v.2.take _).length ≤ _
    rw [List.length_take]
    omega
theorem startD_len {d : Dk} (h : d.Ok) (keep : List Int) : (startD d keep).B.length = d.B.length := nowL_len (keptL_ok h keep)
theorem keptL_len (L : List (Nat × List UInt8)) (keep : List Int) : (keptL L keep).length ≤ L.length := by
  unfold keptL
  rw [List.length_append, List.length_take, List.length_map, List.length_take, List.length_drop]
  omega

end Go.Proofs.YthcikgbnenfjpaaDoor.pk
