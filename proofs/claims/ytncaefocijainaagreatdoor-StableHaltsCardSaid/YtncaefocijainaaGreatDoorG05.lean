import Derived.Test.YtncaefocijainaaGreatDoorG04
import GoSem.Op.String
namespace Go.Proofs.YtncaefocijainaaGreatDoor.pk
section
open Go
def fv (acc : Nat) : List UInt8 → Nat
 | [] => acc
 | d :: l => fv (10 * acc + (d.toNat - 48)) l
theorem fv_nil (acc : Nat) : fv acc [] = acc := rfl
theorem fv_one (acc : Nat) (d : UInt8) : fv acc [d] = 10 * acc + (d.toNat - 48) := rfl
theorem fv_append (l m : List UInt8) : ∀ acc, fv acc (l ++ m) = fv (fv acc l) m := by
 induction l with
 | nil => intro acc; rfl
 | cons d l ih => intro acc; exact ih _
theorem fv_eq (l : List UInt8) : ∀ (acc : Nat), fv acc l = acc * 10 ^ l.length + fv 0 l := by
 induction l with
 | nil =>
   intro acc
   have h1 : fv acc [] = acc := rfl
   have h2 : fv 0 [] = 0 := rfl
   rw [h1, h2, List.length_nil, Nat.pow_zero, Nat.mul_one, Nat.add_zero]
 | cons d l fv_eq =>
   intro acc
   have h1 : fv acc (d :: l) = fv (10 * acc + (d.toNat - 48)) l := rfl
   have h2 : fv 0 (d :: l) = fv (d.toNat - 48) l := by show fv (10 * 0 + (d.toNat - 48)) l = _; rw [Nat.mul_zero, Nat.zero_add]
   rw [h1, h2, fv_eq (10 * acc + (d.toNat - 48)), fv_eq (d.toNat - 48), List.length_cons, Nat.pow_succ, Nat.add_mul]
   have : 10 * acc * 10 ^ l.length = acc * (10 ^ l.length * 10) := by rw [Nat.mul_comm 10 acc, Nat.mul_assoc, Nat.mul_comm 10]
   omega
theorem fv_cons (d : UInt8) (l : List UInt8) : fv 0 (d :: l) = (d.toNat - 48) * 10 ^ l.length + fv 0 l := by
 have h2 : fv 0 (d :: l) = fv (d.toNat - 48) l := by show fv (10 * 0 + (d.toNat - 48)) l = _; rw [Nat.mul_zero, Nat.zero_add]
 rw [h2, fv_eq l]
theorem fv_lt (l : List UInt8) : (∀ d ∈ l, isDg d = true) → fv 0 l < 10 ^ l.length := by
 induction l with
 | nil =>
   intro _
   have h2 : fv 0 [] = 0 := rfl
   rw [h2, List.length_nil, Nat.pow_zero]
   exact Nat.one_pos
 | cons d l ih0 =>
   intro h
   have h1 := h d (by simp)
   simp only [isDg, decide_eq_true_eq] at h1
   have ih := ih0 (fun x hx => h x (by simp [hx]))
   rw [fv_cons, List.length_cons]
   have h9 : (d.toNat - 48) * 10 ^ l.length ≤ 9 * 10 ^ l.length := Nat.mul_le_mul_right _ (by omega)
   rw [Nat.pow_succ]
   omega
theorem fv_mono (l : List UInt8) (acc : Nat) : acc ≤ fv acc l := by
 rw [fv_eq]
 have : 1 ≤ 10 ^ l.length := Nat.pow_pos (by decide)
 have := Nat.mul_le_mul_left acc this
 omega
theorem parse_fv : ∀ (l : List UInt8) (acc : Nat), (∀ d ∈ l, isDg d = true) → acc < 18446744073709551616 →
   Lib.parseUintM (2 ^ 64 - 1) acc l = if fv acc l < 18446744073709551616 then .ok (fv acc l) else .range
 | [], acc, _, ha => by
   show Lib.NumEnd.ok acc = if acc < 18446744073709551616 then .ok acc else .range
   rw [if_pos ha]
 | d :: l, acc, h, ha => by
   have h1 := h d (by simp)
   simp only [isDg, decide_eq_true_eq] at h1
   have hf : fv acc (d :: l) = fv (10 * acc + (d.toNat - 48)) l := rfl
   rw [hf]
   simp only [Lib.parseUintM]
   rw [if_pos h1]
   have hm := fv_mono l (10 * acc + (d.toNat - 48))
   by_cases h2 : 1844674407370955162 ≤ acc
   · rw [if_pos h2, if_neg (by omega)]
   · rw [if_neg h2]
     by_cases h3 : 2 ^ 64 - 1 < acc * 10 + (d.toNat - 48)
     · rw [if_pos h3, if_neg (by omega)]
     · rw [if_neg h3, show acc * 10 + (d.toNat - 48) = 10 * acc + (d.toNat - 48) from by omega]
       exact parse_fv l _ (fun x hx => h x (by simp [hx])) (by omega)
theorem less_fv : ∀ (a b : List UInt8), a.length = b.length → (∀ d ∈ a, isDg d = true) → (∀ d ∈ b, isDg d = true) → Op.bytesLess a b = decide (fv 0 a < fv 0 b)
 | [], [], _, _, _ => rfl
 | x :: a, y :: b, hl, ha, hb => by
   have hx := ha x (by simp)
   have hy := hb y (by simp)
   simp only [isDg, decide_eq_true_eq] at hx hy
   have hl' : a.length = b.length := by simpa using hl
   have ih := less_fv a b hl' (fun d hd => ha d (by simp [hd])) (fun d hd => hb d (by simp [hd]))
   have la := fv_lt a (fun d hd => ha d (by simp [hd]))
   have lb := fv_lt b (fun d hd => hb d (by simp [hd]))
   rw [fv_cons, fv_cons, hl']
   simp only [Op.bytesLess]
   rw [ih]
   rw [hl'] at la
   generalize 10 ^ b.length = P at la lb ⊢
   by_cases hxy : x < y
   · have hn : x.toNat < y.toNat := UInt8.lt_iff_toNat_lt.1 hxy
     have hmul : ((x.toNat - 48) + 1) * P ≤ (y.toNat - 48) * P := Nat.mul_le_mul_right _ (by omega)
     rw [Nat.add_mul] at hmul
     simp only [hxy, decide_true, Bool.true_or]
     symm
     rw [decide_eq_true_eq]
     omega
   · by_cases he : x = y
     · subst he
       simp only [hxy, decide_false, beq_self_eq_true, Bool.true_and, Bool.false_or]
       congr 1
       rw [eq_iff_iff]
       omega
     · have hn : y.toNat < x.toNat := by
         have h1 : ¬ x.toNat < y.toNat := fun h => hxy (UInt8.lt_iff_toNat_lt.2 h)
         have h2 : x.toNat ≠ y.toNat := fun h => he (UInt8.toNat_inj.1 h)
         omega
       have hmul : ((y.toNat - 48) + 1) * P ≤ (x.toNat - 48) * P := Nat.mul_le_mul_right _ (by omega)
       rw [Nat.add_mul] at hmul
       have hb0 : (x == y) = false := by simpa using he
       simp only [hxy, decide_false, hb0, Bool.false_and, Bool.or_false]
       symm
       rw [decide_eq_false_iff_not]
       omega
theorem less_total : ∀ (a b : List UInt8), (!Op.bytesLess a b && !(a == b)) = Op.bytesLess b a
 | [], [] => rfl
 | [], y :: b => rfl
 | x :: a, [] => rfl
 | x :: a, y :: b => by
   have ih := less_total a b
   simp only [Op.bytesLess, List.cons_beq_cons]
   by_cases h1 : x < y
   · have h2 : ¬ y < x := fun h => by rw [UInt8.lt_iff_toNat_lt] at h h1; omega
     have h3 : ¬ y = x := fun h => by subst h; exact h2 h1
     simp [h1, h2, h3]
   · by_cases h2 : y < x
     · have h3 : ¬ x = y := fun h => by subst h; exact h1 h2
       simp [h1, h2, h3]
     · have h3 : x = y := UInt8.toNat_inj.1 (by rw [UInt8.lt_iff_toNat_lt] at h1 h2; omega)
       subst h3
       simp [h1, ← ih]
def top20 : List UInt8 := [49, 56, 52, 52, 54, 55, 52, 52, 48, 55, 51, 55, 48, 57, 53, 53, 49, 54, 49, 53]
theorem top20_fv : fv 0 top20 = 18446744073709551615 := by decide
theorem top20_dg : ∀ d ∈ top20, isDg d = true := by decide
def badNum (ds : List UInt8) : Prop := ds = [] ∨ (1 < ds.length ∧ ds.head? = some 48) ∨ (ds.length = 20 ∧ Op.bytesLess top20 ds = true)
theorem numOf_fv (ds : List UInt8) (hd : ∀ d ∈ ds, isDg d = true) (hl : ds.length ≤ 20) : (badNum ds → numOf ds = none) ∧ (¬ badNum ds → numOf ds = some (fv 0 ds) ∧ fv 0 ds < 18446744073709551616) := by
 unfold numOf
 by_cases h0 : ds = []
 · subst h0
   refine ⟨fun _ => by simp [Lib.parseUintB], fun h => absurd (Or.inl rfl) h⟩
 · by_cases h1 : 1 < ds.length ∧ ds.head? = some 48
   · exact ⟨fun _ => by rw [if_pos h1], fun h => absurd (Or.inr (Or.inl h1)) h⟩
   · rw [if_neg h1, Lib.parseUintB, if_neg h0, parse_fv ds 0 hd (by omega)]
     have hlt := fv_lt ds hd
     by_cases hv : fv 0 ds < 18446744073709551616
     · rw [if_pos hv]
       refine ⟨fun h => ?_, fun _ => ⟨rfl, hv⟩⟩
       rcases h with h | h | ⟨h, hb⟩
       · exact absurd h h0
       · exact absurd h h1
       · rw [less_fv top20 ds (by rw [h]; rfl) top20_dg hd, top20_fv] at hb
         have := of_decide_eq_true hb
         omega
     · rw [if_neg hv]
       refine ⟨fun _ => rfl, fun h => ?_⟩
       exfalso
       apply h
       right; right
       have hlen : ds.length = 20 := by
         rcases Nat.lt_or_ge ds.length 20 with hh | hh
         · have : (10 : Nat) ^ ds.length ≤ 10 ^ 19 := Nat.pow_le_pow_right (by decide) (by omega)
           omega
         · omega
       refine ⟨hlen, ?_⟩
       rw [less_fv top20 ds (by rw [hlen]; rfl) top20_dg hd, top20_fv]
       exact decide_eq_true (by omega)
end
end Go.Proofs.YtncaefocijainaaGreatDoor.pk
