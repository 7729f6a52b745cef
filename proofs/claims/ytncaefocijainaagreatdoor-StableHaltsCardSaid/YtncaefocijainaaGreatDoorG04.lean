import Derived.Lib.ItoaNum
import Derived.Lib.ItoaLen
import Derived.Lib.ParseIntB
import Derived.Lib.ParseIntBCases
namespace Go.Proofs.YtncaefocijainaaGreatDoor.pk
section
open Go
def numOf (ds : List UInt8) : Option Nat :=
 if 1 < ds.length ∧ ds.head? = some 48 then none else
   match Lib.parseUintB 64 ds with
   | .ok u => some u
   | _ => none
def isDg (c : UInt8) : Bool := decide (48 ≤ c.toNat ∧ c.toNat ≤ 57)
def scan (e : UInt8) (pre : List UInt8) : List UInt8 → Nat × Nat × List UInt8
 | [] => (12, 0, [])
 | c :: r =>
   if c = e then
     match numOf pre with
     | some n => (0, n, r)
     | none => (3, 0, [])
   else if isDg c = false ∨ pre.length = 20 then (3, 0, [])
   else scan e (pre ++ [c]) r
theorem scan_cons (e : UInt8) (pre : List UInt8) (c : UInt8) (r : List UInt8) : scan e pre (c :: r) =
   if c = e then
     match numOf pre with
     | some n => (0, n, r)
     | none => (3, 0, [])
   else if isDg c = false ∨ pre.length = 20 then (3, 0, [])
   else scan e (pre ++ [c]) r := rfl
def hd (l e : UInt8) : List UInt8 → Nat × Nat × List UInt8
 | [] => (12, 0, [])
 | c :: r => if c = l then scan e [] r else (3, 0, [])
def rdUint (most : Nat) (l : List UInt8) : Nat × Nat × List UInt8 :=
 match hd 110 59 l with
 | (0, n, r) => if most < n then (4, 0, []) else (0, n, r)
 | (k + 1, _, _) => (k + 1, 0, [])
def rdBytes (letter : UInt8) (most : Int) (l : List UInt8) : Nat × List UInt8 × List UInt8 :=
 if most < 0 then (1, [], []) else
 match hd letter 58 l with
 | (0, n, r) => if most < (n : Int) then (2, [], []) else if r.length < n then (12, [], []) else (0, r.take n, r.drop n)
 | (k + 1, _, _) => (k + 1, [], [])
theorem rdUint_ok {most m : Nat} {l rest : List UInt8} (h : rdUint most l = (0, m, rest)) : hd 110 59 l = (0, m, rest) ∧ m ≤ most := by
 unfold rdUint at h
 split at h
 · rename_i n r hh
   by_cases hm : most < n
   · rw [if_pos hm] at h; simp at h
   · rw [if_neg hm] at h
     simp only [Prod.mk.injEq, true_and] at h
     obtain ⟨rfl, rfl⟩ := h
     exact ⟨hh, by omega⟩
 · simp at h
theorem rdUint_err {most k m : Nat} {l rest : List UInt8} (h : rdUint most l = (k, m, rest)) (hk : k ≠ 0) :
   (∃ n r, hd 110 59 l = (k, n, r)) ∨ (k = 4 ∧ ∃ n r, hd 110 59 l = (0, n, r) ∧ most < n) := by
 unfold rdUint at h
 split at h
 · rename_i n r hh
   by_cases hm : most < n
   · rw [if_pos hm] at h
     simp only [Prod.mk.injEq] at h
     exact Or.inr ⟨h.1.symm, n, r, hh, hm⟩
   · rw [if_neg hm] at h
     simp only [Prod.mk.injEq] at h
     exact absurd h.1.symm hk
 · rename_i k' n r hh
   simp only [Prod.mk.injEq] at h
   exact Or.inl ⟨n, r, by rw [hh, ← h.1]⟩
theorem rdBytes_ok {letter : UInt8} {most : Int} {l x rest : List UInt8} (h : rdBytes letter most l = (0, x, rest)) :
   0 ≤ most ∧ ∃ n r, hd letter 58 l = (0, n, r) ∧ (n : Int) ≤ most ∧ n ≤ r.length ∧ x = r.take n ∧ rest = r.drop n := by
 unfold rdBytes at h
 by_cases h0 : most < 0
 · rw [if_pos h0] at h; simp at h
 · rw [if_neg h0] at h
   refine ⟨by omega, ?_⟩
   split at h
   · rename_i n r hh
     by_cases h1 : most < (n : Int)
     · rw [if_pos h1] at h; simp at h
     · rw [if_neg h1] at h
       by_cases h2 : r.length < n
       · rw [if_pos h2] at h; simp at h
       · rw [if_neg h2] at h
         simp only [Prod.mk.injEq, true_and] at h
         exact ⟨n, r, hh, by omega, by omega, h.1.symm, h.2.symm⟩
   · simp at h
theorem rdBytes_err {letter : UInt8} {most : Int} {k : Nat} {l x rest : List UInt8} (h : rdBytes letter most l = (k, x, rest)) (hk : k ≠ 0) :
   (k = 1 ∧ most < 0) ∨ (0 ≤ most ∧ ((∃ n r, hd letter 58 l = (k, n, r)) ∨ ∃ n r, hd letter 58 l = (0, n, r) ∧ ((k = 2 ∧ most < (n : Int)) ∨ (k = 12 ∧ (n : Int) ≤ most ∧ r.length < n)))) := by
 unfold rdBytes at h
 by_cases h0 : most < 0
 · rw [if_pos h0] at h
   simp only [Prod.mk.injEq] at h
   exact Or.inl ⟨h.1.symm, h0⟩
 · rw [if_neg h0] at h
   refine Or.inr ⟨by omega, ?_⟩
   split at h
   · rename_i n r hh
     by_cases h1 : most < (n : Int)
     · rw [if_pos h1] at h
       simp only [Prod.mk.injEq] at h
       exact Or.inr ⟨n, r, hh, Or.inl ⟨h.1.symm, h1⟩⟩
     · rw [if_neg h1] at h
       by_cases h2 : r.length < n
       · rw [if_pos h2] at h
         simp only [Prod.mk.injEq] at h
         exact Or.inr ⟨n, r, hh, Or.inr ⟨h.1.symm, by omega, h2⟩⟩
       · rw [if_neg h2] at h
         simp only [Prod.mk.injEq] at h
         exact absurd h.1.symm hk
   · rename_i k' n r hh
     simp only [Prod.mk.injEq] at h
     exact Or.inl ⟨n, r, by rw [hh, ← h.1]⟩
theorem hd_cons (l e c : UInt8) (r : List UInt8) : hd l e (c :: r) = if c = l then scan e [] r else (3, 0, []) := rfl
theorem scan_err {e : UInt8} : ∀ (l pre : List UInt8) {k n : Nat} {r : List UInt8}, scan e pre l = (k, n, r) → k ≠ 0 → (k = 3 ∨ k = 12) ∧ n = 0 ∧ r = []
 | [], pre, k, n, r, h, hk => by
   simp only [scan, Prod.mk.injEq] at h
   obtain ⟨rfl, rfl, rfl⟩ := h
   exact ⟨Or.inr rfl, rfl, rfl⟩
 | c :: t, pre, k, n, r, h, hk => by
   unfold scan at h
   by_cases h1 : c = e
   · rw [if_pos h1] at h
     cases hn : numOf pre with
     | some m =>
       rw [hn] at h
       simp only [Prod.mk.injEq] at h
       exact absurd h.1.symm hk
     | none =>
       rw [hn] at h
       simp only [Prod.mk.injEq] at h
       obtain ⟨rfl, rfl, rfl⟩ := h
       exact ⟨Or.inl rfl, rfl, rfl⟩
   · rw [if_neg h1] at h
     by_cases h2 : isDg c = false ∨ pre.length = 20
     · rw [if_pos h2] at h
       simp only [Prod.mk.injEq] at h
       obtain ⟨rfl, rfl, rfl⟩ := h
       exact ⟨Or.inl rfl, rfl, rfl⟩
     · rw [if_neg h2] at h
       exact scan_err t _ h hk
theorem numOf_some {ds : List UInt8} {u : Nat} (h : numOf ds = some u) : ¬ (1 < ds.length ∧ ds.head? = some 48) ∧ Lib.parseUintB 64 ds = .ok u := by
 unfold numOf at h
 by_cases h1 : 1 < ds.length ∧ ds.head? = some 48
 · rw [if_pos h1] at h; cases h
 · rw [if_neg h1] at h
   refine ⟨h1, ?_⟩
   cases hp : Lib.parseUintB 64 ds with
   | ok v =>
     rw [hp] at h
     injection h with h
     rw [h]
   | _ => rw [hp] at h; cases h
theorem numOf_none {ds : List UInt8} (h : numOf ds = none) (h1 : ¬ (1 < ds.length ∧ ds.head? = some 48)) : Lib.parseUintB 64 ds = Lib.parseUintB 64 [] ∨ Lib.parseUintB 64 ds = .range := by
 unfold numOf at h
 rw [if_neg h1] at h
 cases hp : Lib.parseUintB 64 ds with
 | ok v => rw [hp] at h; cases h
 | range => exact Or.inr rfl
 | _ => exact Or.inl rfl
theorem numOf_lt {ds : List UInt8} {u : Nat} (h : numOf ds = some u) : u < 18446744073709551616 := by
 unfold numOf at h
 by_cases h1 : 1 < ds.length ∧ ds.head? = some 48
 · rw [if_pos h1] at h; cases h
 · rw [if_neg h1] at h
   by_cases h2 : ds = []
   · subst h2
     simp [Lib.parseUintB] at h
   · unfold Lib.parseUintB at h
     rw [if_neg h2] at h
     cases hp : Lib.parseUintM (2 ^ 64 - 1) 0 ds with
     | ok v =>
       rw [hp] at h
       injection h with h
       subst h
       have := Lib.parseUintM_le (2 ^ 64 - 1) ds 0 v (Nat.zero_le _) hp
       omega
     | _ => rw [hp] at h; cases h
theorem scan_lt {e : UInt8} : ∀ (l pre : List UInt8) {k n : Nat} {r : List UInt8}, scan e pre l = (k, n, r) → n < 18446744073709551616
 | [], pre, k, n, r, h => by
   simp only [scan, Prod.mk.injEq] at h
   omega
 | c :: t, pre, k, n, r, h => by
   unfold scan at h
   by_cases h1 : c = e
   · rw [if_pos h1] at h
     cases hn : numOf pre with
     | some m =>
       rw [hn] at h
       simp only [Prod.mk.injEq] at h
       obtain ⟨_, rfl, _⟩ := h
       exact numOf_lt hn
     | none =>
       rw [hn] at h
       simp only [Prod.mk.injEq] at h
       omega
   · rw [if_neg h1] at h
     by_cases h2 : isDg c = false ∨ pre.length = 20
     · rw [if_pos h2] at h
       simp only [Prod.mk.injEq] at h
       omega
     · rw [if_neg h2] at h
       exact scan_lt t _ h
theorem hd_lt {l e : UInt8} {bs : List UInt8} {k n : Nat} {r : List UInt8} (h : hd l e bs = (k, n, r)) : n < 18446744073709551616 := by
 rcases bs with _ | ⟨c, t⟩
 · simp only [hd, Prod.mk.injEq] at h; omega
 · rw [hd_cons] at h
   by_cases h1 : c = l
   · rw [if_pos h1] at h; exact scan_lt _ _ h
   · rw [if_neg h1] at h; simp only [Prod.mk.injEq] at h; omega
theorem scan_len {e : UInt8} : ∀ (l pre : List UInt8) {k n : Nat} {r : List UInt8}, scan e pre l = (k, n, r) → r.length ≤ l.length
 | [], pre, k, n, r, h => by
   simp only [scan, Prod.mk.injEq] at h
   obtain ⟨_, _, rfl⟩ := h
   simp
 | c :: t, pre, k, n, r, h => by
   rw [scan_cons] at h
   by_cases h1 : c = e
   · rw [if_pos h1] at h
     cases hn : numOf pre with
     | some m =>
       rw [hn] at h
       simp only [Prod.mk.injEq] at h
       obtain ⟨_, _, rfl⟩ := h
       simp
     | none =>
       rw [hn] at h
       simp only [Prod.mk.injEq] at h
       obtain ⟨_, _, rfl⟩ := h
       simp
   · rw [if_neg h1] at h
     by_cases h2 : isDg c = false ∨ pre.length = 20
     · rw [if_pos h2] at h
       simp only [Prod.mk.injEq] at h
       obtain ⟨_, _, rfl⟩ := h
       simp
     · rw [if_neg h2] at h
       have := scan_len t _ h
       simp only [List.length_cons]
       omega
theorem hd_len {l e : UInt8} {bs : List UInt8} {k n : Nat} {r : List UInt8} (h : hd l e bs = (k, n, r)) : r.length ≤ bs.length := by
 rcases bs with _ | ⟨c, t⟩
 · simp only [hd, Prod.mk.injEq] at h
   obtain ⟨_, _, rfl⟩ := h
   simp
 · rw [hd_cons] at h
   by_cases h1 : c = l
   · rw [if_pos h1] at h
     have := scan_len _ _ h
     simp only [List.length_cons]
     omega
   · rw [if_neg h1] at h
     simp only [Prod.mk.injEq] at h
     obtain ⟨_, _, rfl⟩ := h
     simp
theorem rdBytes_len {letter : UInt8} {most : Int} {l x rest : List UInt8} (h : rdBytes letter most l = (0, x, rest)) : x.length ≤ l.length := by
 obtain ⟨_, n, r, hh, _, _, rfl, _⟩ := rdBytes_ok h
 have := hd_len hh
 rw [List.length_take]
 omega
def rUint (most : Nat) (s : List UInt8 × Nat) : (List UInt8 × Nat) × Nat :=
 if s.2 = 0 then (if (rdUint most s.1).1 = 0 then (((rdUint most s.1).2.2, 0), (rdUint most s.1).2.1) else ((s.1, (rdUint most s.1).1), 0)) else (s, 0)
def rBytes (letter : UInt8) (most : Int) (s : List UInt8 × Nat) : (List UInt8 × Nat) × List UInt8 :=
 if s.2 = 0 then (if (rdBytes letter most s.1).1 = 0 then (((rdBytes letter most s.1).2.2, 0), (rdBytes letter most s.1).2.1) else ((s.1, (rdBytes letter most s.1).1), [])) else (s, [])
def lUint (u : Nat) : List UInt8 := 110 :: (Lib.decDigits u ++ [59])
def lHead (letter : UInt8) (n : Nat) : List UInt8 := letter :: (Lib.decDigits n ++ [58])
def lBytes (l : List UInt8) : List UInt8 := lHead 98 l.length ++ l
def five (k : Int) : Nat := ((k % 18446744073709551616) % 5).toNat
end
section
open Go
theorem parseM_snoc (M : Nat) (c : UInt8) : ∀ (l : List UInt8) (acc : Nat), Lib.parseUintM M acc (l ++ [c]) =
   match Lib.parseUintM M acc l with
   | .ok v => Lib.parseUintM M v [c]
   | e => e
 | [], acc => by simp [Lib.parseUintM]
 | d :: l, acc => by
   simp only [List.cons_append, Lib.parseUintM]
   by_cases h1 : 48 ≤ d.toNat ∧ d.toNat ≤ 57
   · rw [if_pos h1, if_pos h1]
     by_cases h2 : 1844674407370955162 ≤ acc
     · rw [if_pos h2, if_pos h2]
     · rw [if_neg h2, if_neg h2]
       by_cases h3 : M < acc * 10 + (d.toNat - 48)
       · rw [if_pos h3, if_pos h3]
       · rw [if_neg h3, if_neg h3]
         have := parseM_snoc M c l (acc * 10 + (d.toNat - 48))
         simpa [Lib.parseUintM] using this
   · rw [if_neg h1, if_neg h1]
theorem digit_toNat (x : Nat) (hx : x < 10) : (UInt8.ofNat (48 + x)).toNat = 48 + x := by
 simp [UInt8.toNat_ofNat']; omega
theorem parseM_digits (u : Nat) (hu : u < 18446744073709551616) : Lib.parseUintM (2 ^ 64 - 1) 0 (Lib.decDigits u) = .ok u := by
 induction u using Nat.strongRecOn with
 | ind u ih =>
   by_cases h : u < 10
   · rw [Lib.decDigits_one h]
     have := digit_toNat u h
     simp only [Lib.parseUintM]
     rw [if_pos (by omega), if_neg (by omega), if_neg (by omega)]
     congr 1
     omega
   · rw [Lib.decDigits, dif_neg h, parseM_snoc, ih (u / 10) (by omega) (by omega)]
     have := digit_toNat (u % 10) (by omega)
     simp only [Lib.parseUintM]
     rw [if_pos (by omega), if_neg (by omega), if_neg (by omega)]
     congr 1
     omega
theorem digits_ne (u : Nat) : Lib.decDigits u ≠ [] := by
 intro e
 have := Lib.nDigits_pos u
 rw [← Lib.decDigits_length, e] at this
 simp at this
theorem digits_all (u : Nat) : ∀ d ∈ Lib.decDigits u, isDg d = true := by
 induction u using Nat.strongRecOn with
 | ind u ih =>
   intro d hd
   by_cases h : u < 10
   · rw [Lib.decDigits_one h, List.mem_singleton] at hd
     subst hd
     have := digit_toNat u h
     simp only [isDg, decide_eq_true_eq]
     omega
   · rw [Lib.decDigits, dif_neg h, List.mem_append, List.mem_singleton] at hd
     rcases hd with hd | rfl
     · exact ih (u / 10) (by omega) d hd
     · have := digit_toNat (u % 10) (by omega)
       simp only [isDg, decide_eq_true_eq]
       omega
theorem digits_head (u : Nat) (hu : 1 ≤ u) : (Lib.decDigits u).head? ≠ some 48 := by
 induction u using Nat.strongRecOn with
 | ind u ih =>
   by_cases h : u < 10
   · rw [Lib.decDigits_one h]
     intro e
     simp only [List.head?_cons, Option.some.injEq] at e
     have h1 := digit_toNat u h
     rw [e] at h1
     have : (48 : UInt8).toNat = 48 := rfl
     omega
   · rw [Lib.decDigits, dif_neg h, List.head?_append]
     have := ih (u / 10) (by omega) (by omega)
     cases hh : (Lib.decDigits (u / 10)).head? with
     | none =>
       have := digits_ne (u / 10)
       rw [List.head?_eq_none_iff] at hh
       exact absurd hh this
     | some x =>
       rw [hh] at this
       simpa using this
theorem numOf_digits (u : Nat) (hu : u < 18446744073709551616) : numOf (Lib.decDigits u) = some u := by
 unfold numOf
 rw [if_neg, Lib.parseUintB, if_neg (digits_ne u), parseM_digits u hu]
 rintro ⟨h1, h2⟩
 rw [Lib.decDigits_length] at h1
 by_cases h0 : u = 0
 · subst h0
   rw [Lib.nDigits_small (by omega)] at h1
   omega
 · exact digits_head u (by omega) h2
theorem scan_digits (e : UInt8) (he : isDg e = false) (r : List UInt8) : ∀ (ds pre : List UInt8), (∀ d ∈ ds, isDg d = true) → pre.length + ds.length ≤ 20 →
   scan e pre (ds ++ e :: r) = match numOf (pre ++ ds) with
     | some n => (0, n, r)
     | none => (3, 0, [])
 | [], pre, _, _ => by
   rw [List.nil_append, scan_cons, if_pos rfl, List.append_nil]
   first | done | (cases numOf pre <;> rfl)
 | d :: ds, pre, hd, hl => by
   have h1 := hd d (by simp)
   rw [List.cons_append, scan_cons, if_neg (by rintro rfl; rw [h1] at he; cases he), if_neg]
   · rw [scan_digits e he r ds (pre ++ [d]) (fun x hx => hd x (by simp [hx])) (by simp at hl ⊢; omega)]
     simp
   · rintro (h | h)
     · rw [h1] at h; cases h
     · simp at hl; omega
theorem digits_len (u : Nat) (hu : u < 18446744073709551616) : (Lib.decDigits u).length ≤ 20 := by
 rw [Lib.decDigits_length]; exact Lib.nDigits_le20 u hu
theorem scan_dec (e : UInt8) (he : isDg e = false) (u : Nat) (hu : u < 18446744073709551616) (r : List UInt8) : scan e [] (Lib.decDigits u ++ e :: r) = (0, u, r) := by
 rw [scan_digits e he r _ _ (digits_all u) (by simpa using digits_len u hu), List.nil_append, numOf_digits u hu]
theorem rdUint_lay (most u : Nat) (hu : u < 18446744073709551616) (hm : u ≤ most) (r : List UInt8) : rdUint most (lUint u ++ r) = (0, u, r) := by
 unfold rdUint lUint
 rw [List.cons_append, hd_cons, if_pos rfl, List.append_assoc, List.singleton_append, scan_dec 59 (by decide) u hu r]
 simp only
 rw [if_neg (by omega)]
theorem hd_lHead (letter : UInt8) (n : Nat) (hn : n < 18446744073709551616) (r : List UInt8) : hd letter 58 (lHead letter n ++ r) = (0, n, r) := by
 unfold lHead
 rw [List.cons_append, hd_cons, if_pos rfl, List.append_assoc, List.singleton_append, scan_dec 58 (by decide) n hn r]
theorem rdBytes_lay (letter : UInt8) (l r : List UInt8) (hl : l.length < 18446744073709551616) (most : Int) (hm : (l.length : Int) ≤ most) : rdBytes letter most (lHead letter l.length ++ l ++ r) = (0, l, r) := by
 unfold rdBytes
 rw [if_neg (by omega), List.append_assoc, hd_lHead letter _ hl]
 simp only
 rw [if_neg (by omega), if_neg (by simp), List.take_left, List.drop_left]
theorem rdBytes_lay' (l r : List UInt8) (hl : l.length < 18446744073709551616) (most : Int) (hm : (l.length : Int) ≤ most) : rdBytes 98 most (lBytes l ++ r) = (0, l, r) := rdBytes_lay 98 l r hl most hm
end
end Go.Proofs.YtncaefocijainaaGreatDoor.pk
