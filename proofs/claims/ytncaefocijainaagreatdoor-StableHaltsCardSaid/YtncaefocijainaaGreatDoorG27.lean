import Derived.Test.YtncaefocijainaaGreatDoorG06
import Derived.Test.YtncaefocijainaaGreatDoorG04
import Derived.Test.YtncaefocijainaaGreatDoorG05
namespace Go.Proofs.YtncaefocijainaaGreatDoor.pk
section
open Go
structure Ms where
 kind : Int
 frm : Int
 to : Int
 term : Int
 index : Int
 logTerm : Int
 commit : Int
 round : Int
 ok : Bool
 off : Int
 data : List UInt8
 ents : List En
def u64 (x : Int) : Nat := (x % 18446744073709551616).toNat
theorem u64_lt (x : Int) : u64 x < 18446744073709551616 := by unfold u64; omega
theorem u64_nat (n : Nat) (h : n < 18446744073709551616) : u64 (n : Int) = n := by unfold u64; omega
theorem u64_pos {x : Int} (h : 0 ≤ x) (h1 : x ≤ 9223372036854775807) : (u64 x : Int) = x := by unfold u64; omega
def fitM (e : En) : Bool := decide (1 ≤ e.index ∧ e.index ≤ 1099511627776 ∧ 1 ≤ e.term ∧ e.term ≤ 1099511627776 ∧ 0 ≤ e.kind ∧ e.kind ≤ 2 ∧ e.data.length ≤ 4096)
theorem fitM_iff {e : En} : fitM e = true ↔ 1 ≤ e.index ∧ e.index ≤ 1099511627776 ∧ 1 ≤ e.term ∧ e.term ≤ 1099511627776 ∧ 0 ≤ e.kind ∧ e.kind ≤ 2 ∧ e.data.length ≤ 4096 := by unfold fitM; exact decide_eq_true_iff
def encE (e : En) : List UInt8 := lUint (u64 e.index) ++ lUint (u64 e.term) ++ lUint (u64 e.kind) ++ lBytes e.data
def encEs (l : List En) : List UInt8 := l.flatMap fun e => lBytes (encE e)
def rCount (most : Nat) (s : List UInt8 × Nat) : (List UInt8 × Nat) × Nat :=
 if s.2 = 0 then
   if (rdUint most s.1).1 ≠ 0 then ((s.1, (rdUint most s.1).1), 0)
   else if (rdUint most s.1).2.2.length < (rdUint most s.1).2.1 then ((s.1, 2), 0) else (((rdUint most s.1).2.2, 0), (rdUint most s.1).2.1)
 else (s, 0)
def takeE (s : List UInt8 × Nat) : (List UInt8 × Nat) × En :=
 let a := rUint 1099511627776 s
 let b := rUint 1099511627776 a.1
 let c := rUint 2 b.1
 let d := rBytes 98 4096 c.1
 (d.1, ⟨(a.2 : Int), (b.2 : Int), (c.2 : Int), d.2⟩)
def doneR (s : List UInt8 × Nat) : Nat := if s.2 = 0 ∧ 0 < s.1.length then 3 else s.2
def decE (b : List UInt8) : En × Nat :=
 let r := takeE (b, 0)
 if doneR r.1 ≠ 0 ∨ r.2.index < 1 ∨ r.2.term < 1 then (⟨0, 0, 0, []⟩, 3) else (r.2, 0)
def takeEs : Nat → (List UInt8 × Nat) → ((List UInt8 × Nat) × Bool) × List En
 | 0, s => ((s, true), [])
 | k + 1, s =>
   if s.2 ≠ 0 then ((s, true), []) else
     let x := rBytes 98 4200 s
     let e := decE x.2
     let r := takeEs k x.1
     ((r.1.1, decide (e.2 = 0) && r.1.2), e.1 :: r.2)
end
section
open Go
theorem digit_back {d : UInt8} (h : isDg d = true) : UInt8.ofNat (48 + (d.toNat - 48)) = d := by
 unfold isDg at h
 have h := of_decide_eq_true h
 rw [show 48 + (d.toNat - 48) = d.toNat by omega]
 exact UInt8.ofNat_toNat
theorem dec_more (q r : Nat) (hq : 1 ≤ q) (hr : r < 10) : Lib.decDigits (10 * q + r) = Lib.decDigits q ++ [UInt8.ofNat (48 + r)] := by
 rw [Lib.decDigits, dif_neg (by omega), show (10 * q + r) / 10 = q by omega, show (10 * q + r) % 10 = r by omega]
theorem digits_fv : ∀ (n : Nat) (ds : List UInt8), ds.length = n → ds ≠ [] → (∀ d ∈ ds, isDg d = true) → ¬ (1 < ds.length ∧ ds.head? = some 48) → Lib.decDigits (fv 0 ds) = ds
 | 0, ds, hn, h0, _, _ => absurd (List.eq_nil_of_length_eq_zero hn) h0
 | n + 1, ds, hn, h0, hd, hb => by
   rcases List.eq_nil_or_concat ds with h | ⟨l, d, h⟩
   · exact absurd h h0
   rw [List.concat_eq_append] at h
   subst h
   have hdd := hd d (by simp)
   have hd2 := hdd
   unfold isDg at hd2
   have hd3 := of_decide_eq_true hd2
   by_cases hl : l = []
   · subst hl
     rw [List.nil_append, fv_one, show 10 * 0 + (d.toNat - 48) = d.toNat - 48 by omega, Lib.decDigits_one (by omega), digit_back hdd]
   · have hll : l.length = n := by simp at hn; exact hn
     have hlp : 0 < l.length := List.length_pos_iff.2 hl
     have hhead : (l ++ [d]).head? = l.head? := by cases l with
       | nil => exact absurd rfl hl
       | cons a r => rfl
     have ih := digits_fv n l hll hl (fun x hx => hd x (by simp [hx])) (fun h => hb ⟨by simp; omega, by rw [hhead]; exact h.2⟩)
     have hpos : 1 ≤ fv 0 l := by
       rcases Nat.eq_zero_or_pos (fv 0 l) with h | h
       · rw [h, Lib.decDigits_one (by omega)] at ih
         exact absurd ⟨by simp; omega, by rw [hhead, ← ih]; rfl⟩ hb
       · exact h
     rw [fv_append, fv_one, dec_more _ _ hpos (by omega), ih, digit_back hdd]
theorem numOf_dec {ds : List UInt8} {n : Nat} (hd : ∀ d ∈ ds, isDg d = true) (hl : ds.length ≤ 20) (h : numOf ds = some n) : ds = Lib.decDigits n := by
 obtain ⟨h1, h2⟩ := numOf_fv ds hd hl
 by_cases hb : badNum ds
 · rw [h1 hb] at h; cases h
 · have h3 := (h2 hb).1
   rw [h] at h3
   injection h3 with h3
   subst h3
   unfold badNum at hb
   exact (digits_fv _ ds rfl (fun e => hb (Or.inl e)) hd (fun e => hb (Or.inr (Or.inl e)))).symm
theorem scan_inv {e : UInt8} : ∀ (l pre : List UInt8) {n : Nat} {r : List UInt8}, pre.length ≤ 20 → scan e pre l = (0, n, r) → ∃ ds, l = ds ++ e :: r ∧ numOf (pre ++ ds) = some n ∧ (∀ d ∈ ds, isDg d = true) ∧ pre.length + ds.length ≤ 20
 | [], pre, n, r, _, h => by simp [scan] at h
 | c :: t, pre, n, r, hp, h => by
   rw [scan_cons] at h
   by_cases h1 : c = e
   · rw [if_pos h1] at h
     cases hn : numOf pre with
     | none => rw [hn] at h; simp at h
     | some m =>
       rw [hn] at h
       simp only [Prod.mk.injEq, true_and] at h
       obtain ⟨rfl, rfl⟩ := h
       exact ⟨[], by rw [h1]; rfl, by rw [List.append_nil]; exact hn, (fun d hd => by cases hd), by simpa using hp⟩
   · rw [if_neg h1] at h
     by_cases h2 : isDg c = false ∨ pre.length = 20
     · rw [if_pos h2] at h; simp at h
     · rw [if_neg h2] at h
       have hc : isDg c = true := by
         cases hx : isDg c with
         | true => rfl
         | false => exact absurd (Or.inl hx) h2
       have hp2 : pre.length ≠ 20 := fun e => h2 (Or.inr e)
       obtain ⟨ds, e1, e2, e3, e4⟩ := scan_inv t (pre ++ [c]) (by simp; omega) h
       refine ⟨c :: ds, by rw [e1]; rfl, by rw [List.append_cons]; exact e2, fun d hd => ?_, by simp at e4 ⊢; omega⟩
       rcases List.mem_cons.1 hd with rfl | hd
       · exact hc
       · exact e3 d hd
theorem hd_inv {l e : UInt8} {bs : List UInt8} {n : Nat} {r : List UInt8} (h : hd l e bs = (0, n, r)) : bs = l :: (Lib.decDigits n ++ e :: r) ∧ n < 18446744073709551616 := by
 refine ⟨?_, hd_lt h⟩
 cases bs with
 | nil => simp [hd] at h
 | cons c t =>
   rw [hd_cons] at h
   by_cases h1 : c = l
   · rw [if_pos h1] at h
     obtain ⟨ds, e1, e2, e3, e4⟩ := scan_inv t [] (by simp) h
     rw [List.nil_append] at e2
     rw [e1, h1, ← numOf_dec e3 (by simpa using e4) e2]
   · rw [if_neg h1] at h; simp at h
theorem rdUint_inv {most n : Nat} {l r : List UInt8} (h : rdUint most l = (0, n, r)) : l = lUint n ++ r ∧ n ≤ most ∧ n < 18446744073709551616 := by
 obtain ⟨h1, h2⟩ := rdUint_ok h
 obtain ⟨h3, h4⟩ := hd_inv h1
 refine ⟨?_, h2, h4⟩
 rw [h3]
 unfold lUint
 simp
theorem rdBytes_inv {letter : UInt8} {most : Int} {l x r : List UInt8} (h : rdBytes letter most l = (0, x, r)) : l = lHead letter x.length ++ x ++ r ∧ (x.length : Int) ≤ most ∧ x.length < 18446744073709551616 := by
 obtain ⟨_, n, t, h1, h2, h3, rfl, rfl⟩ := rdBytes_ok h
 obtain ⟨h4, h5⟩ := hd_inv h1
 have hl : (t.take n).length = n := by rw [List.length_take]; omega
 rw [hl]
 refine ⟨?_, h2, h5⟩
 rw [h4]
 unfold lHead
 simp
/-! A reader's state: without an error behind, there was none ahead, and what was taken stood there. -/
theorem rUint_inv {most : Nat} {s : List UInt8 × Nat} (h : (rUint most s).1.2 = 0) : s.2 = 0 ∧ s.1 = lUint (rUint most s).2 ++ (rUint most s).1.1 ∧ (rUint most s).2 ≤ most ∧ (rUint most s).2 < 18446744073709551616 := by
 unfold rUint at h ⊢
 by_cases h0 : s.2 = 0
 · rw [if_pos h0] at h ⊢
   by_cases h1 : (rdUint most s.1).1 = 0
   · rw [if_pos h1]
     exact ⟨h0, rdUint_inv (Prod.ext h1 rfl)⟩
   · rw [if_neg h1] at h; exact absurd h h1
 · rw [if_neg h0] at h; exact absurd h h0
theorem rBytes_inv {letter : UInt8} {most : Int} {s : List UInt8 × Nat} (h : (rBytes letter most s).1.2 = 0) : s.2 = 0 ∧ s.1 = lHead letter (rBytes letter most s).2.length ++ (rBytes letter most s).2 ++ (rBytes letter most s).1.1 ∧ ((rBytes letter most s).2.length : Int) ≤ most ∧ (rBytes letter most s).2.length < 18446744073709551616 := by
 unfold rBytes at h ⊢
 by_cases h0 : s.2 = 0
 · rw [if_pos h0] at h ⊢
   by_cases h1 : (rdBytes letter most s.1).1 = 0
   · rw [if_pos h1]
     exact ⟨h0, rdBytes_inv (Prod.ext h1 rfl)⟩
   · rw [if_neg h1] at h; exact absurd h h1
 · rw [if_neg h0] at h; exact absurd h h0
theorem doneR_iff {s : List UInt8 × Nat} : doneR s = 0 ↔ s.2 = 0 ∧ s.1 = [] := by
 unfold doneR
 by_cases h : s.2 = 0 ∧ 0 < s.1.length
 · rw [if_pos h]
   constructor
   · intro e; cases e
   · rintro ⟨_, e⟩; rw [e] at h; simp at h
 · rw [if_neg h]
   constructor
   · intro e
     refine ⟨e, ?_⟩
     cases hs : s.1 with
     | nil => rfl
     | cons a r => exact absurd ⟨e, by rw [hs]; simp⟩ h
   · exact fun e => e.1
theorem takeE_inv {s : List UInt8 × Nat} (h : (takeE s).1.2 = 0) : s.2 = 0 ∧ s.1 = encE (takeE s).2 ++ (takeE s).1.1 ∧ 0 ≤ (takeE s).2.index ∧ (takeE s).2.index ≤ 1099511627776 ∧ 0 ≤ (takeE s).2.term ∧ (takeE s).2.term ≤ 1099511627776 ∧ 0 ≤ (takeE s).2.kind ∧ (takeE s).2.kind ≤ 2 ∧ (takeE s).2.data.length ≤ 4096 := by
 unfold takeE at h ⊢
 simp only at h ⊢
 obtain ⟨d0, d1, d2, _⟩ := rBytes_inv h
 obtain ⟨c0, c1, c2, c3⟩ := rUint_inv d0
 obtain ⟨b0, b1, b2, b3⟩ := rUint_inv c0
 obtain ⟨a0, a1, a2, a3⟩ := rUint_inv b0
 refine ⟨a0, ?_, by omega, by omega, by omega, by omega, by omega, by omega, by omega⟩
 unfold encE lBytes
 rw [u64_nat _ a3, u64_nat _ b3, u64_nat _ c3]
 simp only [List.append_assoc]
 rw [← List.append_assoc (lHead 98 _), ← d1, ← c1, ← b1]
 exact a1
theorem decE_inv {b : List UInt8} (h : (decE b).2 = 0) : b = encE (decE b).1 ∧ fitM (decE b).1 = true := by
 unfold decE at h ⊢
 simp only at h ⊢
 by_cases hc : doneR (takeE (b, 0)).1 ≠ 0 ∨ (takeE (b, 0)).2.index < 1 ∨ (takeE (b, 0)).2.term < 1
 · rw [if_pos hc] at h; cases h
 · rw [if_neg hc]
   have hd : doneR (takeE (b, 0)).1 = 0 := by
     rcases Nat.eq_zero_or_pos (doneR (takeE (b, 0)).1) with e | e
     · exact e
     · exact absurd (Or.inl (by omega)) hc
   obtain ⟨hd1, hd2⟩ := doneR_iff.1 hd
   obtain ⟨_, e1, e2, e3, e4, e5, e6, e7, e8⟩ := takeE_inv hd1
   rw [hd2, List.append_nil] at e1
   have h1 : ¬ (takeE (b, 0)).2.index < 1 := fun e => hc (Or.inr (Or.inl e))
   have h2 : ¬ (takeE (b, 0)).2.term < 1 := fun e => hc (Or.inr (Or.inr e))
   have h3 : 1 ≤ (takeE (b, 0)).2.index := by omega
   have h4 : 1 ≤ (takeE (b, 0)).2.term := by omega
   exact ⟨e1, fitM_iff.2 ⟨h3, e3, h4, e5, e6, e7, e8⟩⟩
/-! What is laid is taken off. -/
theorem rUint_lay {most u : Nat} (hu : u < 18446744073709551616) (hm : u ≤ most) (r : List UInt8) : rUint most (lUint u ++ r, 0) = ((r, 0), u) := by
 unfold rUint
 rw [if_pos rfl]
 simp only [rdUint_lay most u hu hm r, if_true]
theorem rBytes_lay {most : Int} {l : List UInt8} (hl : l.length < 18446744073709551616) (hm : (l.length : Int) ≤ most) (r : List UInt8) : rBytes 98 most (lBytes l ++ r, 0) = ((r, 0), l) := by
 unfold rBytes
 rw [if_pos rfl]
 simp only [rdBytes_lay' l r hl most hm, if_true]
theorem rCount_lay {most u : Nat} (hu : u < 18446744073709551616) (hm : u ≤ most) (r : List UInt8) (hr : u ≤ r.length) : rCount most (lUint u ++ r, 0) = ((r, 0), u) := by
 unfold rCount
 rw [if_pos rfl]
 simp only [rdUint_lay most u hu hm r]
 rw [if_neg (by simp), if_neg (by omega)]
theorem takeE_lay {e : En} (h : fitM e = true) (r : List UInt8) : takeE (encE e ++ r, 0) = ((r, 0), e) := by
 obtain ⟨h1, h2, h3, h4, h5, h6, h7⟩ := fitM_iff.1 h
 have a1 := u64_pos (x := e.index) (by omega) (by omega)
 have a2 := u64_pos (x := e.term) (by omega) (by omega)
 have a3 := u64_pos (x := e.kind) (by omega) (by omega)
 unfold takeE encE
 simp only [List.append_assoc]
 rw [rUint_lay (u64_lt _) (by omega)]
 simp only
 rw [rUint_lay (u64_lt _) (by omega)]
 simp only
 rw [rUint_lay (u64_lt _) (by omega)]
 simp only
 rw [rBytes_lay (by omega) (by omega), a1, a2, a3]
theorem decE_lay {e : En} (h : fitM e = true) : decE (encE e) = (e, 0) := by
 obtain ⟨h1, h2, h3, h4, h5, h6, h7⟩ := fitM_iff.1 h
 have hx := takeE_lay h []
 rw [List.append_nil] at hx
 unfold decE
 simp only [hx]
 rw [if_neg]
 rintro (h | h | h)
 · exact h (doneR_iff.2 ⟨rfl, rfl⟩)
 · omega
 · omega
theorem dec_len (u : Nat) (hu : u < 18446744073709551616) : (lUint u).length ≤ 22 := by
 have := digits_len u hu
 unfold lUint
 simp only [List.length_cons, List.length_append, List.length_nil]
 omega
theorem encE_len {e : En} (h : e.data.length < 18446744073709551616) : (encE e).length ≤ 88 + e.data.length := by
 have h1 := dec_len _ (u64_lt e.index)
 have h2 := dec_len _ (u64_lt e.term)
 have h3 := dec_len _ (u64_lt e.kind)
 have h4 := digits_len _ h
 unfold encE lBytes lHead
 simp only [List.length_append, List.length_cons, List.length_nil]
 omega
theorem encEs_cons (e : En) (l : List En) : encEs (e :: l) = lBytes (encE e) ++ encEs l := by unfold encEs; rw [List.flatMap_cons]
theorem encEs_many : ∀ (l : List En), l.length ≤ (encEs l).length
 | [] => Nat.zero_le _
 | e :: l => by
   rw [encEs_cons, List.length_append, List.length_cons]
   have := encEs_many l
   have h : 1 ≤ (lBytes (encE e)).length := by unfold lBytes lHead; simp only [List.length_append, List.length_cons]; omega
   omega
theorem takeEs_lay : ∀ {l : List En}, (∀ e ∈ l, fitM e = true) → ∀ r, takeEs l.length (encEs l ++ r, 0) = (((r, 0), true), l)
 | [], _, r => rfl
 | e :: l, h, r => by
   have hf := h e (List.mem_cons_self ..)
   have h7 := (fitM_iff.1 hf).2.2.2.2.2.2
   have hl := encE_len (e := e) (by omega)
   rw [List.length_cons, encEs_cons, List.append_assoc]
   unfold takeEs
   rw [if_neg (by simp), rBytes_lay (by omega) (by omega)]
   simp only
   rw [takeEs_lay (fun x hx => h x (List.mem_cons_of_mem _ hx)) r, decE_lay hf]
   simp
end
end Go.Proofs.YtncaefocijainaaGreatDoor.pk
