import Derived.Test.YtncaefocijainaaGreatDoorG06
import Derived.Test.YtncaefocijainaaGreatDoorG12
import Derived.Test.YtncaefocijainaaGreatDoorG27
import Derived.Test.YtncaefocijainaaGreatDoorG02
namespace Go.Proofs.YtncaefocijainaaGreatDoor.pk
section
open Go
def encC (c : List Int) : List UInt8 := lUint c.length ++ c.flatMap fun x => lUint (u64 x)
def takeC : Nat → (List UInt8 × Nat) → (List UInt8 × Nat) × List Int
 | 0, s => (s, [])
 | k + 1, s => ((takeC k (rUint 64 s).1).1, ((rUint 64 s).2 : Int) :: (takeC k (rUint 64 s).1).2)
def rawC (b : List UInt8) : (List UInt8 × Nat) × List Int := takeC (rCount 7 (b, 0)).2 (rCount 7 (b, 0)).1
def okD (b : List UInt8) : Bool := decide (doneR (rawC b).1 = 0) && mayC (rawC b).2
def decC (b : List UInt8) : List Int := if okD b = true then (rawC b).2 else []
structure Pr where
 who : Int
 next : Int
 mat : Int
 off : Int
 rnd : Int
structure St where
 term : Int
 vote : Int
 log : Lg
 conf : List Int
 snap : List UInt8
structure Co where
 id : Int
 span : Int
 s : St
 role : Int
 leader : Int
 commit : Int
 round : Int
 gone : Int
 wait : Int
 votes : List Int
 known : List Pr
 key : Int
 hav : List UInt8
def misE (e : En) : Bool := decide (e.kind = 2) && !okD e.data
def mayS (s : St) : Bool := mayE s.log && mayC s.conf && !s.log.l.any misE && decide ((lastE s.log).2 ≤ s.term ∧ s.term ≤ 1099511627776 ∧ 0 ≤ s.vote ∧ s.vote ≤ 64)
def waitC (span draw : Int) : Int := span + (u64 draw % (u64 (span + 1)) : Nat)
def rest (c : Co) (draw : Int) : Co := { c with gone := 0, wait := waitC c.span draw }
def newC (id span : Int) (s : St) (draw : Int) : Co := rest ⟨id, span, s, 0, 0, s.log.base, 0, 0, 0, [], [], 0, []⟩ draw
def okN (id span : Int) (s : St) : Bool := decide (1 ≤ id ∧ id ≤ 64 ∧ 2 ≤ span ∧ span ≤ 1000) && mayS s
def lastM (l : List En) : Option En := l.reverse.find? fun e => decide (e.kind = 2)
def memAt (s : St) (i : Int) : Int × List Int := match lastM (s.log.l.take (i - s.log.base).toNat) with
 | some e => (e.index, decC e.data)
 | none => (0, s.conf)
def mems (s : St) : Int × List Int := memAt s 1099511627776
def cnf (c : Co) : List Int := (mems c.s).2
def others (c : Co) : List Int := (cnf c).filter fun x => decide (x ≠ c.id)
def lastI (c : Co) : Int := (lastE c.s.log).1
def hasC (l : List Int) (x : Int) : Bool := mayC l && decide (x ∈ l)
def follow (c : Co) (l : Int) : Co := { c with role := 0, leader := l, votes := [], known := [] }
def findP (l : List Pr) (who : Int) : Option Pr := l.find? fun p => decide (p.who = who)
def newP (c : Co) (who : Int) : Pr := ⟨who, lastI c + 1, 0, 0, 0⟩
def ofP (c : Co) (who : Int) : Pr := (findP c.known who).getD (newP c who)
def ofC (c : Co) (who : Int) : Co := if (findP c.known who).isSome then c else { c with known := c.known ++ [newP c who] }
def letter (c : Co) (kind dst : Int) : Ms := ⟨kind, c.id, dst, c.s.term, 0, 0, 0, 0, false, 0, [], []⟩
def handed (s : St) : List UInt8 := lBytes (encC s.conf) ++ lBytes s.snap
def entM (c : Co) (p : Pr) : Ms := { letter c 3 p.who with index := p.next - 1, logTerm := (termE c.s.log (p.next - 1)).1, commit := c.commit, round := c.round, ents := fromE c.s.log p.next 16 }
def pieceM (c : Co) (p : Pr) : Ms := { letter c 5 p.who with index := c.s.log.base, logTerm := c.s.log.term, off := p.off, round := c.round, data := (cutK (handed c.s) p.off 1024).1, ok := (cutK (handed c.s) p.off 1024).2.1 }
def sendM (c : Co) (p : Pr) : Ms := if p.next ≤ c.s.log.base then pieceM c p else entM c p
def send (c : Co) (who : Int) : Co × Ms := (ofC c who, sendM c (ofP c who))
def sendTo : Co → List Int → Co × List Ms
 | c, [] => (c, [])
 | c, x :: r => ((sendTo (send c x).1 r).1, (send c x).2 :: (sendTo (send c x).1 r).2)
def sendAll (c : Co) : Co × List Ms := sendTo c (others c)
def marks (c : Co) : List (Int × Int) := (c.id, lastI c) :: c.known.map fun p => (p.who, p.mat)
def agreed (c : Co) : Int := agreedC (cnf c) (marks c)
def advance (c : Co) : Co × List Ms :=
 if agreed c ≤ c.commit ∨ (termE c.s.log (agreed c)).1 ≠ c.s.term then (c, [])
 else if (mems c.s).1 ≤ agreed c ∧ hasC (cnf c) c.id = false then (follow { c with commit := agreed c } 0, [])
 else sendAll { c with commit := agreed c }
def spread (c : Co) : Co × List Ms := ((advance (sendAll c).1).1, (sendAll c).2 ++ (advance (sendAll c).1).2)
def addC1 (c : Co) (kind : Int) (d : List UInt8) : Co := if (addE c.s.log c.s.term kind d).2 = 0 then { c with s := { c.s with log := (addE c.s.log c.s.term kind d).1 } } else c
def addOk (c : Co) (kind : Int) (d : List UInt8) : Nat := (addE c.s.log c.s.term kind d).2
def leadC (c : Co) : Co := (others c).foldl ofC { c with role := 2, leader := c.id, votes := [], known := [], gone := 0 }
def lead (c : Co) : Co × List Ms := if addOk (leadC c) 0 [] = 0 then spread (addC1 (leadC c) 0 []) else (follow (leadC c) 0, [])
end
section
open Go
def numS (n : Int) (s : St) : List UInt8 := lUint (u64 n) ++ lUint (u64 s.term) ++ lUint (u64 s.vote) ++ lUint (u64 s.log.base) ++ lUint (u64 s.log.term)
def encS (n : Int) (s : St) : List UInt8 := numS n s ++ lBytes (encC s.conf) ++ lBytes s.snap ++ lUint s.log.l.length ++ encEs s.log.l
def numsR (s : List UInt8 × Nat) : Nat → (List UInt8 × Nat) × List Nat
 | 0 => (s, [])
 | k + 1 => ((rUint 1099511627776 (numsR s k).1).1, (numsR s k).2 ++ [(rUint 1099511627776 (numsR s k).1).2])
theorem numsR_len (s : List UInt8 × Nat) : ∀ k, (numsR s k).2.length = k
 | 0 => rfl
 | k + 1 => by unfold numsR; rw [List.length_append, numsR_len s k]; rfl
theorem rUint_leS (most : Nat) (s : List UInt8 × Nat) : (rUint most s).2 ≤ most := by
 unfold rUint
 by_cases h : s.2 = 0
 · rw [if_pos h]
   rcases hr : rdUint most s.1 with ⟨e, m, r⟩
   by_cases he : e = 0
   · subst he; simp only [if_true]; exact (rdUint_ok hr).2
   · rw [if_neg he]; exact Nat.zero_le _
 · rw [if_neg h]; exact Nat.zero_le _
theorem rBytes_leS (most : Nat) (s : List UInt8 × Nat) : (rBytes 98 (most : Int) s).2.length ≤ most := by
 unfold rBytes
 by_cases h : s.2 = 0
 · rw [if_pos h]
   rcases hr : rdBytes 98 (most : Int) s.1 with ⟨e, m, r⟩
   by_cases he : e = 0
   · subst he
     obtain ⟨_, n, r, _, h1, _, h2, _⟩ := rdBytes_ok hr
     simp only [if_true]
     rw [h2, List.length_take]
     omega
   · rw [if_neg he]; exact Nat.zero_le _
 · rw [if_neg h]; exact Nat.zero_le _
theorem numsR_le (s : List UInt8 × Nat) : ∀ k, ∀ z ∈ (numsR s k).2, z ≤ 1099511627776
 | 0, z, h => by simp [numsR] at h
 | k + 1, z, h => by
   unfold numsR at h
   rcases List.mem_append.1 h with h | h
   · exact numsR_le s k z h
   · rw [List.mem_singleton.1 h]; exact rUint_leS _ _
structure Raw where
 st : List UInt8 × Nat
 ok : Bool
 n : Nat
 s : St
def rawS (b : List UInt8) : Raw :=
 let a := numsR (b, 0) 5
 let c := rBytes 98 512 a.1
 let p := rBytes 98 1048576 c.1
 let k := rCount 4096 p.1
 let e := takeEs k.2 k.1
 ⟨e.1.1, okD c.2 && e.1.2, a.2.getD 0 0, ⟨(a.2.getD 1 0 : Nat), (a.2.getD 2 0 : Nat), ⟨(a.2.getD 3 0 : Nat), (a.2.getD 4 0 : Nat), e.2⟩, decC c.2, p.2⟩⟩
def okS (b : List UInt8) : Bool := decide (doneR (rawS b).st = 0) && (rawS b).ok && decide (1 ≤ (rawS b).n) && mayS (rawS b).s
def decS (b : List UInt8) : Option (Nat × St) := if okS b = true then some ((rawS b).n, (rawS b).s) else none
theorem mayS_parts {s : St} (h : mayS s = true) : mayE s.log = true ∧ mayC s.conf = true ∧ s.log.l.any misE = false ∧ ((lastE s.log).2 ≤ s.term ∧ s.term ≤ 1099511627776 ∧ 0 ≤ s.vote ∧ s.vote ≤ 64) := by
 unfold mayS at h
 simp only [Bool.and_eq_true, Bool.not_eq_true', decide_eq_true_eq] at h
 exact ⟨h.1.1.1, h.1.1.2, h.1.2, h.2⟩
theorem mayC_all {c : List Int} (h : mayC c = true) : (0 < c.length ∧ c.length < 8) ∧ ∀ x ∈ c, 1 ≤ x ∧ x ≤ 64 := by
 have h1 := (mayC_iff c).1 h
 refine ⟨h1.1, fun x hx => ?_⟩
 obtain ⟨j, hj, e⟩ := mem_getD.1 hx
 have := h1.2 j hj
 unfold okC at this
 rw [e] at this
 exact ⟨this.1, this.2.1⟩
theorem takeC_lay : ∀ {c : List Int}, (∀ x ∈ c, 1 ≤ x ∧ x ≤ 64) → ∀ r, takeC c.length ((c.flatMap fun x => lUint (u64 x)) ++ r, 0) = ((r, 0), c)
 | [], _, r => rfl
 | x :: c, h, r => by
   have hx := h x (List.mem_cons_self ..)
   have e1 := u64_pos (x := x) (by omega) (by omega)
   rw [List.length_cons, List.flatMap_cons, List.append_assoc]
   unfold takeC
   rw [rUint_lay (u64_lt _) (by omega)]
   simp only
   rw [takeC_lay (fun y hy => h y (List.mem_cons_of_mem _ hy)) r, e1]
theorem flat_many (c : List Int) : c.length ≤ (c.flatMap fun x => lUint (u64 x)).length := by
 induction c with
 | nil => simp
 | cons x c ih =>
   rw [List.flatMap_cons, List.length_append, List.length_cons]
   have : 1 ≤ (lUint (u64 x)).length := by unfold lUint; simp
   omega
theorem rawC_lay {c : List Int} (h : mayC c = true) : rawC (encC c) = (([], 0), c) := by
 obtain ⟨h1, h2⟩ := mayC_all h
 unfold rawC encC
 have := flat_many c
 rw [rCount_lay (by omega) (by omega) _ this]
 simp only
 have hl := takeC_lay h2 []
 rw [List.append_nil] at hl
 exact hl
theorem okD_lay {c : List Int} (h : mayC c = true) : okD (encC c) = true ∧ decC (encC c) = c := by
 have h1 := rawC_lay h
 have h2 : okD (encC c) = true := by
   unfold okD
   rw [h1]
   simp only [Bool.and_eq_true, decide_eq_true_eq]
   exact ⟨rfl, h⟩
 refine ⟨h2, ?_⟩
 unfold decC
 rw [if_pos h2, h1]
theorem lUint_two (u : Nat) (hu : u < 100) : (lUint u).length ≤ 4 := by
 have h1 : (Lib.decDigits u).length ≤ 2 := by
   by_cases h : u < 10
   · rw [Lib.decDigits_one h]; simp
   · rw [Lib.decDigits_two h hu]; simp
 unfold lUint
 simp only [List.length_cons, List.length_append, List.length_nil]
 omega
theorem encC_len31 {c : List Int} (h : mayC c = true) : (encC c).length ≤ 32 := by
 obtain ⟨h1, h2⟩ := mayC_all h
 have h3 : ∀ (l : List Int), (∀ x ∈ l, 1 ≤ x ∧ x ≤ 64) → (l.flatMap fun x => lUint (u64 x)).length ≤ 4 * l.length := by
   intro l
   induction l with
   | nil => intro _; simp
   | cons x l ih =>
     intro hl
     have hx := hl x (List.mem_cons_self ..)
     have e1 := u64_pos (x := x) (by omega) (by omega)
     have := lUint_two (u64 x) (by omega)
     have := ih fun y hy => hl y (List.mem_cons_of_mem _ hy)
     rw [List.flatMap_cons, List.length_append, List.length_cons]
     omega
 have h4 := h3 c h2
 have h5 := lUint_two c.length (by omega)
 unfold encC
 rw [List.length_append]
 omega
theorem mayE_fit {l : Lg} (h : mayE l = true) : ∀ e ∈ l.l, fitM e = true := fun e he => by
 obtain ⟨j, hj, rfl⟩ := List.getElem_of_mem he
 have := behindE_at (mayE_iff.1 h).2 j hj
 exact fitM_iff.2 ⟨by omega, by omega, by omega, by omega, by omega, by omega, by omega⟩
theorem mayE_head {l : Lg} (h : mayE l = true) : 0 ≤ l.base ∧ l.base ≤ 1099511627776 ∧ 0 ≤ l.term ∧ l.term ≤ 1099511627776 ∧ (l.base = 0 ↔ l.term = 0) ∧ l.l.length ≤ 4096 := headE_iff.1 (mayE_iff.1 h).1
theorem lastE_nn {l : Lg} (h : mayE l = true) : 0 ≤ (lastE l).2 := by
 unfold lastE
 rw [if_pos h]
 unfold endE
 cases hl : l.l.getLast? with
 | none => have := mayE_head h; simp only; omega
 | some e =>
   have h2 := fitM_iff.1 (mayE_fit h e (List.mem_of_getLast? hl))
   simp only; omega
theorem numsR_lay (n : Int) (s : St) (r : List UInt8) (h0 : 0 ≤ n ∧ n ≤ 1099511627776) (h1 : 0 ≤ s.term ∧ s.term ≤ 1099511627776) (h2 : 0 ≤ s.vote ∧ s.vote ≤ 1099511627776) (h3 : 0 ≤ s.log.base ∧ s.log.base ≤ 1099511627776) (h4 : 0 ≤ s.log.term ∧ s.log.term ≤ 1099511627776) :
   numsR (numS n s ++ r, 0) 5 = ((r, 0), [u64 n, u64 s.term, u64 s.vote, u64 s.log.base, u64 s.log.term]) := by
 have e0 := u64_pos (x := n) (by omega) (by omega)
 have e1 := u64_pos (x := s.term) (by omega) (by omega)
 have e2 := u64_pos (x := s.vote) (by omega) (by omega)
 have e3 := u64_pos (x := s.log.base) (by omega) (by omega)
 have e4 := u64_pos (x := s.log.term) (by omega) (by omega)
 unfold numS
 simp only [List.append_assoc]
 simp only [numsR]
 rw [rUint_lay (u64_lt _) (by omega)]
 simp only
 rw [rUint_lay (u64_lt _) (by omega)]
 simp only
 rw [rUint_lay (u64_lt _) (by omega)]
 simp only
 rw [rUint_lay (u64_lt _) (by omega)]
 simp only
 rw [rUint_lay (u64_lt _) (by omega)]
 rfl
theorem decS_lay {n : Nat} {s : St} (h : mayS s = true) (hn : 1 ≤ n ∧ n ≤ 1099511627776) (hs : s.snap.length ≤ 1048576) : decS (encS n s) = some (n, s) := by
 obtain ⟨h1, h2, h3, h4⟩ := mayS_parts h
 have h5 := mayE_head h1
 have h6 := lastE_nn h1
 have hc := okD_lay h2
 have hcl := encC_len31 h2
 have e0 := u64_pos (x := (n : Int)) (by omega) (by omega)
 have e1 := u64_pos (x := s.term) (by omega) (by omega)
 have e2 := u64_pos (x := s.vote) (by omega) (by omega)
 have e3 := u64_pos (x := s.log.base) (by omega) (by omega)
 have e4 := u64_pos (x := s.log.term) (by omega) (by omega)
 have hr : rawS (encS n s) = ⟨([], 0), true, n, s⟩ := by
   unfold rawS encS
   simp only [List.append_assoc]
   rw [numsR_lay n s _ (by omega) (by omega) (by omega) (by omega) (by omega)]
   simp only
   rw [rBytes_lay (by omega) (by omega)]
   simp only
   rw [rBytes_lay (by omega) (by omega)]
   simp only
   rw [rCount_lay (by omega) (by omega) _ (encEs_many _)]
   simp only
   have ht := takeEs_lay (mayE_fit h1) []
   rw [List.append_nil] at ht
   rw [ht, hc.1, hc.2]
   simp only [List.getD_cons_zero, List.getD_cons_succ]
   rw [e1, e2, e3, e4, show u64 (n : Int) = n from by omega]
   rfl
 unfold decS
 have ho : okS (encS n s) = true := by
   unfold okS
   rw [hr]
   simp only [Bool.and_eq_true, decide_eq_true_eq]
   exact ⟨⟨⟨rfl, trivial⟩, hn.1⟩, h⟩
 rw [if_pos ho, hr]
theorem decS_may {b : List UInt8} {n : Nat} {s : St} (h : decS b = some (n, s)) : mayS s = true ∧ 1 ≤ n ∧ n ≤ 1099511627776 ∧ s.snap.length ≤ 1048576 := by
 unfold decS at h
 by_cases ho : okS b = true
 · rw [if_pos ho] at h
   injection h with h
   injection h with h1 h2
   subst h1; subst h2
   unfold okS at ho
   simp only [Bool.and_eq_true, decide_eq_true_eq] at ho
   refine ⟨ho.2, ho.1.2, ?_, ?_⟩
   · show (numsR (b, 0) 5).2.getD 0 0 ≤ _
     have h5 := numsR_len (b, 0) 5
     have := numsR_le (b, 0) 5 ((numsR (b, 0) 5).2.getD 0 0) (by simp [List.getD, List.getElem?_eq_getElem (show 0 < (numsR (b, 0) 5).2.length by omega)])
     exact this
   · exact rBytes_leS 1048576 _
 · rw [if_neg ho] at h; cases h
end
section
open Go
theorem encEs_len {d : Nat} : ∀ {l : List En}, (∀ e ∈ l, e.data.length ≤ d) → d ≤ 1000000 → (encEs l).length ≤ l.length * (d + 110)
 | [], _, _ => by simp [encEs]
 | e :: l, h, hd => by
   have h1 := encEs_len (l := l) (fun x hx => h x (List.mem_cons_of_mem _ hx)) hd
   have h2 := h e (List.mem_cons_self ..)
   have h3 := encE_len (e := e) (by omega)
   have h4 := digits_len (encE e).length (by omega)
   rw [encEs_cons, List.length_append, List.length_cons, Nat.add_mul, Nat.one_mul]
   have h5 : (lBytes (encE e)).length ≤ 22 + (encE e).length := by unfold lBytes lHead; simp only [List.length_append, List.length_cons, List.length_nil]; omega
   omega
end
end Go.Proofs.YtncaefocijainaaGreatDoor.pk
