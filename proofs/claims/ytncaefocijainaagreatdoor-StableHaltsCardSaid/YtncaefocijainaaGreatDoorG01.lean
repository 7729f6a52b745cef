import Derived.Lib.ItoaNum
namespace Go.Proofs.YtncaefocijainaaGreatDoor.pk
section
open Go
def sh (r : Nat) : Nat := if r % 2 = 1 then r / 2 ^^^ 2197175160 else r / 2
def rep : Nat → Nat → Nat
 | 0, r => r
 | k + 1, r => rep k (sh r)
def crcB (r c : Nat) : Nat := rep 8 (r ^^^ c)
def crc (r : Nat) : List UInt8 → Nat
 | [] => r
 | c :: l => crc (crcB r c.toNat) l
def le : List UInt8 → Nat
 | [] => 0
 | c :: l => c.toNat ^^^ 256 * le l
end
section
open Go
structure Dk where
 B : List UInt8
 L : List (Nat × List UInt8)
 armed : Int
 off : Bool
def put1 (b : List UInt8) (at_ : Nat) (x : List UInt8) : List UInt8 := b.take at_ ++ x ++ b.drop (at_ + x.length)
def nowL (b : List UInt8) : List (Nat × List UInt8) → List UInt8
 | [] => b
 | w :: l => nowL (put1 b w.1 w.2) l
def Dk.now (d : Dk) : List UInt8 := nowL d.B d.L
def Dk.Ok (d : Dk) : Prop := ∀ w ∈ d.L, w.1 + w.2.length ≤ d.B.length
def badE (d : Dk) (at_ n : Int) : Nat := if 0 ≤ at_ ∧ 0 ≤ n ∧ at_ ≤ d.B.length ∧ n ≤ d.B.length - at_ then (if d.off = true then 13 else 0) else 1
def readB (d : Dk) (at_ n : Int) : List UInt8 := if badE d at_ n = 0 then (d.now.drop at_.toNat).take n.toNat else []
def stepD (d : Dk) : Dk := if d.armed = 0 then { d with off := true, armed := -1 } else if 0 < d.armed then { d with armed := d.armed - 1 } else d
def stepE (d : Dk) : Nat := if d.armed = 0 then 13 else 0
def putD (d : Dk) (at_ : Int) (x : List UInt8) : Dk := if badE d at_ x.length = 0 then stepD { d with L := d.L ++ [(at_.toNat, x)] } else d
def putE (d : Dk) (at_ : Int) (x : List UInt8) : Nat := if badE d at_ x.length = 0 then stepE d else badE d at_ x.length
def syncD (d : Dk) : Dk := if d.off = true then d else if stepE d = 0 then { stepD d with B := d.now, L := [] } else stepD d
def syncE (d : Dk) : Nat := if d.off = true then 13 else stepE d
def armD (d : Dk) (n : Int) : Dk := if n < 0 then d else { d with armed := n }
def armE (n : Int) : Nat := if n < 0 then 1 else 0
def restK (keep : List Int) (i by_ : Nat) : Nat := if i < keep.length then ((keep.getD i 0) % (by_ : Int)).toNat else 0
def keptL (L : List (Nat × List UInt8)) (keep : List Int) : List (Nat × List UInt8) :=
 L.take (restK keep 0 (L.length + 1)) ++ ((L.drop (restK keep 0 (L.length + 1))).take 1).map fun w => (w.1, w.2.take (restK keep 1 (w.2.length + 1)))
def startD (d : Dk) (keep : List Int) : Dk := { B := nowL d.B (keptL d.L keep), L := [], armed := -1, off := false }
def newD (n : Nat) : Dk := { B := List.replicate n 0, L := [], armed := -1, off := false }
theorem put1_len {b : List UInt8} {at_ : Nat} {x : List UInt8} (h : at_ + x.length ≤ b.length) : (put1 b at_ x).length = b.length := by
 unfold put1
 simp only [List.length_append, List.length_take, List.length_drop]
 omega
theorem nowL_len : ∀ {l : List (Nat × List UInt8)} {b : List UInt8}, (∀ w ∈ l, w.1 + w.2.length ≤ b.length) → (nowL b l).length = b.length
 | [], _, _ => rfl
 | w :: l, b, h => by
   have h0 := h w (List.mem_cons_self ..)
   unfold nowL
   rw [nowL_len (fun v hv => by rw [put1_len h0]; exact h v (List.mem_cons_of_mem _ hv)), put1_len h0]
theorem Dk.Ok.now {d : Dk} (h : d.Ok) : d.now.length = d.B.length := nowL_len h
theorem nowL_append : ∀ (l r : List (Nat × List UInt8)) (b : List UInt8), nowL b (l ++ r) = nowL (nowL b l) r
 | [], _, _ => rfl
 | _ :: l, r, _ => nowL_append l r _
theorem put1_get {b : List UInt8} {at_ : Nat} {x : List UInt8} (h : at_ + x.length ≤ b.length) (j : Nat) :
   (put1 b at_ x).getD j 0 = if at_ ≤ j ∧ j < at_ + x.length then x.getD (j - at_) 0 else b.getD j 0 := by
 have hta : (b.take at_).length = at_ := by rw [List.length_take]; omega
 unfold put1
 simp only [List.getD]
 by_cases h1 : j < at_
 · rw [if_neg (by omega), List.append_assoc, List.getElem?_append_left (by omega), List.getElem?_take, if_pos h1]
 · by_cases h2 : j < at_ + x.length
   · rw [if_pos ⟨by omega, h2⟩, List.getElem?_append_left (by rw [List.length_append]; omega), List.getElem?_append_right (by omega), hta]
   · rw [if_neg (by omega), List.getElem?_append_right (by rw [List.length_append]; omega), List.getElem?_drop, List.length_append, hta]
     congr 2
     omega
theorem newD_ok (n : Nat) : (newD n).Ok := by intro w hw; cases hw
theorem stepD_L (d : Dk) : (stepD d).L = d.L ∧ (stepD d).B = d.B := by
 unfold stepD
 by_cases h : d.armed = 0
 · rw [if_pos h]; exact ⟨rfl, rfl⟩
 · rw [if_neg h]
   by_cases h1 : 0 < d.armed
   · rw [if_pos h1]; exact ⟨rfl, rfl⟩
   · rw [if_neg h1]; exact ⟨rfl, rfl⟩
theorem stepD_ok {d : Dk} (h : d.Ok) : (stepD d).Ok := by
 intro w hw
 rw [(stepD_L d).2]
 rw [(stepD_L d).1] at hw
 exact h w hw
theorem badE_in {d : Dk} {at_ n : Int} (h : badE d at_ n = 0) : 0 ≤ at_ ∧ 0 ≤ n ∧ at_ ≤ d.B.length ∧ n ≤ d.B.length - at_ ∧ d.off = false := by
 unfold badE at h
 by_cases hc : 0 ≤ at_ ∧ 0 ≤ n ∧ at_ ≤ d.B.length ∧ n ≤ d.B.length - at_
 · rw [if_pos hc] at h
   obtain ⟨a, b, c, e⟩ := hc
   refine ⟨a, b, c, e, ?_⟩
   cases ho : d.off with
   | false => rfl
   | true => rw [if_pos ho] at h; omega
 · rw [if_neg hc] at h; omega
theorem putD_ok {d : Dk} (h : d.Ok) (at_ : Int) (x : List UInt8) : (putD d at_ x).Ok := by
 unfold putD
 by_cases hb : badE d at_ x.length = 0
 · rw [if_pos hb]
   obtain ⟨h1, h2, h3, h4, _⟩ := badE_in hb
   refine stepD_ok (d := { d with L := d.L ++ [(at_.toNat, x)] }) ?_
   intro w hw
   rcases List.mem_append.1 hw with hw | hw
   · exact h w hw
   · obtain rfl := List.mem_singleton.1 hw
     show at_.toNat + x.length ≤ d.B.length
     omega
 · rw [if_neg hb]; exact h
theorem startD_ok (d : Dk) (keep : List Int) : (startD d keep).Ok := by intro w hw; cases hw
theorem putD_len (d : Dk) (at_ : Int) (x : List UInt8) : (putD d at_ x).B.length = d.B.length := by
 unfold putD
 by_cases hb : badE d at_ x.length = 0
 · rw [if_pos hb, (stepD_L _).2]
 · rw [if_neg hb]
theorem syncD_len {d : Dk} (h : d.Ok) : (syncD d).B.length = d.B.length := by
 unfold syncD
 by_cases ho : d.off = true
 · rw [if_pos ho]
 · rw [if_neg ho]
   by_cases he : stepE d = 0
   · rw [if_pos he]; exact h.now
   · rw [if_neg he, (stepD_L d).2]
theorem restK_le (keep : List Int) (i by_ : Nat) (h : 0 < by_) : restK keep i by_ < by_ := by
 unfold restK
 by_cases hi : i < keep.length
 · rw [if_pos hi]
   have := Int.emod_lt_of_pos (keep.getD i 0) (show (0 : Int) < by_ by omega)
   have := Int.emod_nonneg (keep.getD i 0) (show (by_ : Int) ≠ 0 by omega)
   omega
 · rw [if_neg hi]; exact h
theorem keptL_ok {d : Dk} (h : d.Ok) (keep : List Int) : ∀ w ∈ keptL d.L keep, w.1 + w.2.length ≤ d.B.length := by
 intro w hw
 unfold keptL at hw
 rcases List.mem_append.1 hw with hw | hw
 · exact h w (List.mem_of_mem_take hw)
 · obtain ⟨v, hv, rfl⟩ := List.mem_map.1 hw
   have := h v (List.mem_of_mem_drop (List.mem_of_mem_take hv))
   show v.1 + (v.2.take _).length ≤ _
   rw [List.length_take]
   omega
theorem startD_len {d : Dk} (h : d.Ok) (keep : List Int) : (startD d keep).B.length = d.B.length := nowL_len (keptL_ok h keep)
end
section
open Go
def be4 (n : Nat) : List UInt8 := [UInt8.ofNat (n / 16777216), UInt8.ofNat (n / 65536), UInt8.ofNat (n / 256), UInt8.ofNat n]
def num4 (a b c e : UInt8) : Nat := a.toNat * 16777216 + b.toNat * 65536 + c.toNat * 256 + e.toNat
theorem num4_be4 (n : Nat) (h : n < 4294967296) : num4 (UInt8.ofNat (n / 16777216)) (UInt8.ofNat (n / 65536)) (UInt8.ofNat (n / 256)) (UInt8.ofNat n) = n := by
 unfold num4
 simp only [UInt8.toNat_ofNat']
 omega
def enc1 (b : List UInt8) : List UInt8 := 1 :: (be4 b.length ++ b)
theorem enc1_len (b : List UInt8) : (enc1 b).length = 5 + b.length := by simp [enc1, be4]; omega
def encL (l : List (List UInt8)) : List UInt8 := (l.map enc1).flatten
theorem encL_append (l r : List (List UInt8)) : encL (l ++ r) = encL l ++ encL r := by simp [encL]
theorem encL_cons (b : List UInt8) (l : List (List UInt8)) : encL (b :: l) = enc1 b ++ encL l := by simp [encL]
theorem encL_one (b : List UInt8) : encL [b] = enc1 b := by simp [encL]
def parse : Nat → List UInt8 → Option (List (List UInt8) × Nat)
 | 0, _ => some ([], 0)
 | f + 1, m :: a :: b :: c :: e :: r =>
   if m = 0 then some ([], 0)
   else if m = 1 ∧ num4 a b c e ≤ r.length then (parse f (r.drop (num4 a b c e))).map fun x => (r.take (num4 a b c e) :: x.1, 5 + num4 a b c e + x.2)
   else none
 | _ + 1, _ => some ([], 0)
def readT (A : List UInt8) : Option (List (List UInt8) × Nat) := parse A.length A
theorem parse_short (f : Nat) (A : List UInt8) (h : A.length < 5) : parse f A = some ([], 0) := by
 cases f with
 | zero => rfl
 | succ f =>
   rcases A with _ | ⟨_, _ | ⟨_, _ | ⟨_, _ | ⟨_, _ | ⟨_, r⟩⟩⟩⟩⟩ <;> first | rfl | (simp at h; omega)
theorem parse_fuel : ∀ (f g : Nat) (A : List UInt8), A.length ≤ f → A.length ≤ g → parse f A = parse g A
 | 0, g, A, hf, _ => by
   rw [parse_short g A (by omega)]; rfl
 | f + 1, 0, A, _, hg => by
   rw [parse_short (f + 1) A (by omega)]; rfl
 | f + 1, g + 1, A, hf, hg => by
   by_cases h5 : A.length < 5
   · rw [parse_short _ A h5, parse_short _ A h5]
   · rcases A with _ | ⟨m, _ | ⟨a, _ | ⟨b, _ | ⟨c, _ | ⟨e, r⟩⟩⟩⟩⟩ <;> first | (simp at h5; done) | skip
     simp only [List.length_cons] at hf hg
     unfold parse
     rw [parse_fuel f g (r.drop (num4 a b c e)) (by rw [List.length_drop]; omega) (by rw [List.length_drop]; omega)]
structure Lies (A : List UInt8) (l : List (List UInt8)) : Prop where
 fits : (encL l).length ≤ A.length
 front : A.take (encL l).length = encL l
 stop : (encL l).length + 5 ≤ A.length → A.getD (encL l).length 1 = 0
 small : ∀ b ∈ l, b.length < 4294967296
theorem parse_lies : ∀ (l : List (List UInt8)) (f : Nat) (A : List UInt8), A.length ≤ f → Lies A l → parse f A = some (l, (encL l).length)
 | [], f, A, _, h => by
   by_cases h5 : A.length < 5
   · rw [parse_short f A h5]; rfl
   · have hs := h.stop (by simp [encL]; omega)
     rcases A with _ | ⟨m, _ | ⟨a, _ | ⟨b, _ | ⟨c, _ | ⟨e, r⟩⟩⟩⟩⟩ <;> first | (simp at h5; done) | skip
     simp [encL] at hs
     cases f with
     | zero => rfl
     | succ f =>
       unfold parse
       rw [if_pos hs]
       simp [encL]
 | b :: l, f, A, hf, h => by
   have hsm := h.small b (List.mem_cons_self ..)
   have hfr := h.front
   have hft := h.fits
   have hst := h.stop
   rw [encL_cons] at hfr hft hst
   have hlen : (enc1 b ++ encL l).length = 5 + b.length + (encL l).length := by rw [List.length_append, enc1_len]
   rw [hlen] at hfr hft hst
   obtain ⟨R, hR⟩ : ∃ R, A = enc1 b ++ encL l ++ R := ⟨A.drop (5 + b.length + (encL l).length), by rw [← hfr, List.take_append_drop]⟩
   have hA : A = 1 :: UInt8.ofNat (b.length / 16777216) :: UInt8.ofNat (b.length / 65536) :: UInt8.ofNat (b.length / 256) :: UInt8.ofNat b.length :: (b ++ (encL l ++ R)) := by
     rw [hR]; simp [enc1, be4]
   have hAl : A.length = 5 + b.length + ((encL l).length + R.length) := by rw [hA]; simp; omega
   cases f with
   | zero => omega
   | succ f =>
     have hl' : Lies (encL l ++ R) l := by
       refine ⟨by simp, by simp, fun h5 => ?_, fun x hx => h.small x (List.mem_cons_of_mem _ hx)⟩
       rw [List.length_append] at h5
       have h6 := hst (by rw [hAl]; omega)
       rw [hA] at h6
       have e : 5 + b.length + (encL l).length = (b.length + (encL l).length) + 5 := by omega
       rw [e] at h6
       simp only [List.getD_cons_succ] at h6
       rw [← h6]
       simp only [List.getD]
       rw [List.getElem?_append_right (by omega) (l₁ := b), show b.length + (encL l).length - b.length = (encL l).length by omega]
     have ih := parse_lies l f (encL l ++ R) (by rw [hAl] at hf; simp; omega) hl'
     rw [hA]
     unfold parse
     rw [if_neg (by decide), num4_be4 _ hsm, if_pos ⟨rfl, by simp⟩]
     have e1 : (b ++ (encL l ++ R)).drop b.length = encL l ++ R := by simp
     have e2 : (b ++ (encL l ++ R)).take b.length = b := by simp
     rw [e1, e2, ih]
     show some _ = some _
     rw [encL_cons, List.length_append, enc1_len]
theorem readT_lies {A : List UInt8} {l : List (List UInt8)} (h : Lies A l) : readT A = some (l, (encL l).length) := parse_lies l _ A (Nat.le_refl _) h
end
section
open Go
structure Tm where
 at_ : Nat
 len : Nat
 fin : Nat
 n : Nat
 dead : Nat
def chainS (x : Dk × Nat) (f : Dk → Dk × Nat) : Dk × Nat := if x.2 = 0 then f x.1 else x
def putS (q : Nat) (x : List UInt8) (d : Dk) : Dk × Nat := (putD d q x, putE d q x)
def syncS (d : Dk) : Dk × Nat := (syncD d, syncE d)
def appW (t : Tm) (b : List UInt8) : List UInt8 := be4 b.length ++ (b ++ if t.fin + 5 + b.length + 5 ≤ t.len then [0] else [])
def appS (d : Dk) (t : Tm) (b : List UInt8) : Dk × Nat := chainS (chainS (chainS (putS (t.at_ + t.fin + 1) (appW t b) d) syncS) (putS (t.at_ + t.fin) [1])) syncS
def appT (t : Tm) (b : List UInt8) (e : Nat) : Tm := if e = 0 then { t with fin := t.fin + 5 + b.length, n := t.n + 1 } else { t with dead := e }
def resS (d : Dk) (t : Tm) : Dk × Nat := chainS (putS t.at_ [0] d) syncS
def resT (t : Tm) (e : Nat) : Tm := if e = 0 then { t with fin := 0, n := 0 } else { t with dead := e }
def areaT (B : List UInt8) (at_ len : Nat) : List UInt8 := (B.drop at_).take len
def decA (a : Int) : Int := if 0 < a then a - 1 else a
theorem decA_nn {a : Int} (h : 0 ≤ decA a) : 0 ≤ a := by unfold decA at h; split at h <;> omega
theorem put_calm (B : List UInt8) (a : Int) (q : Nat) (x : List UInt8) (h : q + x.length ≤ B.length) :
   putS q x ⟨B, [], a, false⟩ = if a = 0 then (⟨B, [(q, x)], -1, true⟩, 13) else (⟨B, [(q, x)], decA a, false⟩, 0) := by
 have hb : badE ⟨B, [], a, false⟩ q x.length = 0 := by
   unfold badE
   rw [if_pos ⟨by omega, by omega, by show (q : Int) ≤ (B.length : Int); omega, by show (x.length : Int) ≤ (B.length : Int) - q; omega⟩]
   rfl
 unfold putS putD putE
 rw [if_pos hb, if_pos hb, Int.toNat_natCast]
 unfold stepD stepE decA
 by_cases h0 : a = 0
 · rw [if_pos h0, if_pos h0, if_pos h0]; rfl
 · rw [if_neg h0, if_neg h0, if_neg h0]
   by_cases h1 : 0 < a
   · rw [if_pos h1, if_pos h1]; rfl
   · rw [if_neg h1, if_neg h1]; rfl
theorem sync_one (B : List UInt8) (a : Int) (q : Nat) (x : List UInt8) :
   syncS ⟨B, [(q, x)], a, false⟩ = if a = 0 then (⟨B, [(q, x)], -1, true⟩, 13) else (⟨put1 B q x, [], decA a, false⟩, 0) := by
 by_cases h0 : a = 0
 · subst h0; rfl
 · have hE : stepE ⟨B, [(q, x)], a, false⟩ = 0 := if_neg h0
   rw [if_neg h0]
   unfold syncS syncD syncE
   simp only [hE, Bool.false_eq_true, if_false, if_true]
   unfold stepD decA
   rw [if_neg (show ¬ (⟨B, [(q, x)], a, false⟩ : Dk).armed = 0 from h0)]
   by_cases h1 : 0 < a
   · rw [if_pos h1, if_pos (show 0 < (⟨B, [(q, x)], a, false⟩ : Dk).armed from h1)]; rfl
   · rw [if_neg h1, if_neg (show ¬ 0 < (⟨B, [(q, x)], a, false⟩ : Dk).armed from h1)]; rfl
theorem kept_one (B : List UInt8) (q : Nat) (x : List UInt8) (keep : List Int) : ∃ k, nowL B (keptL [(q, x)] keep) = put1 B q (x.take k) := by
 unfold keptL
 have h := restK_le keep 0 ([(q, x)].length + 1) (by omega)
 generalize restK keep 0 ([(q, x)].length + 1) = m at h
 simp only [List.length_cons, List.length_nil] at h
 have hm : m = 0 ∨ m = 1 := by omega
 rcases hm with rfl | rfl
 · exact ⟨_, rfl⟩
 · exact ⟨x.length, by simp [nowL]⟩
theorem put1_nil (B : List UInt8) (q : Nat) : put1 B q [] = B := by simp [put1]
theorem area_len {B : List UInt8} {at_ len : Nat} (h : at_ + len ≤ B.length) : (areaT B at_ len).length = len := by
 unfold areaT; rw [List.length_take, List.length_drop]; omega
theorem area_get {B : List UInt8} {at_ len : Nat} (j : Nat) (h : j < len) (z : UInt8) : (areaT B at_ len).getD j z = B.getD (at_ + j) z := by
 unfold areaT
 simp only [List.getD, List.getElem?_take, List.getElem?_drop]
 rw [if_pos h]
theorem getD_ext' {a b : List UInt8} (hl : a.length = b.length) (h : ∀ j, j < a.length → a.getD j 0 = b.getD j 0) : a = b := by
 apply List.ext_getElem hl
 intro j h1 h2
 have := h j h1
 simpa [List.getD, List.getElem?_eq_getElem h1, List.getElem?_eq_getElem h2] using this
theorem area_put {B : List UInt8} {at_ len q : Nat} {x : List UInt8} (h : at_ + len ≤ B.length) (hq : q + x.length ≤ len) : areaT (put1 B (at_ + q) x) at_ len = put1 (areaT B at_ len) q x := by
 have hp : (put1 B (at_ + q) x).length = B.length := put1_len (by omega)
 have la := area_len h
 have lb : (areaT (put1 B (at_ + q) x) at_ len).length = len := area_len (by rw [hp]; exact h)
 have lc : (put1 (areaT B at_ len) q x).length = len := by rw [put1_len (by rw [la]; exact hq), la]
 refine getD_ext' (by rw [lb, lc]) fun j hj => ?_
 rw [lb] at hj
 rw [area_get j hj, put1_get (by omega), put1_get (by rw [la]; exact hq), area_get j hj]
 by_cases h1 : q ≤ j ∧ j < q + x.length
 · rw [if_pos h1, if_pos (by omega), show at_ + j - (at_ + q) = j - q by omega]
 · rw [if_neg h1, if_neg (by omega)]
theorem lies_same {A A' : List UInt8} {l : List (List UInt8)} (h : Lies A l) (hl : A'.length = A.length) (hs : ∀ j, j ≤ (encL l).length → j < A.length → A'.getD j 0 = A.getD j 0) : Lies A' l := by
 refine ⟨by rw [hl]; exact h.fits, ?_, fun h5 => ?_, h.small⟩
 · refine Eq.trans ?_ h.front
   have hf := h.fits
   refine getD_ext' (by rw [List.length_take, List.length_take]; omega) fun j hj => ?_
   rw [List.length_take] at hj
   have := hs j (by omega) (by omega)
   simp only [List.getD, List.getElem?_take] at this ⊢
   rw [if_pos (by omega), if_pos (by omega)]
   exact this
 · have h6 := h.stop (by omega)
   have h7 := hs (encL l).length (Nat.le_refl _) (by omega)
   have e1 : A'.getD (encL l).length 1 = A'.getD (encL l).length 0 := by simp [List.getD, List.getElem?_eq_getElem (show (encL l).length < A'.length by omega)]
   have e2 : A.getD (encL l).length 1 = A.getD (encL l).length 0 := by simp [List.getD, List.getElem?_eq_getElem (show (encL l).length < A.length by omega)]
   rw [e1, h7, ← e2]
   exact h6
theorem lies_behind {A x : List UInt8} {l : List (List UInt8)} (h : Lies A l) (hx : (encL l).length + 1 + x.length ≤ A.length) : Lies (put1 A ((encL l).length + 1) x) l := by
 refine lies_same h (put1_len hx) fun j hj _ => ?_
 rw [put1_get hx, if_neg (by omega)]
theorem lies_more {A : List UInt8} {l : List (List UInt8)} {b z : List UInt8} (h : Lies A l) (hb : (encL l).length + 5 + b.length ≤ A.length) (hs : b.length < 4294967296) (hz : if (encL l).length + 5 + b.length + 5 ≤ A.length then z = [0] else z = []) :
   Lies (put1 (put1 A ((encL l).length + 1) (be4 b.length ++ (b ++ z))) (encL l).length [1]) (l ++ [b]) ∧ put1 (put1 A ((encL l).length + 1) (be4 b.length ++ (b ++ z))) (encL l).length [1] = encL (l ++ [b]) ++ (z ++ A.drop ((encL l).length + 5 + b.length + z.length)) := by
 have hzl : z.length ≤ 1 ∧ ((encL l).length + 5 + b.length + z.length ≤ A.length) := by
   by_cases h5 : (encL l).length + 5 + b.length + 5 ≤ A.length
   · rw [if_pos h5] at hz; subst hz; exact ⟨by simp, by simp; omega⟩
   · rw [if_neg h5] at hz; subst hz; exact ⟨by simp, by simp; omega⟩
 have hbe : (be4 b.length).length = 4 := rfl
 have hE : encL (l ++ [b]) = encL l ++ (1 :: (be4 b.length ++ b)) := by rw [encL_append, encL_one]; rfl
 have hEl : (encL (l ++ [b])).length = (encL l).length + 5 + b.length := by rw [encL_append, encL_one, List.length_append, enc1_len]; omega
 have hF : put1 (put1 A ((encL l).length + 1) (be4 b.length ++ (b ++ z))) (encL l).length [1] = encL (l ++ [b]) ++ (z ++ A.drop ((encL l).length + 5 + b.length + z.length)) := by
   have hw : (encL l).length + 1 + (be4 b.length ++ (b ++ z)).length ≤ A.length := by simp only [List.length_append, hbe]; omega
   have l1 : (put1 A ((encL l).length + 1) (be4 b.length ++ (b ++ z))).length = A.length := put1_len hw
   have e1 : (put1 A ((encL l).length + 1) (be4 b.length ++ (b ++ z))).take (encL l).length = encL l := by
     unfold put1
     rw [List.append_assoc, List.take_append_of_le_length (by rw [List.length_take]; omega), List.take_take, Nat.min_eq_left (by omega), h.front]
   have e2 : (put1 A ((encL l).length + 1) (be4 b.length ++ (b ++ z))).drop ((encL l).length + 1) = (be4 b.length ++ (b ++ z)) ++ A.drop ((encL l).length + 1 + (be4 b.length ++ (b ++ z)).length) := by
     unfold put1
     have : (A.take ((encL l).length + 1)).length = (encL l).length + 1 := by rw [List.length_take]; omega
     rw [List.append_assoc]
     exact List.drop_left' this
   have e3 : put1 (put1 A ((encL l).length + 1) (be4 b.length ++ (b ++ z))) (encL l).length [1] = encL l ++ [1] ++ ((be4 b.length ++ (b ++ z)) ++ A.drop ((encL l).length + 1 + (be4 b.length ++ (b ++ z)).length)) := by
     rw [put1.eq_1, e1]
     show encL l ++ [1] ++ List.drop ((encL l).length + 1) _ = _
     rw [e2]
   rw [e3, hE, show (encL l).length + 1 + (be4 b.length ++ (b ++ z)).length = (encL l).length + 5 + b.length + z.length by simp only [List.length_append, hbe]; omega]
   simp
 refine ⟨?_, hF⟩
 rw [hF]
 have hAl : (encL (l ++ [b]) ++ (z ++ A.drop ((encL l).length + 5 + b.length + z.length))).length = A.length := by
   simp only [List.length_append, hEl, List.length_drop]; omega
 refine ⟨by rw [hAl, hEl]; omega, by rw [List.take_left], fun h5 => ?_, fun x hx => ?_⟩
 · rw [hAl, hEl] at h5
   rw [if_pos (by omega)] at hz
   subst hz
   simp [List.getD]
 · rcases List.mem_append.1 hx with hx | hx
   · exact h.small x hx
   · rw [List.mem_singleton.1 hx]; exact hs
theorem lies_none {A : List UInt8} : Lies (put1 A 0 [0]) [] := by
 refine ⟨by simp [encL], by simp [encL], fun _ => by simp [encL, put1], fun b hb => by cases hb⟩
structure TState (d : Dk) (t : Tm) (l : List (List UInt8)) : Prop where
 on : d.off = false
 calm : d.L = []
 inside : t.at_ + t.len ≤ d.B.length
 five : 5 ≤ t.len
 lies : Lies (areaT d.B t.at_ t.len) l
 fin : t.fin = (encL l).length
 num : t.n = l.length
 alive : t.dead = 0
theorem TState.form {d : Dk} {t : Tm} {l : List (List UInt8)} (h : TState d t l) : d = ⟨d.B, [], d.armed, false⟩ := by
 cases d
 have h1 := h.on
 have h2 := h.calm
 simp only at h1 h2
 subst h1; subst h2
 rfl
theorem appW_len (t : Tm) (b : List UInt8) (h : t.fin + 5 + b.length ≤ t.len) : t.fin + 1 + (appW t b).length ≤ t.len := by
 unfold appW
 have hbe : (be4 b.length).length = 4 := rfl
 by_cases h5 : t.fin + 5 + b.length + 5 ≤ t.len
 · rw [if_pos h5]; simp only [List.length_append, hbe, List.length_cons, List.length_nil]; omega
 · rw [if_neg h5]; simp only [List.length_append, hbe, List.length_nil]; omega
theorem append_steps {d : Dk} {t : Tm} {l : List (List UInt8)} {b : List UInt8} (h : TState d t l) (hb : t.fin + 5 + b.length ≤ t.len) (hs : b.length < 4294967296) :
   ((appS d t b).2 = 0 ∧ TState (appS d t b).1 (appT t b 0) (l ++ [b]) ∧ areaT (appS d t b).1.B t.at_ t.len = put1 (put1 (areaT d.B t.at_ t.len) (t.fin + 1) (appW t b)) t.fin [1] ∧ (appS d t b).1.B.length = d.B.length ∧ (∀ j, ¬ (t.at_ ≤ j ∧ j < t.at_ + t.len) → (appS d t b).1.B.getD j 0 = d.B.getD j 0)) ∨
   ((appS d t b).2 = 13 ∧ (appS d t b).1.off = true ∧ 0 ≤ d.armed ∧ ∀ keep, (startD (appS d t b).1 keep).B.length = d.B.length ∧ (Lies (areaT (startD (appS d t b).1 keep).B t.at_ t.len) l ∨ Lies (areaT (startD (appS d t b).1 keep).B t.at_ t.len) (l ++ [b]))) := by
 have hl := appW_len t b hb
 have hin := h.inside
 have hA := area_len hin
 have hfin := h.fin
 have hm := lies_more (z := if t.fin + 5 + b.length + 5 ≤ t.len then [0] else []) h.lies (by rw [← hfin, hA]; exact hb) hs (by rw [← hfin, hA]; by_cases h5 : t.fin + 5 + b.length + 5 ≤ t.len <;> simp [h5])
 rw [← hfin] at hm
 have hW : (be4 b.length ++ (b ++ if t.fin + 5 + b.length + 5 ≤ t.len then [0] else [])) = appW t b := rfl
 rw [hW] at hm
 have l1 : (put1 d.B (t.at_ + t.fin + 1) (appW t b)).length = d.B.length := put1_len (by omega)
 have l2 : (put1 (put1 d.B (t.at_ + t.fin + 1) (appW t b)) (t.at_ + t.fin) [1]).length = d.B.length := by rw [put1_len (by rw [l1]; simp; omega), l1]
 have a1 : ∀ x : List UInt8, t.fin + 1 + x.length ≤ t.len → areaT (put1 d.B (t.at_ + t.fin + 1) x) t.at_ t.len = put1 (areaT d.B t.at_ t.len) (t.fin + 1) x := fun x hx => by
   rw [Nat.add_assoc]; exact area_put hin hx
 have a2 : ∀ x : List UInt8, t.fin + x.length ≤ t.len → areaT (put1 (put1 d.B (t.at_ + t.fin + 1) (appW t b)) (t.at_ + t.fin) x) t.at_ t.len = put1 (put1 (areaT d.B t.at_ t.len) (t.fin + 1) (appW t b)) t.fin x := fun x hx => by
   rw [area_put (by rw [l1]; exact hin) hx, a1 _ hl]
 have b1 : Lies (put1 (areaT d.B t.at_ t.len) (t.fin + 1) (appW t b)) l := by rw [hfin]; exact lies_behind h.lies (by rw [← hfin, hA]; exact hl)
 have c1 : ∀ keep, ((nowL d.B (keptL [(t.at_ + t.fin + 1, appW t b)] keep)).length = d.B.length) ∧ Lies (areaT (nowL d.B (keptL [(t.at_ + t.fin + 1, appW t b)] keep)) t.at_ t.len) l := fun keep => by
   obtain ⟨k, hk⟩ := kept_one d.B (t.at_ + t.fin + 1) (appW t b) keep
   have hlk : ((appW t b).take k).length ≤ (appW t b).length := by rw [List.length_take]; omega
   rw [hk]
   refine ⟨put1_len (by omega), ?_⟩
   rw [a1 _ (by omega), hfin]
   exact lies_behind h.lies (by rw [← hfin, hA]; omega)
 have c2 : ∀ keep, ((nowL (put1 d.B (t.at_ + t.fin + 1) (appW t b)) (keptL [(t.at_ + t.fin, [1])] keep)).length = d.B.length) ∧ (Lies (areaT (nowL (put1 d.B (t.at_ + t.fin + 1) (appW t b)) (keptL [(t.at_ + t.fin, [1])] keep)) t.at_ t.len) l ∨ Lies (areaT (nowL (put1 d.B (t.at_ + t.fin + 1) (appW t b)) (keptL [(t.at_ + t.fin, [1])] keep)) t.at_ t.len) (l ++ [b])) := fun keep => by
   obtain ⟨k, hk⟩ := kept_one (put1 d.B (t.at_ + t.fin + 1) (appW t b)) (t.at_ + t.fin) [1] keep
   rw [hk]
   cases k with
   | zero =>
     refine ⟨by rw [List.take_zero, put1_nil, l1], Or.inl ?_⟩
     rw [List.take_zero, put1_nil, a1 _ hl]
     exact b1
   | succ k =>
     refine ⟨by rw [List.take_of_length_le (by simp)]; exact l2, Or.inr ?_⟩
     rw [List.take_of_length_le (by simp), a2 _ (by simp; omega)]
     exact hm.1
 have hf := h.form
 obtain ⟨a, ha⟩ : ∃ a, a = d.armed := ⟨_, rfl⟩
 have hS : appS d t b = chainS (chainS (chainS (putS (t.at_ + t.fin + 1) (appW t b) ⟨d.B, [], a, false⟩) syncS) (putS (t.at_ + t.fin) [1])) syncS := by
   unfold appS; rw [ha, ← hf]
 rw [put_calm _ _ _ _ (by omega)] at hS
 rw [← ha]
 by_cases h0 : a = 0
 · rw [if_pos h0] at hS
   have e : appS d t b = (⟨d.B, [(t.at_ + t.fin + 1, appW t b)], -1, true⟩, 13) := hS
   rw [e]
   exact Or.inr ⟨rfl, rfl, by omega, fun keep => ⟨(c1 keep).1, Or.inl (c1 keep).2⟩⟩
 rw [if_neg h0] at hS
 have hS : appS d t b = chainS (chainS (syncS ⟨d.B, [(t.at_ + t.fin + 1, appW t b)], decA a, false⟩) (putS (t.at_ + t.fin) [1])) syncS := hS
 rw [sync_one] at hS
 by_cases h1 : decA a = 0
 · rw [if_pos h1] at hS
   have e : appS d t b = (⟨d.B, [(t.at_ + t.fin + 1, appW t b)], -1, true⟩, 13) := hS
   rw [e]
   exact Or.inr ⟨rfl, rfl, by unfold decA at h1; split at h1 <;> omega, fun keep => ⟨(c1 keep).1, Or.inl (c1 keep).2⟩⟩
 rw [if_neg h1] at hS
 have hS : appS d t b = chainS (putS (t.at_ + t.fin) [1] ⟨put1 d.B (t.at_ + t.fin + 1) (appW t b), [], decA (decA a), false⟩) syncS := hS
 rw [put_calm _ _ _ _ (by rw [l1]; simp; omega)] at hS
 by_cases h2 : decA (decA a) = 0
 · rw [if_pos h2] at hS
   have e : appS d t b = (⟨put1 d.B (t.at_ + t.fin + 1) (appW t b), [(t.at_ + t.fin, [1])], -1, true⟩, 13) := hS
   rw [e]
   exact Or.inr ⟨rfl, rfl, decA_nn (decA_nn (by omega)), fun keep => c2 keep⟩
 rw [if_neg h2] at hS
 have hS : appS d t b = syncS ⟨put1 d.B (t.at_ + t.fin + 1) (appW t b), [(t.at_ + t.fin, [1])], decA (decA (decA a)), false⟩ := hS
 rw [sync_one] at hS
 by_cases h3 : decA (decA (decA a)) = 0
 · rw [if_pos h3] at hS
   rw [hS]
   exact Or.inr ⟨rfl, rfl, decA_nn (decA_nn (decA_nn (by omega))), fun keep => c2 keep⟩
 rw [if_neg h3] at hS
 rw [hS]
 refine Or.inl ⟨rfl, ⟨rfl, rfl, ?_, h.five, ?_, ?_, ?_, h.alive⟩, a2 _ (by simp; omega), l2, fun j hj => ?_⟩
 · show t.at_ + t.len ≤ (put1 (put1 d.B (t.at_ + t.fin + 1) (appW t b)) (t.at_ + t.fin) [1]).length
   rw [l2]; exact hin
 · show Lies (areaT (put1 (put1 d.B (t.at_ + t.fin + 1) (appW t b)) (t.at_ + t.fin) [1]) t.at_ t.len) (l ++ [b])
   rw [a2 _ (by simp; omega)]
   exact hm.1
 · show t.fin + 5 + b.length = _
   rw [encL_append, encL_one, List.length_append, enc1_len, hfin]; omega
 · show t.n + 1 = _
   rw [List.length_append, h.num]; rfl
 · show (put1 (put1 d.B (t.at_ + t.fin + 1) (appW t b)) (t.at_ + t.fin) [1]).getD j 0 = _
   rw [put1_get (by rw [l1]; simp; omega), if_neg (by simp; omega), put1_get (by omega), if_neg (by omega)]
theorem reset_steps {d : Dk} {t : Tm} {l : List (List UInt8)} (h : TState d t l) :
   ((resS d t).2 = 0 ∧ TState (resS d t).1 (resT t 0) [] ∧ areaT (resS d t).1.B t.at_ t.len = put1 (areaT d.B t.at_ t.len) 0 [0] ∧ (resS d t).1.B.length = d.B.length ∧ (∀ j, ¬ (t.at_ ≤ j ∧ j < t.at_ + t.len) → (resS d t).1.B.getD j 0 = d.B.getD j 0)) ∨
   ((resS d t).2 = 13 ∧ (resS d t).1.off = true ∧ 0 ≤ d.armed ∧ ∀ keep, (startD (resS d t).1 keep).B.length = d.B.length ∧ (Lies (areaT (startD (resS d t).1 keep).B t.at_ t.len) l ∨ Lies (areaT (startD (resS d t).1 keep).B t.at_ t.len) [])) := by
 have hin := h.inside
 have h5 := h.five
 have hA := area_len hin
 have l1 : (put1 d.B t.at_ [0]).length = d.B.length := put1_len (by simp; omega)
 have a1 : areaT (put1 d.B t.at_ [0]) t.at_ t.len = put1 (areaT d.B t.at_ t.len) 0 [0] := area_put (q := 0) hin (by simp; omega)
 have b1 : Lies (put1 (areaT d.B t.at_ t.len) 0 [0]) [] := lies_none
 have c2 : ∀ keep, ((nowL d.B (keptL [(t.at_, [0])] keep)).length = d.B.length) ∧ (Lies (areaT (nowL d.B (keptL [(t.at_, [0])] keep)) t.at_ t.len) l ∨ Lies (areaT (nowL d.B (keptL [(t.at_, [0])] keep)) t.at_ t.len) []) := fun keep => by
   obtain ⟨k, hk⟩ := kept_one d.B t.at_ [0] keep
   rw [hk]
   cases k with
   | zero =>
     rw [List.take_zero, put1_nil]
     exact ⟨rfl, Or.inl h.lies⟩
   | succ k =>
     rw [List.take_of_length_le (by simp), a1]
     exact ⟨l1, Or.inr b1⟩
 have hf := h.form
 obtain ⟨a, ha⟩ : ∃ a, a = d.armed := ⟨_, rfl⟩
 have hS : resS d t = chainS (putS t.at_ [0] ⟨d.B, [], a, false⟩) syncS := by unfold resS; rw [ha, ← hf]
 rw [put_calm _ _ _ _ (by simp; omega)] at hS
 rw [← ha]
 by_cases h0 : a = 0
 · rw [if_pos h0] at hS
   have e : resS d t = (⟨d.B, [(t.at_, [0])], -1, true⟩, 13) := hS
   rw [e]
   exact Or.inr ⟨rfl, rfl, by omega, fun keep => c2 keep⟩
 rw [if_neg h0] at hS
 have hS : resS d t = syncS ⟨d.B, [(t.at_, [0])], decA a, false⟩ := hS
 rw [sync_one] at hS
 by_cases h1 : decA a = 0
 · rw [if_pos h1] at hS
   rw [hS]
   exact Or.inr ⟨rfl, rfl, by unfold decA at h1; split at h1 <;> omega, fun keep => c2 keep⟩
 rw [if_neg h1] at hS
 rw [hS]
 refine Or.inl ⟨rfl, ⟨rfl, rfl, by show _ ≤ (put1 d.B t.at_ [0]).length; rw [l1]; exact hin, h5, by show Lies (areaT (put1 d.B t.at_ [0]) t.at_ t.len) []; rw [a1]; exact b1, rfl, rfl, h.alive⟩, a1, l1, fun j hj => ?_⟩
 show (put1 d.B t.at_ [0]).getD j 0 = _
 rw [put1_get (by simp; omega), if_neg (by simp; omega)]
def openT (at_ len : Nat) (l : List (List UInt8)) : Tm := ⟨at_, len, (encL l).length, l.length, 0⟩
end
section
open Go
def numL (l : List UInt8) : Nat := l.foldl (fun n c => n * 256 + c.toNat) 0
theorem numL_snoc (l : List UInt8) (c : UInt8) : numL (l ++ [c]) = numL l * 256 + c.toNat := by simp [numL]
theorem numL_four (a b c e : UInt8) : numL [a, b, c, e] = num4 a b c e := by
 simp only [numL, List.foldl_cons, List.foldl_nil, num4]
 omega
theorem readT_short {A : List UInt8} (h : A.length < 5) : readT A = some ([], 0) := parse_short _ A h
theorem five_of {A : List UInt8} (h : 5 ≤ A.length) : ∃ m a b c e r, A = m :: a :: b :: c :: e :: r := by
 rcases A with _ | ⟨m, _ | ⟨a, _ | ⟨b, _ | ⟨c, _ | ⟨e, r⟩⟩⟩⟩⟩ <;> first | (simp at h; done) | exact ⟨_, _, _, _, _, _, rfl⟩
theorem readT_zero {A : List UInt8} (h : 5 ≤ A.length) (h0 : A.getD 0 0 = 0) : readT A = some ([], 0) := by
 obtain ⟨m, a, b, c, e, r, rfl⟩ := five_of h
 have hm : m = 0 := h0
 unfold readT
 show parse (r.length + 4 + 1) _ = _
 unfold parse
 rw [if_pos hm]
theorem head_num {m a b c e : UInt8} {r : List UInt8} : numL (((m :: a :: b :: c :: e :: r).drop 1).take 4) = num4 a b c e := by
 show numL [a, b, c, e] = _
 exact numL_four a b c e
theorem readT_bad {A : List UInt8} (h : 5 ≤ A.length) (h0 : A.getD 0 0 ≠ 0) (h1 : ¬ (A.getD 0 0 = 1 ∧ numL ((A.drop 1).take 4) + 5 ≤ A.length)) : readT A = none := by
 obtain ⟨m, a, b, c, e, r, rfl⟩ := five_of h
 have hm : ¬ m = 0 := h0
 rw [head_num] at h1
 generalize hn : num4 a b c e = n at h1
 have h2 : ¬ (m = 1 ∧ num4 a b c e ≤ r.length) := fun hx => h1 ⟨hx.1, by rw [← hn]; have := hx.2; simp only [List.length_cons]; omega⟩
 unfold readT
 show parse (r.length + 4 + 1) _ = _
 unfold parse
 rw [if_neg hm, if_neg h2]
theorem readT_rec {A : List UInt8} {n : Nat} (h : 5 ≤ A.length) (h0 : A.getD 0 0 = 1) (hn : numL ((A.drop 1).take 4) = n) (h1 : n + 5 ≤ A.length) :
   readT A = (readT (A.drop (5 + n))).map fun x => ((A.drop 5).take n :: x.1, 5 + n + x.2) := by
 obtain ⟨m, a, b, c, e, r, rfl⟩ := five_of h
 have hm : m = 1 := h0
 rw [head_num] at hn
 simp only [List.length_cons] at h1
 have e1 : (m :: a :: b :: c :: e :: r).drop (5 + n) = r.drop n := by
   rw [Nat.add_comm]; rfl
 have e2 : (m :: a :: b :: c :: e :: r).drop 5 = r := rfl
 rw [e1, e2]
 unfold readT
 show parse (r.length + 4 + 1) _ = _
 rw [parse]
 rw [if_neg (by rw [hm]; decide), hn, if_pos ⟨hm, by omega⟩]
 rw [parse_fuel (r.length + 4) (r.drop n).length (r.drop n) (by rw [List.length_drop]; omega) (Nat.le_refl _)]
def Sofar (A : List UInt8) (l : List (List UInt8)) (u : Nat) : Prop := u ≤ A.length ∧ readT A = (readT (A.drop u)).map fun x => (l ++ x.1, u + x.2)
theorem sofar_start (A : List UInt8) : Sofar A [] 0 := ⟨Nat.zero_le _, by
 rw [List.drop_zero]
 cases readT A with
 | none => rfl
 | some x => simp⟩
theorem drop_head (A : List UInt8) (u : Nat) : (A.drop u).getD 0 0 = A.getD u 0 := by simp [List.getD]
theorem sofar_short {A : List UInt8} {l : List (List UInt8)} {u : Nat} (h : Sofar A l u) (h5 : A.length - u < 5) : readT A = some (l, u) := by
 rw [h.2, readT_short (by rw [List.length_drop]; exact h5)]
 simp
theorem sofar_zero {A : List UInt8} {l : List (List UInt8)} {u : Nat} (h : Sofar A l u) (h5 : 5 ≤ A.length - u) (h0 : A.getD u 0 = 0) : readT A = some (l, u) := by
 rw [h.2, readT_zero (by rw [List.length_drop]; exact h5) (by rw [drop_head]; exact h0)]
 simp
theorem sofar_bad {A : List UInt8} {l : List (List UInt8)} {u : Nat} (h : Sofar A l u) (h5 : 5 ≤ A.length - u) (h0 : A.getD u 0 ≠ 0) (h1 : ¬ (A.getD u 0 = 1 ∧ numL ((A.drop (u + 1)).take 4) + 5 ≤ A.length - u)) : readT A = none := by
 rw [h.2, readT_bad (by rw [List.length_drop]; exact h5) (by rw [drop_head]; exact h0) (by rw [drop_head, List.drop_drop, List.length_drop]; exact h1)]
 rfl
theorem sofar_rec {A : List UInt8} {l : List (List UInt8)} {u n : Nat} (h : Sofar A l u) (h5 : 5 ≤ A.length - u) (h0 : A.getD u 0 = 1) (hn : numL ((A.drop (u + 1)).take 4) = n) (h1 : n + 5 ≤ A.length - u) :
   Sofar A (l ++ [(A.drop (u + 5)).take n]) (u + (5 + n)) := by
 refine ⟨by omega, ?_⟩
 rw [h.2, readT_rec (n := n) (by rw [List.length_drop]; exact h5) (by rw [drop_head]; exact h0) (by rw [List.drop_drop]; exact hn) (by rw [List.length_drop]; exact h1)]
 rw [List.drop_drop, List.drop_drop]
 cases readT (A.drop (u + (5 + n))) with
 | none => rfl
 | some x => simp [Nat.add_assoc]
end
end Go.Proofs.YtncaefocijainaaGreatDoor.pk
