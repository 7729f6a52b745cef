/-
  Plain mathematics of a tape over a disk: what Append and Reset do, and what is left when the power goes.
-/
import Derived.Test.YthcikgbnenfjpaaDoorPureT
namespace Go.Proofs.YthcikgbnenfjpaaDoor.pk
open Go

/-- A tape: its area, where the next record begins, how many there are, the error that it is dead by. -/
structure Tm where
  at_ : Nat
  len : Nat
  fin : Nat
  n : Nat
  dead : Nat
def roomT (t : Tm) : Int := if t.fin + 5 ≤ t.len then (t.len : Int) - t.fin - 5 else -1

def chainS (x : Dk × Nat) (f : Dk → Dk × Nat) : Dk × Nat := if x.2 = 0 then f x.1 else x
def putS (q : Nat) (x : List UInt8) (d : Dk) : Dk × Nat := (putD d q x, putE d q x)
def syncS (d : Dk) : Dk × Nat := (syncD d, syncE d)
def appW (t : Tm) (b : List UInt8) : List UInt8 := be4 b.length ++ (b ++ if t.fin + 5 + b.length + 5 ≤ t.len then [0] else [])
def appS (d : Dk) (t : Tm) (b : List UInt8) : Dk × Nat := chainS (chainS (chainS (putS (t.at_ + t.fin + 1) (appW t b) d) syncS) (putS (t.at_ + t.fin) [1])) syncS
def appT (t : Tm) (b : List UInt8) (e : Nat) : Tm := if e = 0 then { t with fin := t.fin + 5 + b.length, n := t.n + 1 } else { t with dead := e }
def resS (d : Dk) (t : Tm) : Dk × Nat := chainS (putS t.at_ [0] d) syncS
def resT (t : Tm) (e : Nat) : Tm := if e = 0 then { t with fin := 0, n := 0 } else { t with dead := e }
def areaT (B : List UInt8) (at_ len : Nat) : List UInt8 := (B.drop at_).take len

def decA (a : Int) : Int := if 0 < a then a - 1 else a
theorem decA_nn {a : Int} (h : 0 ≤ decA a) : 0 ≤ a := by unfold decA at h; split at h <;> omega
theorem put_calm (B : List UInt8) (a : Int) (q : Nat) (x : List UInt8) (h : q + x.length ≤ B.length) :
    putS q x ⟨B, [], a, false⟩ = if a = 0 then (⟨B, [(q, x)], -1, true⟩, 13) else (⟨B, [(q, x)], decA a, false⟩, 0) := by
  have hb : badE ⟨B, [], a, false⟩ q x.length = 0 := by
    unfold badE
    rw [if_pos ⟨by omega, by omega, by show (q : Int) ≤ (B.length : Int); omega, by show (x.length : Int) ≤ (B.length : Int) - q; omega⟩]
    rfl
  unfold putS putD putE
  rw [if_pos hb, if_pos hb, Int.toNat_natCast]
  unfold stepD stepE decA
  by_cases h0 : a = 0
  · rw [if_pos h0, if_pos h0, if_pos h0]; rfl
  · rw [if_neg h0, if_neg h0, if_neg h0]
    by_cases h1 : 0 < a
    · rw [if_pos h1, if_pos h1]; rfl
    · rw [if_neg h1, if_neg h1]; rfl
theorem sync_one (B : List UInt8) (a : Int) (q : Nat) (x : List UInt8) :
    syncS ⟨B, [(q, x)], a, false⟩ = if a = 0 then (⟨B, [(q, x)], -1, true⟩, 13) else (⟨put1 B q x, [], decA a, false⟩, 0) := by
  by_cases h0 : a = 0
  · subst h0; rfl
  · have hE : stepE ⟨B, [(q, x)], a, false⟩ = 0 := if_neg h0
    rw [if_neg h0]
    unfold syncS syncD syncE
    simp only [hE, Bool.false_eq_true, if_false, if_true]
    unfold stepD decA
    rw [if_neg (show ¬ (⟨B, [(q, x)], a, false⟩ : Dk).armed = 0 from h0)]
    by_cases h1 : 0 < a
    · rw [if_pos h1, if_pos (show 0 < (⟨B, [(q, x)], a, false⟩ : Dk).armed from h1)]; rfl
    · rw [if_neg h1, if_neg (show ¬ 0 < (⟨B, [(q, x)], a, false⟩ : Dk).armed from h1)]; rfl
/-- What is kept of one write: a begin of it. -/
theorem kept_one (B : List UInt8) (q : Nat) (x : List UInt8) (keep : List Int) : ∃ k, nowL B (keptL [(q, x)] keep) = put1 B q (x.take k) := by
  unfold keptL
  have h := restK_le keep 0 ([(q, x)].length + 1) (by omega)
  generalize restK keep 0 ([(q, x)].length + 1) = m at h
  simp only [List.length_cons, List.length_nil] at h
  have hm : m = 0 ∨ m = 1 := by omega
  rcases hm with rfl | rfl
  · exact ⟨_, rfl⟩
  · exact ⟨x.length, by simp [nowL]⟩

theorem put1_nil (B : List UInt8) (q : Nat) : put1 B q [] = B := by simp [put1]
theorem area_len {B : List UInt8} {at_ len : Nat} (h : at_ + len ≤ B.length) : (areaT B at_ len).length = len := by
  unfold areaT; rw [List.length_take, List.length_drop]; omega
theorem area_get {B : List UInt8} {at_ len : Nat} (j : Nat) (h : j < len) (z : UInt8) : (areaT B at_ len).getD j z = B.getD (at_ + j) z := by
  unfold areaT
  simp only [List.getD, List.getElem?_take, List.getElem?_drop]
  rw [if_pos h]
theorem getD_ext' {a b : List UInt8} (hl : a.length = b.length) (h : ∀ j, j < a.length → a.getD j 0 = b.getD j 0) : a = b := by
  apply List.ext_getElem hl
  intro j h1 h2
  have := h j h1
  simpa [List.getD, List.getElem?_eq_getElem h1, List.getElem?_eq_getElem h2] using this
/-- What is written within an area is written of the area. -/
theorem area_put {B : List UInt8} {at_ len q : Nat} {x : List UInt8} (h : at_ + len ≤ B.length) (hq : q + x.length ≤ len) : areaT (put1 B (at_ + q) x) at_ len = put1 (areaT B at_ len) q x := by
  have hp : (put1 B (at_ + q) x).length = B.length := put1_len (by omega)
  have la := area_len h
  have lb : (areaT (put1 B (at_ + q) x) at_ len).length = len := area_len (by rw [hp]; exact h)
  have lc : (put1 (areaT B at_ len) q x).length = len := by rw [put1_len (by rw [la]; exact hq), la]
  refine getD_ext' (by rw [lb, lc]) fun j hj => ?_
  rw [lb] at hj
  rw [area_get j hj, put1_get (by omega), put1_get (by rw [la]; exact hq), area_get j hj]
  by_cases h1 : q ≤ j ∧ j < q + x.length
  · rw [if_pos h1, if_pos (by omega), show at_ + j - (at_ + q) = j - q by omega]
  · rw [if_neg h1, if_neg (by omega)]
/-- Bytes behind the mark count for nothing. -/
theorem lies_same {A A' : List UInt8} {l : List (List UInt8)} (h : Lies A l) (hl : A'.length = A.length) (hs : ∀ j, j ≤ (encL l).length → j < A.length → A'.getD j 0 = A.getD j 0) : Lies A' l := by
  refine ⟨by rw [hl]; exact h.fits, ?_, fun h5 => ?_, h.small⟩
  · refine Eq.trans ?_ h.front
    have hf := h.fits
    refine getD_ext' (by rw [List.length_take, List.length_take]; omega) fun j hj => ?_
    rw [List.length_take] at hj
    have := hs j (by omega) (by omega)
    simp only [List.getD, List.getElem?_take] at this ⊢
    rw [if_pos (by omega), if_pos (by omega)]
    exact this
  · have h6 := h.stop (by omega)
    have h7 := hs (encL l).length (Nat.le_refl _) (by omega)
    have e1 : A'.getD (encL l).length 1 = A'.getD (encL l).length 0 := by simp [List.getD, List.getElem?_eq_getElem (show (encL l).length < A'.length by omega)]
    have e2 : A.getD (encL l).length 1 = A.getD (encL l).length 0 := by simp [List.getD, List.getElem?_eq_getElem (show (encL l).length < A.length by omega)]
    rw [e1, h7, ← e2]
    exact h6
theorem lies_behind {A x : List UInt8} {l : List (List UInt8)} (h : Lies A l) (hx : (encL l).length + 1 + x.length ≤ A.length) : Lies (put1 A ((encL l).length + 1) x) l := by
  refine lies_same h (put1_len hx) fun j hj _ => ?_
  rw [put1_get hx, if_neg (by omega)]
/-- A record more. -/
theorem lies_more {A : List UInt8} {l : List (List UInt8)} {b z : List UInt8} (h : Lies A l) (hb : (encL l).length + 5 + b.length ≤ A.length) (hs : b.length < 4294967296) (hz : if (encL l).length + 5 + b.length + 5 ≤ A.length then z = [0] else z = []) :
    Lies (put1 (put1 A ((encL l).length + 1) (be4 b.length ++ (b ++ z))) (encL l).length [1]) (l ++ [b]) ∧ put1 (put1 A ((encL l).length + 1) (be4 b.length ++ (b ++ z))) (encL l).length [1] = encL (l ++ [b]) ++ (z ++ A.drop ((encL l).length + 5 + b.length + z.length)) := by
  have hzl : z.length ≤ 1 ∧ ((encL l).length + 5 + b.length + z.length ≤ A.length) := by
    by_cases h5 : (encL l).length + 5 + b.length + 5 ≤ A.length
    · rw [if_pos h5] at hz; subst hz; exact ⟨by simp, by simp; omega⟩
    · rw [if_neg h5] at hz; subst hz; exact ⟨by simp, by simp; omega⟩
  have hbe : (be4 b.length).length = 4 := rfl
  have hE : encL (l ++ [b]) = encL l ++ (1 :: (be4 b.length ++ b)) := by rw [encL_append, encL_one]; rfl
  have hEl : (encL (l ++ [b])).length = (encL l).length + 5 + b.length := by rw [encL_append, encL_one, List.length_append, enc1_len]; omega
  have hF : put1 (put1 A ((encL l).length + 1) (be4 b.length ++ (b ++ z))) (encL l).length [1] = encL (l ++ [b]) ++ (z ++ A.drop ((encL l).length + 5 + b.length + z.length)) := by
    have hw : (encL l).length + 1 + (be4 b.length ++ (b ++ z)).length ≤ A.length := by simp only [List.length_append, hbe]; omega
    have l1 : (put1 A ((encL l).length + 1) (be4 b.length ++ (b ++ z))).length = A.length := put1_len hw
    have e1 : (put1 A ((encL l).length + 1) (be4 b.length ++ (b ++ z))).take (encL l).length = encL l := by
      unfold put1
      rw [List.append_assoc, List.take_append_of_le_length (by rw [List.length_take]; omega), List.take_take, Nat.min_eq_left (by omega), h.front]
    have e2 : (put1 A ((encL l).length + 1) (be4 b.length ++ (b ++ z))).drop ((encL l).length + 1) = (be4 b.length ++ (b ++ z)) ++ A.drop ((encL l).length + 1 + (be4 b.length ++ (b ++ z)).length) := by
      unfold put1
      have : (A.take ((encL l).length + 1)).length = (encL l).length + 1 := by rw [List.length_take]; omega
      rw [List.append_assoc]
      exact List.drop_left' this
    have e3 : put1 (put1 A ((encL l).length + 1) (be4 b.length ++ (b ++ z))) (encL l).length [1] = encL l ++ [1] ++ ((be4 b.length ++ (b ++ z)) ++ A.drop ((encL l).length + 1 + (be4 b.length ++ (b ++ z)).length)) := by
      rw [put1.eq_1, e1]
      show encL l ++ [1] ++ List.drop ((encL l).length + 1) _ = _
      rw [e2]
    rw [e3, hE, show (encL l).length + 1 + (be4 b.length ++ (b ++ z)).length = (encL l).length + 5 + b.length + z.length by simp only [List.length_append, hbe]; omega]
    simp
  refine ⟨?_, hF⟩
  rw [hF]
  have hAl : (encL (l ++ [b]) ++ (z ++ A.drop ((encL l).length + 5 + b.length + z.length))).length = A.length := by
    simp only [List.length_append, hEl, List.length_drop]; omega
  refine ⟨by rw [hAl, hEl]; omega, by rw [List.take_left], fun h5 => ?_, fun x hx => ?_⟩
  · rw [hAl, hEl] at h5
    rw [if_pos (by omega)] at hz
    subst hz
    simp [List.getD]
  · rcases List.mem_append.1 hx with hx | hx
    · exact h.small x hx
    · rw [List.mem_singleton.1 hx]; exact hs
theorem lies_none {A : List UInt8} : Lies (put1 A 0 [0]) [] := by
  refine ⟨by simp [encL], by simp [encL], fun _ => by simp [encL, put1], fun b hb => by cases hb⟩

/-- The tape lies on the disk as its records say; the power is on, all is safe. -/
structure TState (d : Dk) (t : Tm) (l : List (List UInt8)) : Prop where
  on : d.off = false
  calm : d.L = []
  inside : t.at_ + t.len ≤ d.B.length
  five : 5 ≤ t.len
  lies : Lies (areaT d.B t.at_ t.len) l
  fin : t.fin = (encL l).length
  num : t.n = l.length
  alive : t.dead = 0
theorem TState.form {d : Dk} {t : Tm} {l : List (List UInt8)} (h : TState d t l) : d = ⟨d.B, [], d.armed, false⟩ := by
  cases d
  have h1 := h.on
  have h2 := h.calm
  simp only at h1 h2
  subst h1; subst h2
  rfl

theorem appW_len (t : Tm) (b : List UInt8) (h : t.fin + 5 + b.length ≤ t.len) : t.fin + 1 + (appW t b).length ≤ t.len := by
  unfold appW
  have hbe : (be4 b.length).length = 4 := rfl
  by_cases h5 : t.fin + 5 + b.length + 5 ≤ t.len
  · rw [if_pos h5]; simp only [List.length_append, hbe, List.length_cons, List.length_nil]; omega
  · rw [if_neg h5]; simp only [List.length_append, hbe, List.length_nil]; omega
/-- What Append does: all four steps, or the power goes within one. -/
theorem append_steps {d : Dk} {t : Tm} {l : List (List UInt8)} {b : List UInt8} (h : TState d t l) (hb : t.fin + 5 + b.length ≤ t.len) (hs : b.length < 4294967296) :
    ((appS d t b).2 = 0 ∧ TState (appS d t b).1 (appT t b 0) (l ++ [b]) ∧ areaT (appS d t b).1.B t.at_ t.len = put1 (put1 (areaT d.B t.at_ t.len) (t.fin + 1) (appW t b)) t.fin [1] ∧ (appS d t b).1.B.length = d.B.length ∧ (∀ j, ¬ (t.at_ ≤ j ∧ j < t.at_ + t.len) → (appS d t b).1.B.getD j 0 = d.B.getD j 0)) ∨
    ((appS d t b).2 = 13 ∧ (appS d t b).1.off = true ∧ 0 ≤ d.armed ∧ ∀ keep, (startD (appS d t b).1 keep).B.length = d.B.length ∧ (Lies (areaT (startD (appS d t b).1 keep).B t.at_ t.len) l ∨ Lies (areaT (startD (appS d t b).1 keep).B t.at_ t.len) (l ++ [b]))) := by
  have hl := appW_len t b hb
  have hin := h.inside
  have hA := area_len hin
  have hfin := h.fin
  have hm := lies_more (z := if t.fin + 5 + b.length + 5 ≤ t.len then [0] else []) h.lies (by rw [← hfin, hA]; exact hb) hs (by rw [← hfin, hA]; by_cases h5 : t.fin + 5 + b.length + 5 ≤ t.len <;> simp [h5])
  rw [← hfin] at hm
  have hW : (be4 b.length ++ (b ++ if t.fin + 5 + b.length + 5 ≤ t.len then [0] else [])) = appW t b := rfl
  rw [hW] at hm
  have l1 : (put1 d.B (t.at_ + t.fin + 1) (appW t b)).length = d.B.length := put1_len (by omega)
  have l2 : (put1 (put1 d.B (t.at_ + t.fin + 1) (appW t b)) (t.at_ + t.fin) [1]).length = d.B.length := by rw [put1_len (by rw [l1]; simp; omega), l1]
  have a1 : ∀ x : List UInt8, t.fin + 1 + x.length ≤ t.len → areaT (put1 d.B (t.at_ + t.fin + 1) x) t.at_ t.len = put1 (areaT d.B t.at_ t.len) (t.fin + 1) x := fun x hx => by
    rw [Nat.add_assoc]; exact area_put hin hx
  have a2 : ∀ x : List UInt8, t.fin + x.length ≤ t.len → areaT (put1 (put1 d.B (t.at_ + t.fin + 1) (appW t b)) (t.at_ + t.fin) x) t.at_ t.len = put1 (put1 (areaT d.B t.at_ t.len) (t.fin + 1) (appW t b)) t.fin x := fun x hx => by
    rw [area_put (by rw [l1]; exact hin) hx, a1 _ hl]
  have b1 : Lies (put1 (areaT d.B t.at_ t.len) (t.fin + 1) (appW t b)) l := by rw [hfin]; exact lies_behind h.lies (by rw [← hfin, hA]; exact hl)
  have c1 : ∀ keep, ((nowL d.B (keptL [(t.at_ + t.fin + 1, appW t b)] keep)).length = d.B.length) ∧ Lies (areaT (nowL d.B (keptL [(t.at_ + t.fin + 1, appW t b)] keep)) t.at_ t.len) l := fun keep => by
    obtain ⟨k, hk⟩ := kept_one d.B (t.at_ + t.fin + 1) (appW t b) keep
    have hlk : ((appW t b).take k).length ≤ (appW t b).length := by rw [List.length_take]; omega
    rw [hk]
    refine ⟨put1_len (by omega), ?_⟩
    rw [a1 _ (by omega), hfin]
    exact lies_behind h.lies (by rw [← hfin, hA]; omega)
  have c2 : ∀ keep, ((nowL (put1 d.B (t.at_ + t.fin + 1) (appW t b)) (keptL [(t.at_ + t.fin, [1])] keep)).length = d.B.length) ∧ (Lies (areaT (nowL (put1 d.B (t.at_ + t.fin + 1) (appW t b)) (keptL [(t.at_ + t.fin, [1])] keep)) t.at_ t.len) l ∨ Lies (areaT (nowL (put1 d.B (t.at_ + t.fin + 1) (appW t b)) (keptL [(t.at_ + t.fin, [1])] keep)) t.at_ t.len) (l ++ [b])) := fun keep => by
    obtain ⟨k, hk⟩ := kept_one (put1 d.B (t.at_ + t.fin + 1) (appW t b)) (t.at_ + t.fin) [1] keep
    rw [hk]
    cases k with
    | zero =>
      refine ⟨by rw [List.take_zero, put1_nil, l1], Or.inl ?_⟩
      rw [List.take_zero, put1_nil, a1 _ hl]
      exact b1
    | succ k =>
      refine ⟨by rw [List.take_of_length_le (by simp)]; exact l2, Or.inr ?_⟩
      rw [List.take_of_length_le (by simp), a2 _ (by simp; omega)]
      exact hm.1
  have hf := h.form
  obtain ⟨a, ha⟩ : ∃ a, a = d.armed := ⟨_, rfl⟩
  have hS : appS d t b = chainS (chainS (chainS (putS (t.at_ + t.fin + 1) (appW t b) ⟨d.B, [], a, false⟩) syncS) (putS (t.at_ + t.fin) [1])) syncS := by
    unfold appS; rw [ha, ← hf]
  rw [put_calm _ _ _ _ (by omega)] at hS
  rw [← ha]
  by_cases h0 : a = 0
  · rw [if_pos h0] at hS
    have e : appS d t b = (⟨d.B, [(t.at_ + t.fin + 1, appW t b)], -1, true⟩, 13) := hS
    rw [e]
    exact Or.inr ⟨rfl, rfl, by omega, fun keep => ⟨(c1 keep).1, Or.inl (c1 keep).2⟩⟩
  rw [if_neg h0] at hS
  have hS : appS d t b = chainS (chainS (syncS ⟨d.B, [(t.at_ + t.fin + 1, appW t b)], decA a, false⟩) (putS (t.at_ + t.fin) [1])) syncS := hS
  rw [sync_one] at hS
  by_cases h1 : decA a = 0
  · rw [if_pos h1] at hS
    have e : appS d t b = (⟨d.B, [(t.at_ + t.fin + 1, appW t b)], -1, true⟩, 13) := hS
    rw [e]
    exact Or.inr ⟨rfl, rfl, by unfold decA at h1; split at h1 <;> omega, fun keep => ⟨(c1 keep).1, Or.inl (c1 keep).2⟩⟩
  rw [if_neg h1] at hS
  have hS : appS d t b = chainS (putS (t.at_ + t.fin) [1] ⟨put1 d.B (t.at_ + t.fin + 1) (appW t b), [], decA (decA a), false⟩) syncS := hS
  rw [put_calm _ _ _ _ (by rw [l1]; simp; omega)] at hS
  by_cases h2 : decA (decA a) = 0
  · rw [if_pos h2] at hS
    have e : appS d t b = (⟨put1 d.B (t.at_ + t.fin + 1) (appW t b), [(t.at_ + t.fin, [1])], -1, true⟩, 13) := hS
    rw [e]
    exact Or.inr ⟨rfl, rfl, decA_nn (decA_nn (by omega)), fun keep => c2 keep⟩
  rw [if_neg h2] at hS
  have hS : appS d t b = syncS ⟨put1 d.B (t.at_ + t.fin + 1) (appW t b), [(t.at_ + t.fin, [1])], decA (decA (decA a)), false⟩ := hS
  rw [sync_one] at hS
  by_cases h3 : decA (decA (decA a)) = 0
  · rw [if_pos h3] at hS
    rw [hS]
    exact Or.inr ⟨rfl, rfl, decA_nn (decA_nn (decA_nn (by omega))), fun keep => c2 keep⟩
  rw [if_neg h3] at hS
  rw [hS]
  refine Or.inl ⟨rfl, ⟨rfl, rfl, ?_, h.five, ?_, ?_, ?_, h.alive⟩, a2 _ (by simp; omega), l2, fun j hj => ?_⟩
  · show t.at_ + t.len ≤ (put1 (put1 d.B (t.at_ + t.fin + 1) (appW t b)) (t.at_ + t.fin) [1]).length
    rw [l2]; exact hin
  · show Lies (areaT (put1 (put1 d.B (t.at_ + t.fin + 1) (appW t b)) (t.at_ + t.fin) [1]) t.at_ t.len) (l ++ [b])
    rw [a2 _ (by simp; omega)]
    exact hm.1
  · show t.fin + 5 + b.length = _
    rw [encL_append, encL_one, List.length_append, enc1_len, hfin]; omega
  · show t.n + 1 = _
    rw [List.length_append, h.num]; rfl
  · show (put1 (put1 d.B (t.at_ + t.fin + 1) (appW t b)) (t.at_ + t.fin) [1]).getD j 0 = _
    rw [put1_get (by rw [l1]; simp; omega), if_neg (by simp; omega), put1_get (by omega), if_neg (by omega)]
/-- What Reset does. -/
theorem reset_steps {d : Dk} {t : Tm} {l : List (List UInt8)} (h : TState d t l) :
    ((resS d t).2 = 0 ∧ TState (resS d t).1 (resT t 0) [] ∧ areaT (resS d t).1.B t.at_ t.len = put1 (areaT d.B t.at_ t.len) 0 [0] ∧ (resS d t).1.B.length = d.B.length ∧ (∀ j, ¬ (t.at_ ≤ j ∧ j < t.at_ + t.len) → (resS d t).1.B.getD j 0 = d.B.getD j 0)) ∨
    ((resS d t).2 = 13 ∧ (resS d t).1.off = true ∧ 0 ≤ d.armed ∧ ∀ keep, (startD (resS d t).1 keep).B.length = d.B.length ∧ (Lies (areaT (startD (resS d t).1 keep).B t.at_ t.len) l ∨ Lies (areaT (startD (resS d t).1 keep).B t.at_ t.len) [])) := by
  have hin := h.inside
  have h5 := h.five
  have hA := area_len hin
  have l1 : (put1 d.B t.at_ [0]).length = d.B.length := put1_len (by simp; omega)
  have a1 : areaT (put1 d.B t.at_ [0]) t.at_ t.len = put1 (areaT d.B t.at_ t.len) 0 [0] := area_put (q := 0) hin (by simp; omega)
  have b1 : Lies (put1 (areaT d.B t.at_ t.len) 0 [0]) [] := lies_none
  have c2 : ∀ keep, ((nowL d.B (keptL [(t.at_, [0])] keep)).length = d.B.length) ∧ (Lies (areaT (nowL d.B (keptL [(t.at_, [0])] keep)) t.at_ t.len) l ∨ Lies (areaT (nowL d.B (keptL [(t.at_, [0])] keep)) t.at_ t.len) []) := fun keep => by
    obtain ⟨k, hk⟩ := kept_one d.B t.at_ [0] keep
    rw [hk]
    cases k with
    | zero =>
      rw [List.take_zero, put1_nil]
      exact ⟨rfl, Or.inl h.lies⟩
    | succ k =>
      rw [List.take_of_length_le (by simp), a1]
      exact ⟨l1, Or.inr b1⟩
  have hf := h.form
  obtain ⟨a, ha⟩ : ∃ a, a = d.armed := ⟨_, rfl⟩
  have hS : resS d t = chainS (putS t.at_ [0] ⟨d.B, [], a, false⟩) syncS := by unfold resS; rw [ha, ← hf]
  rw [put_calm _ _ _ _ (by simp; omega)] at hS
  rw [← ha]
  by_cases h0 : a = 0
  · rw [if_pos h0] at hS
    have e : resS d t = (⟨d.B, [(t.at_, [0])], -1, true⟩, 13) := hS
    rw [e]
    exact Or.inr ⟨rfl, rfl, by omega, fun keep => c2 keep⟩
  rw [if_neg h0] at hS
  have hS : resS d t = syncS ⟨d.B, [(t.at_, [0])], decA a, false⟩ := hS
  rw [sync_one] at hS
  by_cases h1 : decA a = 0
  · rw [if_pos h1] at hS
    rw [hS]
    exact Or.inr ⟨rfl, rfl, by unfold decA at h1; split at h1 <;> omega, fun keep => c2 keep⟩
  rw [if_neg h1] at hS
  rw [hS]
  refine Or.inl ⟨rfl, ⟨rfl, rfl, by show _ ≤ (put1 d.B t.at_ [0]).length; rw [l1]; exact hin, h5, by show Lies (areaT (put1 d.B t.at_ [0]) t.at_ t.len) []; rw [a1]; exact b1, rfl, rfl, h.alive⟩, a1, l1, fun j hj => ?_⟩
  show (put1 d.B t.at_ [0]).getD j 0 = _
  rw [put1_get (by simp; omega), if_neg (by simp; omega)]
/-- Opened anew. -/
def openT (at_ len : Nat) (l : List (List UInt8)) : Tm := ⟨at_, len, (encL l).length, l.length, 0⟩

end Go.Proofs.YthcikgbnenfjpaaDoor.pk
