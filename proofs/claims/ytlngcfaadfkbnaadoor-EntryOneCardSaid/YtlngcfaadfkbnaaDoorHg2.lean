/-
  The program's own log: Check, Last, Term, Newer.
-/
import Derived.Test.YtlngcfaadfkbnaaDoorHg1
import Derived.Test.YtlngcfaadfkbnaaDoorConG
namespace Go.Proofs.YtlngcfaadfkbnaaDoor.pk
open Go Go.RowKit
set_option maxRecDepth 100000

theorem ret_int {a b : Int} (h : a = b) : Ending.returned (.int .i64 a) = Ending.returned (.int .i64 b) := by rw [h]
/-- May the log's head be? -/
def hdE (b t : Int) : Bool := decide ((b = 0 ∧ t = 0) ∨ (1 ≤ b ∧ b ≤ 1099511627776 ∧ 1 ≤ t ∧ t ≤ 1099511627776))
theorem mayE_parts3 (l : Lg) : mayE l = (hdE l.base l.term && decide (l.l.length ≤ 4096) && behindE l.base l.term l.l) := by
  unfold mayE
  congr 1
  rw [Bool.eq_iff_iff, Bool.and_eq_true, headE_iff]
  unfold hdE
  rw [decide_eq_true_iff, decide_eq_true_iff]
  omega

set_option maxHeartbeats 4000000 in
theorem Check_g (l : Lg) (A : Option Addr) (n c : Nat) (w : World) (h : Ents w (.slice A n c) l.l) (hi : inI l.base) (ht : inI l.term) (hs : ∀ e ∈ l.l, e.data.length ≤ 9223372036854775807) (k : Nat) (hk : k = (if mayE l = true then 0 else 1)) :
    Calls Tryd.prog 17 #[.agg #[.int .i64 l.base, .int .i64 l.term, .slice A n c]] w fun y w' => y = .returned (er k) ∧ Below w.heap.size w w' := by
  obtain ⟨hn, hnc, hcm⟩ := h.len_
  rw [mayE_parts3] at hk
  obtain ⟨base, tm, es⟩ := l
  simp only at h hi ht hs hn hk ⊢
  obtain ⟨W1, g, hW1, hg, hb1, hq, hsz⟩ := one_box w (.cells #[.int .i64 base, .int .i64 tm, .slice A n c] 29)
  have HW := Lib.hid (And.intro hW1 hg)
  have HE := Lib.hid (And.intro hb1 (And.intro hq hsz))
  obtain ⟨x0, x1, x2⟩ := cells3 hq
  have C0 := Lib.hid fun n W => counts_any n W _ rfl
  have CF := Lib.hid (follow_any base tm A n c es W1 (h.below hb1) hi ht hs _ rfl)
  have in1 : (n : Int) ≤ 9223372036854775807 := by omega
  rw [← hn] at hk
  have htail : (hdE base tm = true) → (4096 < (n : Int) ∧ k = 1) ∨ (¬ 4096 < (n : Int) ∧ behindE base tm es = false ∧ k = 1) ∨ (¬ 4096 < (n : Int) ∧ behindE base tm es = true ∧ k = 0) := by
    intro h1
    rw [h1, Bool.true_and] at hk
    by_cases h2 : n ≤ 4096
    · rw [decide_eq_true h2, Bool.true_and] at hk
      cases h3 : behindE base tm es with
      | false => rw [h3] at hk; exact Or.inr (Or.inl ⟨by omega, rfl, hk⟩)
      | true => rw [h3] at hk; exact Or.inr (Or.inr ⟨by omega, rfl, hk⟩)
    · rw [decide_eq_false h2, Bool.false_and] at hk
      exact Or.inl ⟨by omega, hk⟩
  have hbad : hdE base tm = false → k = 1 := by
    intro h1
    rw [h1, Bool.false_and, Bool.false_and] at hk
    exact hk
  have hhead : (base = 0 ∧ tm = 0 ∧ hdE base tm = true) ∨ (base = 0 ∧ ¬ tm = 0 ∧ cntE base = false ∧ hdE base tm = false) ∨ (¬ base = 0 ∧ cntE base = false ∧ hdE base tm = false) ∨ (¬ base = 0 ∧ cntE base = true ∧ cntE tm = false ∧ hdE base tm = false) ∨ (¬ base = 0 ∧ cntE base = true ∧ cntE tm = true ∧ hdE base tm = true) := by
    have e1 : hdE base tm = true ↔ _ := decide_eq_true_iff
    have e2 : hdE base tm = false ↔ _ := decide_eq_false_iff_not
    rw [e1, e2, cntE_true, cntE_true, cntE_false, cntE_false]
    omega
  clear hk hW1 hg hb1 hq hsz hn h hi ht hs hnc hcm
  rcases hhead with ⟨rfl, rfl, hh⟩ | ⟨rfl, h1, h2, hh⟩ | ⟨h1, h2, hh⟩ | ⟨h1, h2, h3, hh⟩ | ⟨h1, h2, h3, hh⟩
  case inr.inl | inr.inr.inl | inr.inr.inr.inl =>
    obtain rfl := hbad hh
    clear hbad htail hh
    try have s1 : (tm == 0) = false := beq_eq_false_iff_ne.2 h1
    try have s2 : (base == 0) = false := beq_eq_false_iff_ne.2 h1
    go_enter Tryd.func17, Tryd.ntmps17
    go_upto_region 1 with fail
    rw [← HW.out.1, ← HW.out.2]
    go_wp2_with (go_at_call 36; go_must (refine (C0.out _ _).mono ?_; rintro y w1 ⟨rfl, rfl⟩))
    go_ret
    exact ⟨rfl, HE.out.1⟩
  all_goals
    have ht := htail hh
    clear hbad htail hh
    rcases ht with ⟨h4, rfl⟩ | ⟨h4, h5, rfl⟩ | ⟨h4, h5, rfl⟩
    all_goals
      go_enter Tryd.func17, Tryd.ntmps17
      go_upto_region 1 with fail
      rw [← HW.out.1, ← HW.out.2]
      go_wp2_with (first
        | (go_at_call 36; go_must (refine (C0.out _ _).mono ?_; rintro y w1 ⟨rfl, rfl⟩))
        | (go_at_call 37; go_must (refine CF.out.mono ?_; rintro y w1 ⟨rfl, hb1⟩; have HB1 := Lib.hid (HE.out.1.trans (hb1.mono HE.out.1.size)); clear hb1)))
      go_ret
      first
        | exact ⟨rfl, HE.out.1⟩
        | exact ⟨rfl, HB1.out⟩

set_option maxHeartbeats 4000000 in
theorem end_g (l : Lg) (A : Option Addr) (n c : Nat) (w : World) (h0 : 0 ≤ l.base) (h1 : l.base ≤ 2199023255552) (h2 : n ≤ 1000000) (z : Int) (hz : z = l.base + n) :
    Calls Tryd.prog 31 #[.agg #[.int .i64 l.base, .int .i64 l.term, .slice A n c]] w fun y w' => y = .returned (.int .i64 z) ∧ Below w.heap.size w w' := by
  subst hz
  obtain ⟨W1, g, hW1, hg, hb1, hq, hsz⟩ := one_box w (.cells #[.int .i64 l.base, .int .i64 l.term, .slice A n c] 29)
  have HW := Lib.hid (And.intro hW1 hg)
  have HE := Lib.hid hb1
  obtain ⟨x0, x1, x2⟩ := cells3 hq
  have i1 : (n : Int) ≤ 1000000 := by omega
  clear hW1 hg hb1 hq hsz
  go_enter Tryd.func31, Tryd.ntmps31
  go_upto_region 1 with fail
  rw [← HW.out.1, ← HW.out.2]
  go_wp2_with fail
  go_ret
  exact ⟨rfl, HE.out⟩

set_option maxHeartbeats 4000000 in
theorem place_g (l : Lg) (v : Value) (i : Int) (w : World) (h0 : 0 ≤ l.base) (h1 : l.base ≤ 2199023255552) (h2 : 0 ≤ i) (h3 : i ≤ 4398046511104) (z : Int) (hz : z = i - l.base - 1) :
    Calls Tryd.prog 35 #[.agg #[.int .i64 l.base, .int .i64 l.term, v], .int .i64 i] w fun y w' => y = .returned (.int .i64 z) ∧ Below w.heap.size w w' := by
  subst hz
  obtain ⟨W1, g, hW1, hg, hb1, hq, hsz⟩ := one_box w (.cells #[.int .i64 l.base, .int .i64 l.term, v] 29)
  have HW := Lib.hid (And.intro hW1 hg)
  have HE := Lib.hid hb1
  obtain ⟨x0, x1, x2⟩ := cells3 hq
  clear hW1 hg hb1 hq hsz
  go_enter Tryd.func35, Tryd.ntmps35
  go_upto_region 1 with fail
  rw [← HW.out.1, ← HW.out.2]
  go_wp2_with fail
  go_ret
  exact ⟨rfl, HE.out⟩

/-- The term of an index that the log has, or of its base. -/
def tmE (l : Lg) (i : Int) : Int := if i = l.base then l.term else (l.l.getD (i - l.base - 1).toNat ze).term

set_option maxHeartbeats 4000000 in
theorem termAt_g (l : Lg) (A : Option Addr) (n c : Nat) (i : Int) (w : World) (h : Ents w (.slice A n c) l.l) (h0 : 0 ≤ l.base) (h1 : l.base ≤ 2199023255552) (h2 : l.base ≤ i) (h3 : i ≤ l.base + n) (h4 : n ≤ 1000000) (z : Int) (hz : z = tmE l i) :
    Calls Tryd.prog 32 #[.agg #[.int .i64 l.base, .int .i64 l.term, .slice A n c], .int .i64 i] w fun y w' => y = .returned (.int .i64 z) ∧ Below w.heap.size w w' := by
  have hn := h.len_
  obtain ⟨W1, g, hW1, hg, hb1, hq, hsz⟩ := one_box w (.cells #[.int .i64 l.base, .int .i64 l.term, .slice A n c] 29)
  have HW := Lib.hid (And.intro hW1 hg)
  have HE := Lib.hid (And.intro hb1 hq)
  obtain ⟨x0, x1, x2⟩ := cells3 hq
  by_cases hi : i = l.base
  · have HZ := Lib.hid (show z = l.term by rw [hz]; unfold tmE; rw [if_pos hi])
    clear hW1 hg hb1 hq hsz hz hn h h0 h1 h2 h3 h4
    go_enter Tryd.func32, Tryd.ntmps32
    go_upto_region 1 with fail
    rw [← HW.out.1, ← HW.out.2]
    go_wp2_with fail
    go_ret
    exact ⟨ret_int HZ.out.symm, HE.out.1⟩
  · obtain ⟨k, hk⟩ : ∃ k : Nat, i - l.base - 1 = (k : Int) := ⟨(i - l.base - 1).toNat, by omega⟩
    have hkl : k < l.l.length := by omega
    obtain ⟨bk, off, Ad, cd, rfl, hbb, hok, q0, q1, q2, q3, -⟩ := h.at_ k hkl
    have HZ := Lib.hid (show z = l.l[k].term by rw [hz]; unfold tmE; rw [if_neg hi, hk, Int.toNat_natCast, List.getD, List.getElem?_eq_getElem hkl]; rfl)
    obtain ⟨e, he⟩ : ∃ e, e = l.l[k] := ⟨_, rfl⟩
    rw [← he] at q1 HZ
    have p1 := (hb1.cell (p := ⟨bk, off + k * 4 + 1, none⟩) hbb).trans q1
    have CP : ∀ d os, Calls Tryd.prog 35 #[.agg #[.int .i64 l.base, .int .i64 l.term, .slice (some ⟨bk, off, none⟩) n c], .int .i64 i] (Sort.grow (redrawn W1 d) os) fun e w'' => e = .returned (.int .i64 (k : Int)) ∧ ∃ p : Regrown, w'' = Sort.grow (redrawn W1 p.d) p.os :=
      fun d os => Calls.regrown_of (place_g l _ i _ h0 h1 (by omega) (by omega) _ hk.symm)
    have hx : ∀ d os, (Sort.grow (redrawn W1 d) os).cell? ⟨g, 0, none⟩ = some (.int .i64 l.base) ∧ (Sort.grow (redrawn W1 d) os).cell? ⟨g, 1, none⟩ = some (.int .i64 l.term) ∧ (Sort.grow (redrawn W1 d) os).cell? ⟨g, 2, none⟩ = some (.slice (some ⟨bk, off, none⟩) n c) := fun d os => ⟨cell_regrown x0 d os, cell_regrown x1 d os, cell_regrown x2 d os⟩
    have y0 := fun d os => (hx d os).1
    have y1 := fun d os => (hx d os).2.1
    have y2 := fun d os => (hx d os).2.2
    have y3 := fun d os => cell_regrown p1 d os
    have s1 : (k : Int) < (n : Int) := by omega
    have s2 : (0 : Int) ≤ (k : Int) := by omega
    clear hW1 hg hb1 hq hsz hz hn h h0 h1 h2 h3 h4 q0 q1 q2 q3 p1 hx hok he hbb hk hkl
    go_enter Tryd.func32, Tryd.ntmps32
    go_upto_region 1 with fail
    rw [← HW.out.1, ← HW.out.2]
    go_upto_region 3 with fail
    refine wp_region_quiet_below (by kernel_rfl) (by kernel_rfl) ?_
    repeat (go_big_quiet_step (exact CP _ _))
    refine wpQuiet_nil ?_
    rintro W ⟨⟨dr, osr⟩, rfl⟩
    have hb9 := HE.out.1.trans ((below_regrown W1 dr osr).mono HE.out.1.size)
    go_wp2_with fail
    go_ret
    exact ⟨ret_int HZ.out.symm, hb9⟩

/-- What is asked of a log that a call is given. -/
structure Inp (l : Lg) (A : Option Addr) (n c : Nat) (w : World) : Prop where
  e : Ents w (.slice A n c) l.l
  b : inI l.base
  t : inI l.term
  s : SmallE 1000000 100000000 l.l
theorem Inp.below {l : Lg} {A : Option Addr} {n c : Nat} {w w' : World} (h : Inp l A n c w) (hb : Below w.heap.size w w') : Inp l A n c w' := ⟨h.e.below hb, h.b, h.t, h.s⟩
theorem Inp.check {l : Lg} {A : Option Addr} {n c : Nat} {w : World} (h : Inp l A n c w) (k : Nat) (hk : k = (if mayE l = true then 0 else 1)) :
    Calls Tryd.prog 17 #[.agg #[.int .i64 l.base, .int .i64 l.term, .slice A n c]] w fun y w' => y = .returned (er k) ∧ Below w.heap.size w w' :=
  Check_g l A n c w h.e h.b h.t (fun e he => by have := h.s.2 e he; omega) k hk
theorem Inp.len {l : Lg} {A : Option Addr} {n c : Nat} {w : World} (h : Inp l A n c w) : n = l.l.length ∧ n ≤ c ∧ c ≤ 9223372036854775807 ∧ n ≤ 1000000 := by
  have h1 := h.e.len_
  have h2 := h.s.1
  exact ⟨h1.1, h1.2.1, h1.2.2, by omega⟩
theorem Inp.bad {l : Lg} {A : Option Addr} {n c : Nat} {w : World} (h : Inp l A n c w) (hm : mayE l = false) :
    Calls Tryd.prog 17 #[.agg #[.int .i64 l.base, .int .i64 l.term, .slice A n c]] w fun y w' => y = .returned (.iface 72 (.int .i64 1)) ∧ Below w.heap.size w w' :=
  h.check 1 (by rw [hm]; rfl)
theorem Inp.good {l : Lg} {A : Option Addr} {n c : Nat} {w : World} (h : Inp l A n c w) (hm : mayE l = true) :
    Calls Tryd.prog 17 #[.agg #[.int .i64 l.base, .int .i64 l.term, .slice A n c]] w fun y w' => y = .returned .nilIface ∧ Below w.heap.size w w' :=
  h.check 0 (by rw [hm]; rfl)
/-- The last index and its term. -/
theorem endE_term {l : Lg} (h : mayE l = true) : (endE l).2 = tmE l (endE l).1 := by
  have h1 := mayE_parts h
  cases hn : l.l.length with
  | zero => rw [endE_nil hn]; unfold tmE; rw [if_pos rfl]
  | succ k =>
    have hk : k < l.l.length := by omega
    have h2 := endE_index h
    unfold tmE
    rw [if_neg (by omega), h2, show (l.base + (l.l.length : Int) - l.base - 1).toNat = k from by omega, List.getD, List.getElem?_eq_getElem hk, endE_more hn hk]
    rfl

set_option maxHeartbeats 4000000 in
theorem Last_g (l : Lg) (A : Option Addr) (n c : Nat) (w : World) (h : Inp l A n c w) (r : Int × Int) (hr : r = lastE l) :
    Calls Tryd.prog 11 #[.agg #[.int .i64 l.base, .int .i64 l.term, .slice A n c]] w fun y w' => y = .returned (.tuple #[.int .i64 r.1, .int .i64 r.2]) ∧ Below w.heap.size w w' := by
  obtain ⟨W1, g, hW1, hg, hb1, hq, hsz⟩ := one_box w (.cells #[.int .i64 l.base, .int .i64 l.term, .slice A n c] 29)
  have HW := Lib.hid (And.intro hW1 hg)
  have HE := Lib.hid (And.intro hb1 (And.intro hq hsz))
  have HI := Lib.hid (h.below hb1)
  have HCL := Lib.hid (show ∀ W, Below W1.heap.size W1 W → W.cell? ⟨g, 0, none⟩ = some (.int .i64 l.base) ∧ W.cell? ⟨g, 1, none⟩ = some (.int .i64 l.term) ∧ W.cell? ⟨g, 2, none⟩ = some (.slice A n c) from fun W hW => cells3 ((hW.block g (obj_lt hq)).trans hq))
  obtain ⟨x0, x1, x2⟩ := cells3 hq
  have hl := h.len
  cases hm : mayE l with
  | false =>
    have CC := Lib.hid (HI.out.bad hm)
    have HR := Lib.hid (hr.trans (lastE_not hm))
    clear h hW1 hg hb1 hq hsz hr hm hl
    go_enter Tryd.func11, Tryd.ntmps11
    go_upto_region 1 with fail
    rw [← HW.out.1, ← HW.out.2]
    go_wp2_with (go_at_call 17; go_must (refine CC.out.mono ?_; rintro y w1 ⟨rfl, hb1⟩; have HB := Lib.hid (HE.out.1.trans (hb1.mono HE.out.1.size)); clear hb1))
    go_ret2
    exact ⟨by rw [HR.out]; rfl, HB.out⟩
  | true =>
    have hp := mayE_parts hm
    obtain ⟨e1, e2, hee⟩ : ∃ e1 e2, endE l = (e1, e2) := ⟨_, _, rfl⟩
    have CC := Lib.hid (HI.out.good hm)
    have he1 := endE_index hm
    have he2 := endE_term hm
    rw [hee] at he1 he2
    simp only at he1 he2
    have CE := Lib.hid fun W => end_g l A n c W hp.1 (by omega) (by omega) e1 (by omega)
    have CT := Lib.hid fun W (hW : Below W1.heap.size W1 W) => termAt_g l A n c e1 W (HI.out.e.below hW) hp.1 (by omega) (by omega) (by omega) (by omega) e2 he2
    have HR := Lib.hid (hr.trans ((lastE_may hm).trans hee))
    clear h hW1 hg hb1 hq hsz hr hm hl hp he1 he2 hee
    go_enter Tryd.func11, Tryd.ntmps11
    go_upto_region 1 with fail
    rw [← HW.out.1, ← HW.out.2]
    go_wp2_with (first
      | (go_at_call 17; go_must (refine CC.out.mono ?_; rintro y w1 ⟨rfl, hb1⟩; obtain ⟨x0, x1, x2⟩ := HCL.out w1 hb1; have HB1 := Lib.hid hb1; clear hb1))
      | (go_at_call 31; go_must (refine (CE.out _).mono ?_; rintro y w2 ⟨rfl, hb2⟩; have hb2 := HB1.out.trans (hb2.mono HB1.out.size); obtain ⟨x0, x1, x2⟩ := HCL.out w2 hb2; have HB2 := Lib.hid hb2; clear hb2))
      | (go_at_call 32; go_must (refine (CT.out _ HB2.out).mono ?_; rintro y w3 ⟨rfl, hb3⟩; have HB3 := Lib.hid (HB2.out.trans (hb3.mono HB2.out.size)); clear hb3)))
    go_ret2
    exact ⟨by rw [HR.out]; rfl, HE.out.1.trans (HB3.out.mono HE.out.1.size)⟩

end Go.Proofs.YtlngcfaadfkbnaaDoor.pk
