/-
  What the program's package is asked for by stage 14's laws, as contracts; the law's own 'sure' out of them.
-/
import Derived.Test.YtojejcafahighaaDoorSamQ
import Derived.Test.YtojejcafahighaaDoorRefR
namespace Go.Proofs.YtojejcafahighaaDoor.pk
open Go Go.RowKit
set_option maxRecDepth 100000

structure ConQ : Prop where
  qCheck : ∀ (lim : Int) (l : List It) (A : Option Addr) (n c : Nat) (w : World), Its w (.slice A n c) l → inI lim → l.length ≤ 1000 → ∀ k, k = (if mayQ lim l = true then 0 else 1) →
    Calls Tryd.prog 12 #[.agg #[.int .i64 lim, .slice A n c]] w fun y w' => y = .returned (er k) ∧ Below w.heap.size w w'
  qAdd : ∀ (lim : Int) (l : List It) (A : Option Addr) (n c : Nat) (x : It) (w : World) (T : Nat → Prop), ItsT w T (.slice A n c) l → (∀ k, T k → k < w.heap.size) → (∀ e ∈ l, e.inI) → inI lim → x.inI → l.length ≤ 1000 → ∀ r, r = addQ lim l x → ∀ m, m = r.2.1.length →
    Calls Tryd.prog 7 #[.agg #[.int .i64 lim, .slice A n c], .agg #[.int .i64 x.term, .int .i64 x.round, .int .i64 x.index, .int .i64 x.token]] w fun y w' => ∃ A1 c1, y = .returned (.tuple #[.agg #[.int .i64 r.1, .slice A1 m c1], er r.2.2]) ∧ (ItsT w' (Aft T w w') (.slice A1 m c1) r.2.1 ∧ ∀ e ∈ r.2.1, e.inI) ∧ Below w.heap.size w w'
  qTake : ∀ (lim : Int) (l : List It) (A : Option Addr) (n c : Nat) (term heard applied : Int) (w : World) (T : Nat → Prop), ItsT w T (.slice A n c) l → (∀ k, T k → k < w.heap.size) → (∀ e ∈ l, e.inI) → inI lim → l.length ≤ 1000 → ∀ r, r = takeQ lim l (hitQ term heard applied false) → ∀ m k, m = r.2.1.length → k = r.2.2.length →
    Calls Tryd.prog 9 #[.agg #[.int .i64 lim, .slice A n c], .int .i64 term, .int .i64 heard, .int .i64 applied] w fun y w' => ∃ A1 c1 A2 c2, y = .returned (.tuple #[.agg #[.int .i64 r.1, .slice A1 m c1], .slice A2 k c2]) ∧ (ItsT w' (Aft T w w') (.slice A1 m c1) r.2.1 ∧ ∀ e ∈ r.2.1, e.inI) ∧ FInts w w' (.slice A2 k c2) r.2.2 ∧ Below w.heap.size w w'
  qFail : ∀ (lim : Int) (l : List It) (A : Option Addr) (n c : Nat) (term : Int) (w : World) (T : Nat → Prop), ItsT w T (.slice A n c) l → (∀ k, T k → k < w.heap.size) → (∀ e ∈ l, e.inI) → inI lim → l.length ≤ 1000 → ∀ r, r = takeQ lim l (hitQ term 0 0 true) → ∀ m k, m = r.2.1.length → k = r.2.2.length →
    Calls Tryd.prog 11 #[.agg #[.int .i64 lim, .slice A n c], .int .i64 term] w fun y w' => ∃ A1 c1 A2 c2, y = .returned (.tuple #[.agg #[.int .i64 r.1, .slice A1 m c1], .slice A2 k c2]) ∧ (ItsT w' (Aft T w w') (.slice A1 m c1) r.2.1 ∧ ∀ e ∈ r.2.1, e.inI) ∧ FInts w w' (.slice A2 k c2) r.2.2 ∧ Below w.heap.size w w'
  qRounds : ∀ (lim : Int) (l : List It) (A : Option Addr) (n c : Nat) (term : Int) (w : World), Its w (.slice A n c) l → inI lim → l.length ≤ 1000 →
    Calls Tryd.prog 17 #[.agg #[.int .i64 lim, .slice A n c], .int .i64 term] w fun y w' => ∃ r A1 k c1, y = .returned (.slice A1 k c1) ∧ k = r.length ∧ IsRounds lim l term r ∧ Ints w' (.slice A1 k c1) r ∧ Below w.heap.size w w'

section
variable {lim : Int} {l : List It} {A : Option Addr} {n c : Nat} {w : World}
theorem ConQ.addI (C : ConQ) {x : It} (h : Its w (.slice A n c) l) (hi : inI lim) (hx : x.inI) (hl : l.length ≤ 1000) (r) (hr : r = addQ lim l x) (m) (hm : m = r.2.1.length) :
    Calls Tryd.prog 7 #[.agg #[.int .i64 lim, .slice A n c], .agg #[.int .i64 x.term, .int .i64 x.round, .int .i64 x.index, .int .i64 x.token]] w fun y w' => ∃ A1 c1, y = .returned (.tuple #[.agg #[.int .i64 r.1, .slice A1 m c1], er r.2.2]) ∧ Its w' (.slice A1 m c1) r.2.1 ∧ Below w.heap.size w w' :=
  (C.qAdd lim l A n c x w _ h.1 (fun _ hk => hk) h.2 hi hx hl r hr m hm).mono fun _ _ ⟨A1, c1, hy, ⟨h1, h2⟩, hb⟩ => ⟨A1, c1, hy, h1.aft_its hb h2, hb⟩
theorem ConQ.addN (C : ConQ) {x : It} {g : Nat} (h : NIts w g (.slice A n c) l) (hg : g < w.heap.size) (hi : inI lim) (hx : x.inI) (hl : l.length ≤ 1000) (r) (hr : r = addQ lim l x) (m) (hm : m = r.2.1.length) :
    Calls Tryd.prog 7 #[.agg #[.int .i64 lim, .slice A n c], .agg #[.int .i64 x.term, .int .i64 x.round, .int .i64 x.index, .int .i64 x.token]] w fun y w' => ∃ A1 c1, y = .returned (.tuple #[.agg #[.int .i64 r.1, .slice A1 m c1], er r.2.2]) ∧ NIts w' g (.slice A1 m c1) r.2.1 ∧ Below w.heap.size w w' :=
  (C.qAdd lim l A n c x w _ h.1 (fun _ hk => hk.1) h.2 hi hx hl r hr m hm).mono fun _ _ ⟨A1, c1, hy, ⟨h1, h2⟩, hb⟩ => ⟨A1, c1, hy, h1.aft_n hb hg h2, hb⟩
theorem ConQ.takeI (C : ConQ) {term heard applied : Int} (h : Its w (.slice A n c) l) (hi : inI lim) (hl : l.length ≤ 1000) (r) (hr : r = takeQ lim l (hitQ term heard applied false)) (m k) (hm : m = r.2.1.length) (hk : k = r.2.2.length) :
    Calls Tryd.prog 9 #[.agg #[.int .i64 lim, .slice A n c], .int .i64 term, .int .i64 heard, .int .i64 applied] w fun y w' => ∃ A1 c1 A2 c2, y = .returned (.tuple #[.agg #[.int .i64 r.1, .slice A1 m c1], .slice A2 k c2]) ∧ Its w' (.slice A1 m c1) r.2.1 ∧ FInts w w' (.slice A2 k c2) r.2.2 ∧ Below w.heap.size w w' :=
  (C.qTake lim l A n c term heard applied w _ h.1 (fun _ hk => hk) h.2 hi hl r hr m k hm hk).mono fun _ _ ⟨A1, c1, A2, c2, hy, ⟨h1, h2⟩, h3, hb⟩ => ⟨A1, c1, A2, c2, hy, h1.aft_its hb h2, h3, hb⟩
theorem ConQ.takeN (C : ConQ) {term heard applied : Int} {g : Nat} (h : NIts w g (.slice A n c) l) (hg : g < w.heap.size) (hi : inI lim) (hl : l.length ≤ 1000) (r) (hr : r = takeQ lim l (hitQ term heard applied false)) (m k) (hm : m = r.2.1.length) (hk : k = r.2.2.length) :
    Calls Tryd.prog 9 #[.agg #[.int .i64 lim, .slice A n c], .int .i64 term, .int .i64 heard, .int .i64 applied] w fun y w' => ∃ A1 c1 A2 c2, y = .returned (.tuple #[.agg #[.int .i64 r.1, .slice A1 m c1], .slice A2 k c2]) ∧ NIts w' g (.slice A1 m c1) r.2.1 ∧ NInts w' g (.slice A2 k c2) r.2.2 ∧ Below w.heap.size w w' :=
  (C.qTake lim l A n c term heard applied w _ h.1 (fun _ hk => hk.1) h.2 hi hl r hr m k hm hk).mono fun _ _ ⟨A1, c1, A2, c2, hy, ⟨h1, h2⟩, h3, hb⟩ => ⟨A1, c1, A2, c2, hy, h1.aft_n hb hg h2, h3.n_ hg, hb⟩
theorem ConQ.failI (C : ConQ) {term : Int} (h : Its w (.slice A n c) l) (hi : inI lim) (hl : l.length ≤ 1000) (r) (hr : r = takeQ lim l (hitQ term 0 0 true)) (m k) (hm : m = r.2.1.length) (hk : k = r.2.2.length) :
    Calls Tryd.prog 11 #[.agg #[.int .i64 lim, .slice A n c], .int .i64 term] w fun y w' => ∃ A1 c1 A2 c2, y = .returned (.tuple #[.agg #[.int .i64 r.1, .slice A1 m c1], .slice A2 k c2]) ∧ Its w' (.slice A1 m c1) r.2.1 ∧ FInts w w' (.slice A2 k c2) r.2.2 ∧ Below w.heap.size w w' :=
  (C.qFail lim l A n c term w _ h.1 (fun _ hk => hk) h.2 hi hl r hr m k hm hk).mono fun _ _ ⟨A1, c1, A2, c2, hy, ⟨h1, h2⟩, h3, hb⟩ => ⟨A1, c1, A2, c2, hy, h1.aft_its hb h2, h3, hb⟩
theorem ConQ.failN (C : ConQ) {term : Int} {g : Nat} (h : NIts w g (.slice A n c) l) (hg : g < w.heap.size) (hi : inI lim) (hl : l.length ≤ 1000) (r) (hr : r = takeQ lim l (hitQ term 0 0 true)) (m k) (hm : m = r.2.1.length) (hk : k = r.2.2.length) :
    Calls Tryd.prog 11 #[.agg #[.int .i64 lim, .slice A n c], .int .i64 term] w fun y w' => ∃ A1 c1 A2 c2, y = .returned (.tuple #[.agg #[.int .i64 r.1, .slice A1 m c1], .slice A2 k c2]) ∧ NIts w' g (.slice A1 m c1) r.2.1 ∧ NInts w' g (.slice A2 k c2) r.2.2 ∧ Below w.heap.size w w' :=
  (C.qFail lim l A n c term w _ h.1 (fun _ hk => hk.1) h.2 hi hl r hr m k hm hk).mono fun _ _ ⟨A1, c1, A2, c2, hy, ⟨h1, h2⟩, h3, hb⟩ => ⟨A1, c1, A2, c2, hy, h1.aft_n hb hg h2, h3.n_ hg, hb⟩
end

theorem Ints.lit {W : World} {zs : List Int} {n : Nat} {bl : Obj} {t : Nat} (hb : bl = .cells (zs.map (Value.int .i64)).toArray t (0, 0)) (hn : zs.length = n) (hm : n ≤ 9223372036854775807) (hi : ∀ z ∈ zs, inI z) : Ints (W.alloc bl) (.slice (some ⟨W.heap.size, 0, none⟩) n n) zs := by
  subst hb
  subst hn
  refine ⟨⟨by simp, some ⟨W.heap.size, 0, none⟩, zs.length, rfl, Nat.le_refl _, hm, Or.inr ⟨W.heap.size, 0, rfl, ?_, fun j u hj => ?_⟩⟩, hi⟩
  · rw [World.size_alloc]; exact Nat.lt_succ_self _
  · rw [Nat.zero_add, cell_of_row _ W.heap.size _ _ _ (0, 0) (heap_alloc_new W _)]
    simpa using hj

def exI : It := ⟨1, 3, 5, 9⟩
theorem exI_in : exI.inI := ⟨⟨by decide, by decide⟩, ⟨by decide, by decide⟩, ⟨by decide, by decide⟩, ⟨by decide, by decide⟩⟩
theorem add_exQ : addQ 2 [] exI = (2, [exI], 0) := by
  unfold addQ
  rw [if_neg (by decide), if_neg (by decide)]
  rfl
theorem take_ex4 : takeQ 2 [exI] (hitQ 1 3 4 false) = (2, [exI], []) := by
  unfold takeQ
  rw [if_neg (by decide)]
  rfl
theorem take_ex5 : takeQ 2 [exI] (hitQ 1 3 5 false) = (2, [], [9]) := by
  unfold takeQ
  rw [if_neg (by decide)]
  rfl

set_option maxHeartbeats 8000000 in
theorem sureQ (C : ConQ) (w : World) : Calls Tryd.prog 5 #[] w fun y w' => y = .returned (.bool true) ∧ Below w.heap.size w w' := by
  have i2 : inI 2 := ⟨by decide, by decide⟩
  have CA := C.addI (Its.nil_ w) i2 exI_in (by simp) _ add_exQ.symm 1 rfl
  have CT4 := Lib.hid fun A c W (h : Its W (.slice A 1 c) [exI]) => C.takeI h i2 (by simp) _ take_ex4.symm 1 0 rfl rfl
  have CT5 := Lib.hid fun A c W (h : Its W (.slice A 1 c) [exI]) => C.takeI h i2 (by simp) _ take_ex5.symm 0 1 rfl rfl
  simp only [er_zero] at CA
  have CA := Lib.hid CA
  clear i2
  go_enter Tryd.func5, Tryd.ntmps5
  go_upto_region 2 with (go_at_call 7; go_must (refine CA.out.mono ?_; rintro y w1 ⟨A1, c1, rfl, hi1, hb1⟩; have H1 := Lib.hid (And.intro hi1 hb1); clear hi1 hb1))
  obtain ⟨W2, g, hW2, hg, hb2, hq2, hsz2⟩ := one_box w1 (.cells #[.int .i64 2, .slice A1 1 c1] 31)
  rw [← hW2, ← hg]
  obtain ⟨x0, x1⟩ := cells2 hq2
  have H2 := Lib.hid (And.intro (H1.out.2.trans (hb2.mono H1.out.2.size)) (And.intro hq2 (H1.out.1.below hb2)))
  clear hW2 hg hb2 hq2 hsz2
  go_upto_region 3 with (go_at_call 9; go_must (refine (CT4.out _ _ _ H2.out.2.2).mono ?_; rintro y w3 ⟨A3, c3, A4, c4, rfl, -, hi4, hb3⟩; have H3 := Lib.hid (And.intro hi4.ints hb3); clear hi4 hb3))
  obtain ⟨W4, g4, hW4, hg4, hb4, hq4, hsz4⟩ := one_box w3 (.cells #[.int .i64 2, .slice A3 1 c3] 31)
  rw [← hW4]
  have hb24 : Below W2.heap.size W2 W4 := H3.out.2.trans (hb4.mono H3.out.2.size)
  obtain ⟨x0, x1⟩ := cells2 ((hb24.block g (obj_lt H2.out.2.1)).trans H2.out.2.1)
  have H4 := Lib.hid (And.intro hb24 (H2.out.2.2.below hb24))
  clear hW4 hb4 hq4 hsz4 hb24
  go_upto_region 4 with (go_at_call 9; go_must (refine (CT5.out _ _ _ H4.out.2).mono ?_; rintro y w5 ⟨A5, c5, A6, c6, rfl, -, hi6, hb5⟩; have H5 := Lib.hid (And.intro hi6.ints hb5); clear hi6 hb5))
  obtain ⟨W6, g6, hW6, hg6, hb6, hq6, hsz6⟩ := one_box w5 (.cells #[.int .i64 2, .slice A5 0 c5] 31)
  rw [← hW6]
  have hbw6 : Below w.heap.size w W6 := H2.out.1.trans ((H4.out.1.trans ((H5.out.2.trans (hb6.mono H5.out.2.size)).mono H4.out.1.size)).mono H2.out.1.size)
  have H6 := Lib.hid (And.intro hbw6 ((H5.out.1.below hb6).below (below_alloc W6 (.cells #[.int .i64 9] 3))))
  have HLI := Lib.hid (show Ints (W6.alloc (.cells #[.int .i64 9] 3)) (.slice (some ⟨W6.heap.size, 0, none⟩) 1 1) [9] from Ints.lit rfl rfl (by decide) fun z hz => by rw [List.mem_singleton.1 hz]; exact ⟨by decide, by decide⟩)
  clear hW6 hb6 hq6 hsz6 hbw6 x0 x1
  go_wp2_with (go_at_call 16; go_must (refine (ints_any _ _ _ [9] _ _ _ [9] _ H6.out.2 HLI.out true (decide_eq_true rfl).symm).mono ?_; rintro y w7 ⟨rfl, hb7⟩; have H7 := Lib.hid (H6.out.1.trans (((below_alloc W6 (.cells #[.int .i64 9] 3)).trans (hb7.mono (below_alloc W6 (.cells #[.int .i64 9] 3)).size)).mono H6.out.1.size)); clear hb7))
  go_ret
  exact ⟨rfl, H7.out⟩

end Go.Proofs.YtojejcafahighaaDoor.pk
