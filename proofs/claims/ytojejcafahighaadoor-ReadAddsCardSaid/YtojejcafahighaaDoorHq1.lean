/-
  The program's own queue: numberMay, itemMay, the look at the items, may, Check.
-/
import Derived.Test.YtojejcafahighaaDoorConQ
import Derived.Shelf.Abstract
namespace Go.Proofs.YtojejcafahighaaDoor.pk
open Go Go.RowKit
set_option maxRecDepth 100000

theorem num_may (n : Int) (w : World) (b : Bool) (hb : b = numB n) : Calls Tryd.prog 31 #[.int .i64 n] w fun y w' => y = .returned (.bool b) ∧ w = w' := by
  have HB := Lib.hid hb
  clear hb
  have hc : ¬ 0 ≤ n ∨ (0 ≤ n ∧ ¬ n ≤ 1099511627776) ∨ (0 ≤ n ∧ n ≤ 1099511627776) := by omega
  rcases hc with h1 | ⟨h1, h2⟩ | ⟨h1, h2⟩
  all_goals
    go_enter Tryd.func31, Tryd.ntmps31
    go_wp2_with fail
    go_ret
    exact ⟨ret_bool (by rw [HB.out]; first | exact (numB_true.2 (by omega)).symm | exact (numB_false.2 (by omega)).symm), rfl⟩

set_option maxHeartbeats 4000000 in
theorem itemMay_any (x : It) (w : World) (b : Bool) (hb : b = itB x) :
    Calls Tryd.prog 20 #[.agg #[.int .i64 x.term, .int .i64 x.round, .int .i64 x.index, .int .i64 x.token]] w fun y w' => y = .returned (.bool b) ∧ Below w.heap.size w w' := by
  obtain ⟨W1, g, hW1, hg, hb1, hq, hsz⟩ := one_box w (.cells #[.int .i64 x.term, .int .i64 x.round, .int .i64 x.index, .int .i64 x.token] 37)
  have HW := Lib.hid (And.intro hW1 hg)
  have HE := Lib.hid (And.intro hb1 (And.intro hq hsz))
  obtain ⟨x0, x1, x2, x3⟩ := cells4 hq
  have C0 := Lib.hid fun n => num_may n W1 _ rfl
  have hcase : (numB x.term = false ∧ b = false) ∨ (numB x.term = true ∧ numB x.round = false ∧ b = false) ∨ (numB x.term = true ∧ numB x.round = true ∧ numB x.index = false ∧ b = false) ∨ (numB x.term = true ∧ numB x.round = true ∧ numB x.index = true ∧ b = numB x.token) := by
    rw [hb, itB_parts]
    cases numB x.term <;> cases numB x.round <;> cases numB x.index <;> simp
  clear hW1 hg hb1 hq hsz hb
  rcases hcase with ⟨h0, rfl⟩ | ⟨h0, h1, rfl⟩ | ⟨h0, h1, h2, rfl⟩ | ⟨h0, h1, h2, rfl⟩
  all_goals
    go_enter Tryd.func20, Tryd.ntmps20
    go_upto_region 1 with fail
    rw [← HW.out.1, ← HW.out.2]
    go_wp2_with (go_at_call 31; go_must (refine (C0.out _).mono ?_; rintro y w1 ⟨rfl, rfl⟩))
    go_ret
    exact ⟨rfl, HE.out.1⟩

set_option maxHeartbeats 4000000 in
theorem bad_any (x : It) (w : World) (b : Bool) (hb : b = !itB x) :
    Calls Tryd.prog 30 #[.agg #[.int .i64 x.term, .int .i64 x.round, .int .i64 x.index, .int .i64 x.token]] w fun y w' => y = .returned (.bool b) ∧ Below w.heap.size w w' := by
  obtain ⟨W1, g, hW1, hg, hb1, hq, hsz⟩ := one_box w (.cells #[.int .i64 x.term, .int .i64 x.round, .int .i64 x.index, .int .i64 x.token] 37)
  have HW := Lib.hid (And.intro hW1 hg)
  have HE := Lib.hid hb1
  obtain ⟨x0, x1, x2, x3⟩ := cells4 hq
  have CI := Lib.hid (itemMay_any x W1 (!b) (by rw [hb, Bool.not_not]))
  clear hW1 hg hb1 hq hsz hb
  cases b
  all_goals
    go_enter Tryd.func30, Tryd.ntmps30
    go_upto_region 1 with fail
    rw [← HW.out.1, ← HW.out.2]
    go_wp2_with (go_at_call 20; go_must (refine CI.out.mono ?_; rintro y w1 ⟨rfl, hb1⟩; have H1 := Lib.hid hb1; clear hb1))
    go_ret
    exact ⟨rfl, HE.out.trans (H1.out.mono HE.out.size)⟩

/-- Where the first item stands that may not be; -1: none does. -/
structure BadQ (l : List It) (r : Int) : Prop where
  none_ : l.all itB = true → r = -1
  some_ : l.all itB = false → 0 ≤ r
  at_ : ∀ j (hj : j < l.length), (∀ e ∈ l.take j, itB e = true) → itB l[j] = false → r = (j : Int)
theorem badQ_ex : ∀ l : List It, ∃ r, BadQ l r
  | [] => ⟨-1, ⟨fun _ => rfl, fun h => by simp at h, fun j hj => by simp at hj⟩⟩
  | x :: l => by
    obtain ⟨r, h⟩ := badQ_ex l
    cases hx : itB x with
    | false =>
      refine ⟨0, ⟨fun h0 => by simp [hx] at h0, fun _ => by omega, fun j hj ht _ => ?_⟩⟩
      match j with
      | 0 => rfl
      | j + 1 => have := ht x (by simp); rw [hx] at this; cases this
    | true =>
      have hall : (x :: l).all itB = l.all itB := by simp [hx]
      cases hl : l.all itB with
      | true =>
        refine ⟨-1, ⟨fun _ => rfl, fun h0 => (by rw [hall, hl] at h0; cases h0), fun j hj ht hf => ?_⟩⟩
        rw [List.all_eq_true] at hl
        match j with
        | 0 => simp only [List.getElem_cons_zero] at hf; rw [hx] at hf; cases hf
        | j + 1 => simp only [List.getElem_cons_succ] at hf; rw [hl _ (List.getElem_mem _)] at hf; cases hf
      | false =>
        refine ⟨r + 1, ⟨fun h0 => (by rw [hall, hl] at h0; cases h0), fun _ => by have := h.some_ hl; omega, fun j hj ht hf => ?_⟩⟩
        match j with
        | 0 => simp only [List.getElem_cons_zero] at hf; rw [hx] at hf; cases hf
        | j + 1 =>
          simp only [List.getElem_cons_succ] at hf
          have := h.at_ j (by simpa using hj) (fun e he => ht e (by simp [he])) hf
          rw [this]
          rfl

set_option maxHeartbeats 8000000 in
theorem IdxQ_any (A : Option Addr) (n c : Nat) (l : List It) (w : World) (h : Its w (.slice A n c) l) (r : Int) (hr : BadQ l r) :
    Calls Tryd.prog 39 #[.slice A n c, .func (.func 30) #[] #[]] w fun y w' => y = .returned (.int .i64 r) ∧ Below w.heap.size w w' := by
  have eg : ∀ args w, (callFunc 30 args).run Tryd.prog w = .ok (.enter 30 args) w := enters_of Tryd.func30 (by kernel_rfl) rfl
  obtain ⟨hn, hnc, hcm⟩ := h.len_
  have in1 : (n : Int) ≤ 9223372036854775807 := by omega
  have HH := Lib.hid (And.intro hn (And.intro hr h))
  have HB := Lib.hid fun W x b hb => bad_any x W b hb
  clear h hn hnc hcm hr
  go_enter Tryd.func39, Tryd.ntmps39
  go_wp2_with fail
  go_loopw [8] (fun ii wr => ∃ (j : Nat), j ≤ n ∧ ii = .int .i64 (j : Int) ∧ Hid (∀ e ∈ l.take j, itB e = true) ∧ Below w.heap.size w wr) (fun ii _ => n - (intOf ii).toNat)
  case atStart => exact ⟨0, Nat.zero_le _, rfl, Lib.hid (by simp), Below.refl _ _⟩
  case round =>
    obtain ⟨j, hj, rfl, HT, hbw⟩ := hrel
    have HBW := Lib.hid hbw
    by_cases hlt : j < n
    · have ii : (j : Int) < (n : Int) := by omega
      have hjl : j < l.length := by have := HH.out.1; omega
      obtain ⟨bk, off, rfl, hbb, q0, q1, q2, q3⟩ := (HH.out.2.2.below hbw).1.at_ j hjl
      have hat := HH.out.2.1.at_ j hjl HT.out
      have htk : ∀ e ∈ l.take (j + 1), (e ∈ l.take j ∨ e = l[j]) := fun e he => by
        rw [List.take_succ_eq_append_getElem hjl] at he
        rcases List.mem_append.mp he with h1 | h1
        · exact Or.inl h1
        · exact Or.inr (List.mem_singleton.mp h1)
      obtain ⟨x, hx⟩ : ∃ x, x = l[j] := ⟨_, rfl⟩
      rw [← hx] at q0 q1 q2 q3 hat htk
      cases hf : itB x with
      | false =>
        have hrj := Lib.hid (hat hf)
        have HU1 := Lib.hid (HB.out wr x true (by rw [hf]; rfl))
        clear hat htk hx hf hbb hbw hjl
        go_wp2_with (go_at_fn 30; refine HU1.out.mono ?_; rintro y w' ⟨rfl, hb1⟩; have HB1 := Lib.hid hb1; clear hb1)
        go_ret
        exact ⟨by rw [hrj.out]; rfl, HBW.out.trans (HB1.out.mono HBW.out.size)⟩
      | true =>
        have HT2 : Hid (∀ e ∈ l.take (j + 1), itB e = true) := Lib.hid fun e he => by
          rcases htk e he with h | h
          · exact HT.out e h
          · rw [h]; exact hf
        have HU1 := Lib.hid (HB.out wr x false (by rw [hf]; rfl))
        clear hat htk hx hf hbb hbw hjl
        go_wp2_with (go_at_fn 30; refine HU1.out.mono ?_; rintro y w' ⟨rfl, hb1⟩; have HB1 := Lib.hid (HBW.out.trans (hb1.mono HBW.out.size)); clear hb1)
        go_roundw
        case rel => exact ⟨j + 1, by omega, by go_num, HT2, HB1.out⟩
        case measure => simp [intOf]; omega
    · obtain rfl : j = n := by omega
      have ii : ¬ (j : Int) < (j : Int) := by omega
      have hm1 : r = -1 := HH.out.2.1.none_ (List.all_eq_true.2 fun e he => HT.out e (by rw [List.take_of_length_le (by have := HH.out.1; omega)]; exact he))
      have HM := Lib.hid hm1
      clear hm1 hbw
      go_wp2_with fail
      go_ret
      exact ⟨by rw [HM.out]; rfl, HBW.out⟩

set_option maxHeartbeats 2000000 in
theorem ContQ_any (A : Option Addr) (n c : Nat) (l : List It) (w : World) (h : Its w (.slice A n c) l) (b : Bool) (hb : b = !l.all itB) :
    Calls Tryd.prog 29 #[.slice A n c, .func (.func 30) #[] #[]] w fun y w' => y = .returned (.bool b) ∧ Below w.heap.size w w' := by
  obtain ⟨r, hr⟩ := badQ_ex l
  have CI := Lib.hid (IdxQ_any A n c l w h r hr)
  have hcase : (r = -1 ∧ b = false) ∨ (0 ≤ r ∧ b = true) := by
    cases hl : l.all itB with
    | true => exact Or.inl ⟨hr.none_ hl, by rw [hb, hl]; rfl⟩
    | false => exact Or.inr ⟨hr.some_ hl, by rw [hb, hl]; rfl⟩
  clear h hb hr
  rcases hcase with ⟨rfl, rfl⟩ | ⟨h0, rfl⟩
  all_goals
    go_enter Tryd.func29, Tryd.ntmps29
    go_wp2_with (go_at_call 39; go_must (refine CI.out.mono ?_; rintro y w1 ⟨rfl, hb1⟩; have H1 := Lib.hid hb1; clear hb1))
    go_ret
    exact ⟨rfl, H1.out⟩

set_option maxHeartbeats 4000000 in
theorem may_any (lim : Int) (l : List It) (A : Option Addr) (n c : Nat) (w : World) (h : Its w (.slice A n c) l) (b : Bool) (hb : b = mayQ lim l) :
    Calls Tryd.prog 19 #[.agg #[.int .i64 lim, .slice A n c]] w fun y w' => y = .returned (.bool b) ∧ Below w.heap.size w w' := by
  obtain ⟨W1, g, hW1, hg, hb1, hq, hsz⟩ := one_box w (.cells #[.int .i64 lim, .slice A n c] 31)
  have HW := Lib.hid (And.intro hW1 hg)
  have HE := Lib.hid hb1
  obtain ⟨hn, hnc, hcm⟩ := h.len_
  obtain ⟨x0, x1⟩ := cells2 hq
  have in1 : (n : Int) ≤ 9223372036854775807 := by omega
  have CC := Lib.hid fun b hb => ContQ_any A n c l W1 (h.below hb1) b hb
  have hcase : (lim < 1 ∧ b = false) ∨ (¬ lim < 1 ∧ 4096 < lim ∧ b = false) ∨ (¬ lim < 1 ∧ ¬ 4096 < lim ∧ lim < (n : Int) ∧ b = false) ∨ (¬ lim < 1 ∧ ¬ 4096 < lim ∧ ¬ lim < (n : Int) ∧ b = l.all itB) := by
    rw [hb]
    unfold mayQ
    rw [← hn]
    by_cases c1 : lim < 1
    · left; exact ⟨c1, by rw [decide_eq_false (by omega)]; rfl⟩
    · right
      by_cases c2 : 4096 < lim
      · left; exact ⟨c1, c2, by rw [decide_eq_false (show ¬ lim ≤ 4096 by omega), Bool.and_false, Bool.false_and, Bool.false_and]⟩
      · right
        by_cases c3 : lim < (n : Int)
        · left; exact ⟨c1, c2, c3, by rw [decide_eq_false (show ¬ (n : Int) ≤ lim by omega), Bool.and_false, Bool.false_and]⟩
        · right; exact ⟨c1, c2, c3, by rw [decide_eq_true (show 1 ≤ lim by omega), decide_eq_true (show lim ≤ 4096 by omega), decide_eq_true (show (n : Int) ≤ lim by omega)]; rfl⟩
  clear h hW1 hg hb1 hq hsz hb hn hnc hcm
  rcases hcase with ⟨c1, rfl⟩ | ⟨c1, c2, rfl⟩ | ⟨c1, c2, c3, rfl⟩ | ⟨c1, c2, c3, hb⟩
  case inl | inr.inl | inr.inr.inl =>
    go_enter Tryd.func19, Tryd.ntmps19
    go_upto_region 1 with fail
    rw [← HW.out.1, ← HW.out.2]
    go_wp2_with fail
    go_ret
    exact ⟨rfl, HE.out⟩
  · have CC1 := Lib.hid (CC.out (!b) (by rw [hb]))
    clear hb CC
    cases b
    all_goals
      go_enter Tryd.func19, Tryd.ntmps19
      go_upto_region 1 with fail
      rw [← HW.out.1, ← HW.out.2]
      go_wp2_with (go_at_call 29; go_must (refine CC1.out.mono ?_; rintro y w1 ⟨rfl, hb⟩; have H1 := Lib.hid hb; clear hb))
      go_ret
      exact ⟨rfl, HE.out.trans (H1.out.mono HE.out.size)⟩

set_option maxHeartbeats 4000000 in
theorem Check_any (lim : Int) (l : List It) (A : Option Addr) (n c : Nat) (w : World) (h : Its w (.slice A n c) l) (k : Nat) (hk : k = (if mayQ lim l = true then 0 else 1)) :
    Calls Tryd.prog 12 #[.agg #[.int .i64 lim, .slice A n c]] w fun y w' => y = .returned (er k) ∧ Below w.heap.size w w' := by
  obtain ⟨W1, g, hW1, hg, hb1, hq, hsz⟩ := one_box w (.cells #[.int .i64 lim, .slice A n c] 31)
  have HW := Lib.hid (And.intro hW1 hg)
  have HE := Lib.hid hb1
  obtain ⟨x0, x1⟩ := cells2 hq
  have CC := Lib.hid (may_any lim l A n c W1 (h.below hb1) _ rfl)
  clear h hW1 hg hb1 hq hsz
  cases hm : mayQ lim l with
  | true =>
    rw [hm] at CC hk
    obtain rfl : k = 0 := hk
    clear hm
    go_enter Tryd.func12, Tryd.ntmps12
    go_upto_region 1 with fail
    rw [← HW.out.1, ← HW.out.2]
    go_wp2_with (go_at_call 19; go_must (refine CC.out.mono ?_; rintro y w1 ⟨rfl, hb⟩; have H1 := Lib.hid hb; clear hb))
    go_ret
    exact ⟨rfl, HE.out.trans (H1.out.mono HE.out.size)⟩
  | false =>
    rw [hm] at CC hk
    obtain rfl : k = 1 := hk
    clear hm
    go_enter Tryd.func12, Tryd.ntmps12
    go_upto_region 1 with fail
    rw [← HW.out.1, ← HW.out.2]
    go_wp2_with (go_at_call 19; go_must (refine CC.out.mono ?_; rintro y w1 ⟨rfl, hb⟩; have H1 := Lib.hid hb; clear hb))
    go_ret
    exact ⟨rfl, HE.out.trans (H1.out.mono HE.out.size)⟩

end Go.Proofs.YtojejcafahighaaDoor.pk
