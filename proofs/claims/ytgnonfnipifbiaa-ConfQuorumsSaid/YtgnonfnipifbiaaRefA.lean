/-
  The document's own Agreed; the law's own 'ints': walked.
-/
import Derived.Test.YtgnonfnipifbiaaMarks
namespace Go.Proofs.Ytgnonfnipifbiaa.pk
open Go Go.RowKit
set_option maxRecDepth 100000

theorem agreedK_getD {c : List Int} {l : List (Int × Int)} {k : Nat} (h : k < l.length) :
    agreedK c l (k + 1) = if agreedK c l k < (l.getD k (0, 0)).2 ∧ quorumC c (atLeast l (l.getD k (0, 0)).2) = true then (l.getD k (0, 0)).2 else agreedK c l k := by
  rw [agreedK_next h]
  have e : l.getD k (0, 0) = l[k] := by simp [List.getD, List.getElem?_eq_getElem h]
  rw [e]
  rfl
theorem atLeast_getD {l : List (Int × Int)} {n : Int} {k : Nat} (h : k < l.length) : atLeast (l.take (k + 1)) n = atLeast (l.take k) n ++ (if n ≤ (l.getD k (0, 0)).2 then [(l.getD k (0, 0)).1] else []) := by
  have e : l.getD k (0, 0) = l[k] := by simp [List.getD, List.getElem?_eq_getElem h]
  rw [atLeast_next h, e]

set_option maxHeartbeats 8000000 in
theorem Agreed_any (A : Option Addr) (m c : Nat) (zs : List Int) (A' : Option Addr) (m' c' : Nat) (l : List (Int × Int)) (w : World) (h : Ints w (.slice A m c) zs) (h' : Marks w (.slice A' m' c') l) (hb : m ≤ 1000000000) (hb' : m' ≤ 1000000000) (r : Int) (hr : r = agreedC zs l) :
    Calls Try.prog 18 #[.slice A m c, .slice A' m' c'] w fun y w' => y = .returned (.int .i64 r) ∧ Below w.heap.size w w' := by
  obtain ⟨hm, hmc, hcm, hat⟩ := h'.at_
  have im : (m' : Int) ≤ 1000000000 := by omega
  have HM := Lib.hid (And.intro hm (And.intro hat (And.intro hr h'.2)))
  have HH := Lib.hid h
  have HB := Lib.hid hb
  clear h h' hm hmc hcm hat hr hb hb'
  go_enter Try.func18, Try.ntmps18
  go_wp2_with fail
  go_loopw [5, 6] (fun bb ii wr => ∃ (k : Nat), k ≤ m' ∧ bb = .int .i64 (agreedK zs l k) ∧ ii = .int .i64 (k : Int) ∧ Below w.heap.size w wr) (fun _ ii _ => m' - (intOf ii).toNat)
  case atStart => exact ⟨0, Nat.zero_le _, rfl, rfl, Below.refl _ _⟩
  case round =>
    obtain ⟨k, hk, rfl, rfl, hbw⟩ := hrel
    have HW := Lib.hid hbw
    clear hbw
    by_cases hlt : k < m'
    · have hkl : k < l.length := by have := HM.out.1; omega
      have HK := Lib.hid hkl
      have ik : (k : Int) < (m' : Int) := by omega
      have ik0 : (0 : Int) ≤ (k : Int) := by omega
      have HC := Lib.hid (May_any A m c zs)
      obtain ⟨q, hq⟩ : ∃ q, q = mayC zs := ⟨_, rfl⟩
      rw [← hq] at HC
      cases q with
      | false =>
        have hr0 : r = agreedK zs l k := by
          rw [HM.out.2.2.1, agreed_not hq.symm]
          have : ∀ (x : List (Int × Int)), x.foldl (stepC zs l) 0 = 0 := fun x => by
            induction x with
            | nil => rfl
            | cons y x ih => rw [List.foldl_cons, show stepC zs l 0 y = 0 by unfold stepC quorumC; rw [← hq]; simp]; exact ih
          exact (this (l.take k)).symm
        rw [← hr0]
        clear hr0 hq hkl
        go_wp2_with (go_at_call 27; go_must (refine (HC.out _ (HH.out.below HW.out) _ rfl).mono ?_; rintro y w1 ⟨rfl, hb1⟩; have HB1 := Lib.hid (HW.out.trans (hb1.mono HW.out.size)); clear hb1))
        go_ret
        exact ⟨rfl, HB1.out⟩
      | true =>
        obtain ⟨b, off, rfl, hb, hc⟩ := HM.out.2.1 (by omega)
        obtain ⟨q1, q2⟩ := hc k hlt
        have hnx := agreedK_getD (c := zs) hkl
        obtain ⟨n, hn⟩ : ∃ n, n = (l.getD k (0, 0)).2 := ⟨_, rfl⟩
        rw [← hn] at q2 hnx
        have HX := Lib.hid hnx
        have HCL := Lib.hid (And.intro hb (And.intro hc (And.intro q2 hn)))
        obtain ⟨best, hbest⟩ : ∃ best, best = agreedK zs l k := ⟨_, rfl⟩
        rw [← hbest] at HX ⊢
        have HQ := Lib.hid (And.intro hq hbest)
        clear hb hc hn hnx q1 q2 hq hbest hkl
        go_upto_region 5 with (go_at_call 27; go_must (refine (HC.out _ (HH.out.below HW.out) _ rfl).mono ?_; rintro y w1 ⟨rfl, hb1⟩; have HB1 := Lib.hid (HW.out.trans (hb1.mono HW.out.size)); have g2 := (HB1.out.cell (p := ⟨b, off + k * 2 + 1, none⟩) HCL.out.1).trans HCL.out.2.2.1; clear hb1))
        go_wp2_with fail
        clear g2
        go_loopw [8, 9] (fun v jj wj => ∃ (j : Nat), j ≤ m' ∧ jj = .int .i64 (j : Int) ∧ wj.ownsRow w.heap.size 3 1 v (atLeast (l.take j) n).length ((atLeast (l.take j) n).map (Value.int .i64)) ∧ Below w.heap.size w wj) (fun _ jj _ => m' - (intOf jj).toNat)
        case atStart => exact ⟨0, Nat.zero_le _, rfl, by simp only [List.take_zero]; exact World.ownsRow_nil _ _ _ _, HB1.out⟩
        case round =>
          obtain ⟨j, hj, rfl, how, hbw⟩ := hrel
          have hll := atLeast_len (l.take j) n
          rw [List.length_take] at hll
          have hI := Ints.of_own how (atLeast_in (fun q hq => HM.out.2.2.2 q (List.mem_of_mem_take hq)) n)
          obtain ⟨As, cs, rfl, -, -⟩ := hI.form
          have HO := Lib.hid (And.intro how (And.intro hbw (And.intro hI hll)))
          obtain ⟨na, hna⟩ : ∃ na, na = (atLeast (l.take j) n).length := ⟨_, rfl⟩
          have HNA := Lib.hid hna
          rw [← hna]
          clear how hbw hI hll hna
          by_cases hjt : j < m'
          · have ij : (j : Int) < (m' : Int) := by omega
            have ij0 : (0 : Int) ≤ (j : Int) := by omega
            obtain ⟨p1, p2⟩ := HCL.out.2.1 j hjt
            have e1 := (HO.out.2.1.cell (p := ⟨b, off + j * 2, none⟩) HCL.out.1).trans p1
            have e2 := (HO.out.2.1.cell (p := ⟨b, off + j * 2 + 1, none⟩) HCL.out.1).trans p2
            have hax := atLeast_getD (n := n) (show j < l.length by have := HM.out.1; omega)
            obtain ⟨x, hx⟩ : ∃ x, x = l.getD j (0, 0) := ⟨_, rfl⟩
            rw [← hx] at e1 e2 hax
            clear p1 p2 hx
            by_cases hge : n ≤ x.2
            · rw [if_pos hge] at hax
              have HAX := Lib.hid hax
              clear hax
              go_wp2_with (at_builtin; go_must (refine wpList_pushI (B := w.heap.size) (v := .slice As na cs) (zs := atLeast (l.take j) n) ?_ rfl (.tmp 38) (.tmp 44) rfl rfl wr.heap.size rfl x.1 (heap_alloc_new _ _) ?_ ?_ ?_))
              · rw [HNA.out]
                exact own_kept HO.out.1 ((Below.refl _ _).alloc (Nat.le_refl _) _)
              · have := HO.out.2.2.2; rw [← HNA.out] at this ⊢; omega
              · rw [World.size_alloc]; have := HO.out.2.1.size; omega
              · intro v' w' ho hg
                have O := Lib.hid (And.intro ho ((HO.out.2.1.alloc HO.out.2.1.size _).grown hg (by rw [World.size_alloc]; have := HO.out.2.1.size; omega) (fun q hq => by have := HO.out.1; rw [← HNA.out] at this; exact (this.lt q hq).1)))
                clear ho hg
                go_wp2_with fail
                go_roundw
                case rel => exact ⟨j + 1, by omega, by go_num, by rw [HAX.out, List.length_append, List.map_append]; exact O.out.1, O.out.2⟩
                case measure => simp [intOf]; omega
            · rw [if_neg hge, List.append_nil] at hax
              have HAX := Lib.hid hax
              clear hax
              go_wp2_with fail
              go_roundw
              case rel => exact ⟨j + 1, by omega, by go_num, by rw [HAX.out]; rw [HNA.out]; exact HO.out.1, HO.out.2.1⟩
              case measure => simp [intOf]; omega
          · obtain rfl : j = m' := by omega
            have ij : ¬ (j : Int) < (j : Int) := by omega
            have hall : l.take j = l := List.take_of_length_le (by have := HM.out.1; omega)
            rw [hall] at HO HNA
            have HCQ := Lib.hid (Quorum_any A m c zs As na cs (atLeast l n))
            have HI := Lib.hid (show Ints wr (.slice As na cs) (atLeast l n) by rw [HNA.out]; exact HO.out.2.2.1)
            obtain ⟨t, ht⟩ : ∃ t, t = quorumC zs (atLeast l n) := ⟨_, rfl⟩
            rw [← ht] at HCQ HX
            clear ht hall
            by_cases hgt : best < n
            · cases t with
              | true =>
                have hx := HX.out
                rw [if_pos ⟨hgt, rfl⟩] at hx
                have HX2 := Lib.hid hx
                clear hx
                go_wp2_with (go_at_call 13; go_must (refine (HCQ.out _ (HH.out.below HO.out.2.1) HI.out HB.out _ rfl).mono ?_; rintro y w2 ⟨rfl, hb2⟩; have HB2 := Lib.hid (HO.out.2.1.trans (hb2.mono HO.out.2.1.size)); clear hb2))
                go_roundw
                case rel => exact ⟨k + 1, by omega, by rw [HX2.out], by go_num, HB2.out⟩
                case measure => simp [intOf]; omega
              | false =>
                have hx := HX.out
                rw [if_neg (fun e => by cases e.2)] at hx
                have HX2 := Lib.hid hx
                clear hx
                go_wp2_with (go_at_call 13; go_must (refine (HCQ.out _ (HH.out.below HO.out.2.1) HI.out HB.out _ rfl).mono ?_; rintro y w2 ⟨rfl, hb2⟩; have HB2 := Lib.hid (HO.out.2.1.trans (hb2.mono HO.out.2.1.size)); clear hb2))
                go_roundw
                case rel => exact ⟨k + 1, by omega, by rw [HX2.out], by go_num, HB2.out⟩
                case measure => simp [intOf]; omega
            · have hx := HX.out
              rw [if_neg (fun e => hgt e.1)] at hx
              have HX2 := Lib.hid hx
              clear hx
              go_wp2_with fail
              go_roundw
              case rel => exact ⟨k + 1, by omega, by rw [HX2.out], by go_num, HO.out.2.1⟩
              case measure => simp [intOf]; omega
    · obtain rfl : k = m' := by omega
      have ik : ¬ (k : Int) < (k : Int) := by omega
      have hr0 : r = agreedK zs l k := by rw [HM.out.2.2.1, agreedK_all (by have := HM.out.1; omega)]
      rw [← hr0]
      clear hr0
      go_wp2_with fail
      go_ret
      exact ⟨rfl, HW.out⟩


set_option maxHeartbeats 2000000 in
theorem ints_any (A : Option Addr) (m c : Nat) (zs : List Int) (A' : Option Addr) (m' c' : Nat) (ys : List Int) (w : World) (h : Ints w (.slice A m c) zs) (h' : Ints w (.slice A' m' c') ys) (r : Bool) (hr : r = decide (zs = ys)) :
    Calls Try.prog 24 #[.slice A m c, .slice A' m' c'] w fun y w' => y = .returned (.bool r) ∧ Below w.heap.size w w' := by
  obtain ⟨hm, hmc, hcm, hat⟩ := h.at_
  obtain ⟨hm', hmc', hcm', hat'⟩ := h'.at_
  have im : (m : Int) ≤ 9223372036854775807 := by omega
  by_cases hl : m = m'
  · subst hl
    have HM := Lib.hid (And.intro hm (And.intro hat hr))
    have HM' := Lib.hid (And.intro hm' hat')
    clear h h' hm hmc hcm hat hr hm' hmc' hcm' hat'
    go_enter Try.func24, Try.ntmps24
    go_wp2_with fail
    go_loopw [5] (fun ii wr => ∃ k : Nat, k ≤ m ∧ ii = .int .i64 (k : Int) ∧ (∀ j, j < k → zs.getD j 0 = ys.getD j 0) ∧ Below w.heap.size w wr) (fun ii _ => m - (intOf ii).toNat)
    case atStart => exact ⟨0, Nat.zero_le _, rfl, fun j hj => absurd hj (Nat.not_lt_zero j), Below.refl _ _⟩
    case round =>
      obtain ⟨k, hk, rfl, hsame, hbw⟩ := hrel
      have HW := Lib.hid (And.intro hsame hbw)
      clear hsame hbw
      by_cases hlt : k < m
      · obtain ⟨b, off, rfl, hb, hc⟩ := HM.out.2.1 (by omega)
        obtain ⟨b', off', rfl, hb', hc'⟩ := HM'.out.2 (by omega)
        have g1 := (HW.out.2.cell (p := ⟨b, off + k, none⟩) hb).trans (hc k hlt)
        have g2 := (HW.out.2.cell (p := ⟨b', off' + k, none⟩) hb').trans (hc' k hlt)
        obtain ⟨x, hx⟩ : ∃ x, x = zs.getD k 0 := ⟨_, rfl⟩
        obtain ⟨y, hy⟩ : ∃ y, y = ys.getD k 0 := ⟨_, rfl⟩
        rw [← hx] at g1
        rw [← hy] at g2
        have HXY := Lib.hid (And.intro hx hy)
        have ik : (k : Int) < (m : Int) := by omega
        have ik0 : (0 : Int) ≤ (k : Int) := by omega
        clear hb hc hb' hc' hx hy
        by_cases hxy : x = y
        · subst hxy
          go_wp2_with fail
          go_region
          all_goals go_wp2_with fail
          go_roundw
          case rel => exact ⟨k + 1, by omega, by go_num, fun j hj => by
            by_cases hjk : j < k
            · exact HW.out.1 j hjk
            · obtain rfl : j = k := by omega
              exact HXY.out.1.symm.trans HXY.out.2, HW.out.2.drew⟩
          case measure => simp [intOf]; omega
        · have hrf : r = false := by
            rw [HM.out.2.2]
            refine decide_eq_false fun e => hxy ?_
            rw [HXY.out.1, HXY.out.2, e]
          subst hrf
          have hxb : (x == y) = false := by rw [beq_eq_false_iff_ne]; exact hxy
          clear hxy
          go_wp2_with fail
          go_region
          all_goals go_wp2_with fail
          go_ret
          exact ⟨rfl, HW.out.2.drew⟩
      · obtain rfl : k = m := by omega
        have ik : ¬ (k : Int) < (k : Int) := by omega
        have hrt : r = true := by
          rw [HM.out.2.2]
          refine decide_eq_true (List.ext_getElem? fun j => ?_)
          by_cases hj : j < k
          · have e := HW.out.1 j hj
            have h1 := HM.out.1
            have h2 := HM'.out.1
            simp only [List.getD, List.getElem?_eq_getElem (show j < zs.length by omega), List.getElem?_eq_getElem (show j < ys.length by omega), Option.getD_some] at e
            rw [List.getElem?_eq_getElem (show j < zs.length by omega), List.getElem?_eq_getElem (show j < ys.length by omega), e]
          · rw [List.getElem?_eq_none (by have := HM.out.1; omega), List.getElem?_eq_none (by have := HM'.out.1; omega)]
        subst hrt
        go_wp2_with fail
        go_ret
        exact ⟨rfl, HW.out.2⟩
  · have hr' : r = false := by rw [hr]; exact decide_eq_false (fun e => hl (by rw [hm, hm', e]))
    subst hr'
    have il : ¬ (m : Int) = (m' : Int) := by omega
    clear hl h h' hr hm hm' hmc hcm hmc' hcm' hat hat'
    go_enter Try.func24, Try.ntmps24
    go_wp2_with fail
    go_ret
    exact ⟨rfl, Below.refl _ _⟩

end Go.Proofs.Ytgnonfnipifbiaa.pk
