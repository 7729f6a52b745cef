/-
  The program's own log: what it counts, what follows, whether a log may be.
-/
import Derived.Test.YtlngcfaadfkbnaaDoorRefM
namespace Go.Proofs.YtlngcfaadfkbnaaDoor.pk
open Go Go.RowKit
set_option maxRecDepth 100000

def cntE (n : Int) : Bool := decide (1 ≤ n ∧ n ≤ 1099511627776)
def kndE (n : Int) : Bool := decide (0 ≤ n ∧ n ≤ 2)
/-- May an entry be, wherever it stands? -/
def fitE (e : En) : Bool := decide (1 ≤ e.index ∧ e.index ≤ 1099511627776 ∧ 1 ≤ e.term ∧ e.term ≤ 1099511627776 ∧ 0 ≤ e.kind ∧ e.kind ≤ 2 ∧ e.data.length ≤ 4096)
theorem cntE_true {n : Int} : cntE n = true ↔ 1 ≤ n ∧ n ≤ 1099511627776 := by unfold cntE; exact decide_eq_true_iff
theorem cntE_false {n : Int} : cntE n = false ↔ ¬ (1 ≤ n ∧ n ≤ 1099511627776) := by unfold cntE; exact decide_eq_false_iff_not
theorem kndE_true {n : Int} : kndE n = true ↔ 0 ≤ n ∧ n ≤ 2 := by unfold kndE; exact decide_eq_true_iff
theorem kndE_false {n : Int} : kndE n = false ↔ ¬ (0 ≤ n ∧ n ≤ 2) := by unfold kndE; exact decide_eq_false_iff_not
theorem fitE_true {e : En} : fitE e = true ↔ 1 ≤ e.index ∧ e.index ≤ 1099511627776 ∧ 1 ≤ e.term ∧ e.term ≤ 1099511627776 ∧ 0 ≤ e.kind ∧ e.kind ≤ 2 ∧ e.data.length ≤ 4096 := by unfold fitE; exact decide_eq_true_iff
theorem fitE_false {e : En} : fitE e = false ↔ ¬ (1 ≤ e.index ∧ e.index ≤ 1099511627776 ∧ 1 ≤ e.term ∧ e.term ≤ 1099511627776 ∧ 0 ≤ e.kind ∧ e.kind ≤ 2 ∧ e.data.length ≤ 4096) := by unfold fitE; exact decide_eq_false_iff_not

theorem counts_any (n : Int) (w : World) (b : Bool) (hb : b = cntE n) : Calls Tryd.prog 36 #[.int .i64 n] w fun y w' => y = .returned (.bool b) ∧ w = w' := by
  have HB := Lib.hid hb
  clear hb
  have hc : ¬ 1 ≤ n ∨ (1 ≤ n ∧ ¬ n ≤ 1099511627776) ∨ (1 ≤ n ∧ n ≤ 1099511627776) := by omega
  rcases hc with h1 | ⟨h1, h2⟩ | ⟨h1, h2⟩
  all_goals
    go_enter Tryd.func36, Tryd.ntmps36
    go_wp2_with fail
    go_ret
    exact ⟨ret_bool (by rw [HB.out]; first | exact (cntE_true.2 (by omega)).symm | exact (cntE_false.2 (by omega)).symm), rfl⟩
theorem isKind_any (n : Int) (w : World) (b : Bool) (hb : b = kndE n) : Calls Tryd.prog 51 #[.int .i64 n] w fun y w' => y = .returned (.bool b) ∧ w = w' := by
  have HB := Lib.hid hb
  clear hb
  have hc : ¬ 0 ≤ n ∨ (0 ≤ n ∧ ¬ n ≤ 2) ∨ (0 ≤ n ∧ n ≤ 2) := by omega
  rcases hc with h1 | ⟨h1, h2⟩ | ⟨h1, h2⟩
  all_goals
    go_enter Tryd.func51, Tryd.ntmps51
    go_wp2_with fail
    go_ret
    exact ⟨ret_bool (by rw [HB.out]; first | exact (kndE_true.2 (by omega)).symm | exact (kndE_false.2 (by omega)).symm), rfl⟩

set_option maxHeartbeats 4000000 in
theorem may_any (e : En) (A : Option Addr) (n c : Nat) (w : World) (hn : n = e.data.length) (hn2 : n ≤ 9223372036854775807) (b : Bool) (hb : b = fitE e) :
    Calls Tryd.prog 53 #[.agg #[.int .i64 e.index, .int .i64 e.term, .int .i64 e.kind, .slice A n c]] w fun y w' => y = .returned (.bool b) ∧ Below w.heap.size w w' := by
  obtain ⟨W1, g, hW1, hg, hb1, hq, hsz⟩ := one_box w (.cells #[.int .i64 e.index, .int .i64 e.term, .int .i64 e.kind, .slice A n c] 41)
  have HW := Lib.hid (And.intro hW1 hg)
  have HE := Lib.hid (And.intro hb1 (And.intro hq hsz))
  obtain ⟨x0, x1, x2, x3⟩ := cells4 hq
  have C0 := Lib.hid fun n => counts_any n W1 _ rfl
  have C2 := Lib.hid fun n => isKind_any n W1 _ rfl
  have in1 : (n : Int) ≤ 9223372036854775807 := by omega
  have hcase : (cntE e.index = false ∧ b = false) ∨ (cntE e.index = true ∧ cntE e.term = false ∧ b = false) ∨ (cntE e.index = true ∧ cntE e.term = true ∧ kndE e.kind = false ∧ b = false) ∨ (cntE e.index = true ∧ cntE e.term = true ∧ kndE e.kind = true ∧ ¬ (n : Int) ≤ 4096 ∧ b = false) ∨ (cntE e.index = true ∧ cntE e.term = true ∧ kndE e.kind = true ∧ (n : Int) ≤ 4096 ∧ b = true) := by
    rw [hb]
    by_cases h : fitE e = true
    · have h1 := fitE_true.1 h
      exact Or.inr (Or.inr (Or.inr (Or.inr ⟨cntE_true.2 ⟨h1.1, h1.2.1⟩, cntE_true.2 ⟨h1.2.2.1, h1.2.2.2.1⟩, kndE_true.2 ⟨h1.2.2.2.2.1, h1.2.2.2.2.2.1⟩, by omega, h⟩)))
    · have h := Bool.eq_false_iff.2 h
      have h1 := fitE_false.1 h
      cases h2 : cntE e.index with
      | false => exact Or.inl ⟨rfl, h⟩
      | true =>
        cases h3 : cntE e.term with
        | false => exact Or.inr (Or.inl ⟨rfl, rfl, h⟩)
        | true =>
          cases h4 : kndE e.kind with
          | false => exact Or.inr (Or.inr (Or.inl ⟨rfl, rfl, rfl, h⟩))
          | true =>
            have := cntE_true.1 h2
            have := cntE_true.1 h3
            have := kndE_true.1 h4
            exact Or.inr (Or.inr (Or.inr (Or.inl ⟨rfl, rfl, rfl, by omega, h⟩)))
  clear hW1 hg hb1 hq hsz hb hn
  rcases hcase with ⟨h0, rfl⟩ | ⟨h0, h1, rfl⟩ | ⟨h0, h1, h2, rfl⟩ | ⟨h0, h1, h2, h3, rfl⟩ | ⟨h0, h1, h2, h3, rfl⟩
  all_goals
    go_enter Tryd.func53, Tryd.ntmps53
    go_upto_region 1 with fail
    rw [← HW.out.1, ← HW.out.2]
    go_wp2_with (first
      | (go_at_call 36; go_must (refine (C0.out _).mono ?_; rintro y w1 ⟨rfl, rfl⟩))
      | (go_at_call 51; go_must (refine (C2.out _).mono ?_; rintro y w1 ⟨rfl, rfl⟩)))
    go_ret
    exact ⟨by first | rfl | exact ret_bool (decide_eq_false (by omega)) | exact ret_bool (decide_eq_true (by omega)), HE.out.1⟩

theorem good_fit {i t : Int} {e : En} : goodE i t e = (decide (e.index = i + 1) && decide (t ≤ e.term) && fitE e) := by
  rw [Bool.eq_iff_iff, Bool.and_eq_true, Bool.and_eq_true, goodE_iff, fitE_true, decide_eq_true_iff, decide_eq_true_iff]
  constructor <;> (intro h; omega)

set_option maxHeartbeats 4000000 in
theorem follow_any (i t : Int) (A : Option Addr) (n c : Nat) (l : List En) (w : World) (h : Ents w (.slice A n c) l) (hi : inI i) (ht : inI t) (hs : ∀ e ∈ l, e.data.length ≤ 9223372036854775807) (b : Bool) (hb : b = behindE i t l) :
    Calls Tryd.prog 37 #[.int .i64 i, .int .i64 t, .slice A n c] w fun y w' => y = .returned (.bool b) ∧ Below w.heap.size w w' := by
  obtain ⟨hn, hnc, hcm⟩ := h.len_
  have in1 : (n : Int) ≤ 9223372036854775807 := by omega
  have HH := Lib.hid (And.intro h (And.intro hn (And.intro hb hs)))
  have HI := Lib.hid (And.intro hi ht)
  clear h hn hnc hcm hb hi ht hs
  go_enter Tryd.func37, Tryd.ntmps37
  go_wp2_with fail
  go_loopw [0, 1, 11] (fun ss tt ii wr => ∃ (j : Nat) (i' t' : Int), j ≤ n ∧ ii = .int .i64 (j : Int) ∧ ss = .int .i64 i' ∧ tt = .int .i64 t' ∧ Hid (inI i' ∧ inI t' ∧ b = behindE i' t' (l.drop j)) ∧ Below w.heap.size w wr) (fun _ _ ii _ => n - (intOf ii).toNat)
  case atStart => exact ⟨0, i, t, Nat.zero_le _, rfl, rfl, rfl, Lib.hid ⟨HI.out.1, HI.out.2, by rw [List.drop_zero]; exact HH.out.2.2.1⟩, Below.refl _ _⟩
  case round =>
    obtain ⟨j, i', t', hj, rfl, rfl, rfl, HB, hbw⟩ := hrel
    by_cases hlt : j < n
    · have ii : (j : Int) < (n : Int) := by omega
      have hjl : j < l.length := by have := HH.out.2.1; omega
      obtain ⟨bk, off, Ad, cd, rfl, hbb, hok, q0, q1, q2, q3, -⟩ := HH.out.1.at_ j hjl
      have hbd := behindE_drop (i := i') (t := t') hjl
      have hsm := HH.out.2.2.2 _ (List.getElem_mem hjl)
      obtain ⟨e, he⟩ : ∃ e, e = l[j] := ⟨_, rfl⟩
      rw [← he] at hok q0 q1 q2 q3 hbd hsm
      rw [← HB.out.2.2, good_fit] at hbd
      have p0 := (hbw.cell (p := ⟨bk, off + j * 4, none⟩) hbb).trans q0
      have p1 := (hbw.cell (p := ⟨bk, off + j * 4 + 1, none⟩) hbb).trans q1
      have p2 := (hbw.cell (p := ⟨bk, off + j * 4 + 2, none⟩) hbb).trans q2
      have p3 := (hbw.cell (p := ⟨bk, off + j * 4 + 3, none⟩) hbb).trans q3
      have HM := Lib.hid fun W => may_any e Ad e.data.length cd W rfl hsm _ rfl
      obtain ⟨m, hm⟩ : ∃ m, m = e.data.length := ⟨_, rfl⟩
      rw [← hm] at p3 HM
      obtain ⟨k, hk⟩ : ∃ k, k = IntKind.i64.wrap (e.index - 1) := ⟨_, rfl⟩
      have hkk : (fitE e = true → (k = i' ↔ e.index = i' + 1)) := by
        intro hf
        have := fitE_true.1 hf
        rw [hk, IntWalk.i64_in _ (by omega)]
        omega
      have hbf := below_alloc wr (.cells #[.int .i64 e.index, .int .i64 e.term, .int .i64 e.kind, .slice Ad m cd] 41)
      have hcase : (k ≠ i' ∧ b = false) ∨ (k = i' ∧ e.term < t' ∧ b = false) ∨ (k = i' ∧ ¬ e.term < t' ∧ fitE e = false ∧ b = false) ∨ (k = i' ∧ ¬ e.term < t' ∧ fitE e = true ∧ e.index = i' + 1 ∧ b = behindE e.index e.term (l.drop (j + 1))) := by
        cases hf : fitE e with
        | false =>
          rw [hf, Bool.and_false, Bool.false_and] at hbd
          by_cases c1 : k = i'
          · by_cases c2 : e.term < t'
            · exact Or.inr (Or.inl ⟨c1, c2, hbd⟩)
            · exact Or.inr (Or.inr (Or.inl ⟨c1, c2, rfl, hbd⟩))
          · exact Or.inl ⟨c1, hbd⟩
        | true =>
          rw [hf, Bool.and_true] at hbd
          have hkk := hkk hf
          by_cases c1 : k = i'
          · have c3 := hkk.1 c1
            by_cases c2 : e.term < t'
            · rw [decide_eq_false (show ¬ t' ≤ e.term by omega), Bool.and_false, Bool.false_and] at hbd
              exact Or.inr (Or.inl ⟨c1, c2, hbd⟩)
            · rw [decide_eq_true c3, decide_eq_true (show t' ≤ e.term by omega), Bool.true_and, Bool.true_and, ← c3] at hbd
              exact Or.inr (Or.inr (Or.inr ⟨c1, c2, rfl, c3, hbd⟩))
          · rw [decide_eq_false (fun h => c1 (hkk.2 h)), Bool.false_and, Bool.false_and] at hbd
            exact Or.inl ⟨c1, hbd⟩
      have hke := hk.symm
      have HBD := Lib.hid (And.intro hbw hok)
      clear hbb q0 q1 q2 q3 hbd he hm hbw hkk hk hjl hsm hok
      rcases hcase with ⟨c1, c2⟩ | ⟨c1, c2, c3⟩ | ⟨c1, c2, c3, c4⟩ | ⟨c1, c2, c3, c4, c5⟩
      · have HR := Lib.hid c2
        clear c2
        go_wp2_with fail
        go_ret
        exact ⟨ret_bool HR.out.symm, below_round HBD.out.1 (below_alloc _ _)⟩
      · have HR := Lib.hid c3
        clear c3
        go_wp2_with fail
        go_ret
        exact ⟨ret_bool HR.out.symm, below_round HBD.out.1 (below_alloc _ _)⟩
      · have HR := Lib.hid c4
        clear c4
        go_wp2_with (go_at_call 53; go_must (refine (HM.out _).mono ?_; rintro y w1 ⟨rfl, hb1⟩; have HB1 := Lib.hid hb1; clear hb1))
        go_ret
        exact ⟨ret_bool HR.out.symm, below_round HBD.out.1 ((below_alloc _ _).trans (HB1.out.mono (by rw [World.size_alloc]; omega)))⟩
      · have HR := Lib.hid (And.intro c4 c5)
        clear c4 c5
        have HQ := Lib.hid fun W (hW : Below (wr.alloc (.cells #[.int .i64 e.index, .int .i64 e.term, .int .i64 e.kind, .slice Ad m cd] 41)).heap.size _ W) => cells4 ((hW.block wr.heap.size (by rw [World.size_alloc]; omega)).trans (heap_alloc_new wr (.cells #[.int .i64 e.index, .int .i64 e.term, .int .i64 e.kind, .slice Ad m cd] 41)))
        go_wp2_with (go_at_call 53; go_must (refine (HM.out _).mono ?_; rintro y w1 ⟨rfl, hb1⟩; obtain ⟨x0, x1, x2, x3⟩ := HQ.out _ hb1; have HB1 := Lib.hid hb1; clear hb1))
        go_quiet (fail)
        go_wp2_with fail
        go_roundw
        case rel => exact ⟨j + 1, e.index, e.term, by omega, by go_num, rfl, rfl, Lib.hid ⟨HBD.out.2.1, HBD.out.2.2.1, HR.out.2⟩, below_drawn (below_round HBD.out.1 ((below_alloc _ _).trans (HB1.out.mono (by rw [World.size_alloc]; omega)))) _⟩
        case measure => simp [intOf]; omega
    · obtain rfl : j = n := by omega
      have ii : ¬ (j : Int) < (j : Int) := by omega
      go_wp2_with fail
      go_ret
      exact ⟨by have := HB.out.2.2; rw [List.drop_eq_nil_of_le (by have := HH.out.2.1; omega)] at this; rw [this]; rfl, hbw⟩

end Go.Proofs.YtlngcfaadfkbnaaDoor.pk
