/-
  The program's own members: the library's sort, at no more than twelve numbers.
-/
import Derived.Test.YtgnonfnipifbiaaDoorHc2
import Derived.Sort.WalkA
import Derived.Lib.OwnBridge
namespace Go.Proofs.YtgnonfnipifbiaaDoor.pk
open Go Go.RowKit Go.Sort
set_option maxRecDepth 100000

theorem nan_any (x : Int) (w : World) : Calls Tryd.prog 55 #[.int .i64 x] w fun y w' => y = .returned (.bool false) ∧ w' = w := by
  go_enter Tryd.func55, Tryd.ntmps55
  go_wp2
  go_ret
  exact ⟨by simp, rfl⟩
theorem less_any (x y : Int) (w : World) : Calls Tryd.prog 41 #[.int .i64 x, .int .i64 y] w fun e w' => e = .returned (.bool (ltInt x y)) ∧ w' = w := by
  go_enter Tryd.func41, Tryd.ntmps41
  go_wp2_with (go_at_call 55; refine (nan_any _ _).mono ?_; rintro e w1 ⟨rfl, rfl⟩)
  go_ret
  exact ⟨rfl, rfl⟩

/-- A round of the inner loop: what the row is, as the world has it. -/
theorem row_cells {w wr : World} {g q : Nat} {d dj : Array Int} (hH : Holds (Value.int .i64) w g 0 d) (hs : dj.size = d.size) (hw : wr = putRow (Value.int .i64) (Sort.ahead w q) g 0 dj) :
    ∃ G : Nat → Int, (∀ t, G t = dj[t]!) ∧ ∀ t, t < d.size → wr.cell? ⟨g, t, none⟩ = some (.int .i64 (G t)) ∧ wr.frozen? ⟨g, t, none⟩ = false := by
  refine ⟨fun t => dj[t]!, fun _ => rfl, fun t ht => ?_⟩
  have h1 := holds_putRow (Value.int .i64) (Sort.ahead w q) g 0 d dj (holds_ahead _ w q g 0 d hH) hs t (by omega)
  rw [Nat.zero_add] at h1
  rw [hw]
  exact h1

set_option maxHeartbeats 4000000 in
theorem insert_own (g cap : Nat) (d : Array Int) (w : World) (hH : Holds (Value.int .i64) w g 0 d) (hsz : d.size ≤ 1000000) :
    Calls Tryd.prog 35 #[.slice (some ⟨g, 0, none⟩) d.size cap, .int .i64 0, .int .i64 (d.size : Int)] w fun e w' =>
      e = .returned (.tuple #[]) ∧ ∃ q, w' = putRow (Value.int .i64) (Sort.ahead w q) g 0 (Sort.insertionSort ltInt d 0 d.size) := by
  obtain ⟨n, hn⟩ : ∃ n, n = d.size := ⟨_, rfl⟩
  have HH := Lib.hid (And.intro hH (And.intro hn hsz))
  have im : (n : Int) ≤ 1000000 := by omega
  rw [← hn]
  clear hH hn hsz
  go_enter Tryd.func35, Tryd.ntmps35
  go_wp2
  go_loopw [6] (fun vi wr => ∃ (i q : Nat) (dk : Array Int), vi = .int .i64 (i : Int) ∧ 0 < i ∧ i ≤ n + 1 ∧ dk.size = d.size ∧ wr = putRow (Value.int .i64) (Sort.ahead w q) g 0 dk ∧
      Hid (insOuter ltInt 0 n i dk = insOuter ltInt 0 n 1 d)) (fun vi _ => n + 1 - (intOf vi).toNat)
  case atStart => exact ⟨1, 0, d, by go_num, by omega, by omega, rfl, (putRow_self _ _ _ _ _ HH.out.1).symm, Lib.hid rfl⟩
  case round =>
    obtain ⟨i, q, dk, rfl, hi0, hin, hsk, hwr, HO⟩ := hrel
    by_cases hlt : i < n
    · have ii : (i : Int) < (n : Int) := by omega
      go_wp2_with fail
      go_loopw [7] (fun vj wr2 => ∃ (j p : Nat) (dj : Array Int), vj = .int .i64 (j : Int) ∧ j ≤ i ∧ dj.size = d.size ∧ wr2 = putRow (Value.int .i64) (Sort.ahead w p) g 0 dj ∧
          Hid (insInner ltInt 0 j dj = insInner ltInt 0 i dk)) (fun vj _ => (intOf vj).toNat)
      case atStart => exact ⟨i, q, dk, rfl, Nat.le_refl _, hsk, rfl, Lib.hid rfl⟩
      case round =>
        obtain ⟨j, p, dj, rfl, hji, hsj, hw2, HI⟩ := hrel
        obtain ⟨G, hG, hcf⟩ := row_cells HH.out.1 hsj hw2
        have hn := HH.out.2.1
        have hcw : ∀ t, t < n → wr.cell? ⟨g, t, none⟩ = some (.int .i64 (G t)) := fun t ht => (hcf t (by omega)).1
        have hfw : ∀ t, t < n → wr.frozen? ⟨g, t, none⟩ = false := fun t ht => (hcf t (by omega)).2
        have HW := Lib.hid (And.intro hw2 hG)
        have hnext : (j ≤ 0 ∨ ltInt dj[j]! dj[j - 1]! = false) → ∀ u, ∃ (i' q' : Nat) (dk' : Array Int), Value.int .i64 ((i : Int) + 1) = .int .i64 (i' : Int) ∧ 0 < i' ∧ i' ≤ n + 1 ∧ dk'.size = d.size ∧
            wr.drewN u = putRow (Value.int .i64) (Sort.ahead w q') g 0 dk' ∧ Hid (insOuter ltInt 0 n i' dk' = insOuter ltInt 0 n 1 d) := fun hs u =>
          ⟨i + 1, p + u, dj, by go_num, by omega, by omega, hsj, by rw [HW.out.1]; exact putRow_drewN _ _ _ _ _ _ _,
            Lib.hid (by rw [← HO.out, insOuter_go _ _ _ _ _ hlt, ← HI.out, insInner_stop _ _ _ _ hs])⟩
        have HX := Lib.hid hnext
        clear hcf hw2 hG hn hnext
        go_wp2
        by_cases hj0 : 0 < j
        · have jj : (0 : Int) < (j : Int) := by omega
          have jn : (j : Int) < (n : Int) := by omega
          have k1 : ((j : Int) - 1).toNat = j - 1 := by omega
          have k2 : (0 : Int) ≤ (j : Int) - 1 := by omega
          have k3 : (j : Int) - 1 < (n : Int) := by omega
          have c1 := hcw j (by omega)
          have c2 := hcw (j - 1) (by omega)
          have f1 := hfw j (by omega)
          have f2 := hfw (j - 1) (by omega)
          clear hcw hfw
          go_quiet (first | (go_at_call 41; refine Calls.quiet_of_same (less_any _ _ _)))
          go_wp2
          · have hl : ltInt (G j) (G (j - 1)) = true := by assumption
            go_region
            all_goals go_wp2
            go_roundw
            case rel =>
              refine ⟨j - 1, p + (nq + 1), swp dj j (j - 1), by congr 1; omega, by omega, by rw [size_swp]; exact hsj, ?_, Lib.hid ?_⟩
              · rw [HW.out.1, HW.out.2, HW.out.2]
                have hsw := swap_worldA (Value.int .i64) w p (nq + 1) g 0 dj j (j - 1) (by have := HH.out.2.1; omega) (by have := HH.out.2.1; omega)
                rw [Nat.zero_add, Nat.zero_add] at hsw
                exact hsw
              · rw [← HI.out, insInner_go ltInt 0 j dj hj0 (by rw [← HW.out.2, ← HW.out.2]; exact hl)]
            case measure => simp [intOf]; omega
          · have hl : ltInt (G j) (G (j - 1)) = false := by assumption
            go_roundw
            case rel => exact HX.out (Or.inr (by rw [← HW.out.2, ← HW.out.2]; exact hl)) nq
            case measure => simp [intOf]; omega
        · have jj : ¬ (0 : Int) < (j : Int) := by omega
          go_quiet (first | (go_at_call 41; refine Calls.quiet_of_same (less_any _ _ _)))
          go_wp2
          go_roundw
          case rel => exact HX.out (Or.inl (by omega)) nq
          case measure => simp [intOf]; omega
    · have ii : ¬ (i : Int) < (n : Int) := by omega
      go_wp2_with fail
      go_end0
      exact ⟨rfl, q, by unfold Sort.insertionSort; rw [← HO.out, insOuter_stop _ _ _ _ _ hlt]⟩

set_option maxHeartbeats 4000000 in
theorem len64_any (n : Nat) (hn : n ≤ 12) (w : World) : Calls Tryd.prog 45 #[.int .u64 (n : Int)] w fun y w' => (∃ k, y = .returned (.int .i64 k)) ∧ w' = w := by
  have hc : n = 0 ∨ n = 1 ∨ n = 2 ∨ n = 3 ∨ n = 4 ∨ n = 5 ∨ n = 6 ∨ n = 7 ∨ n = 8 ∨ n = 9 ∨ n = 10 ∨ n = 11 ∨ n = 12 := by omega
  rcases hc with rfl | rfl | rfl | rfl | rfl | rfl | rfl | rfl | rfl | rfl | rfl | rfl | rfl
  all_goals
    go_enter Tryd.func45, Tryd.ntmps45
    go_wp2
    go_ret
    exact ⟨⟨_, rfl⟩, rfl⟩
theorem len_any (n : Nat) (hn : n ≤ 12) (w : World) : Calls Tryd.prog 29 #[.int .u64 (n : Int)] w fun y w' => (∃ k, y = .returned (.int .i64 k)) ∧ w' = w := by
  have C := Lib.hid fun W => len64_any n hn W
  go_enter Tryd.func29, Tryd.ntmps29
  go_wp2_with (go_at_call 45; go_must (refine (C.out _).mono ?_; rintro y w1 ⟨⟨k, rfl⟩, rfl⟩))
  go_ret
  exact ⟨⟨_, rfl⟩, rfl⟩

theorem pdq_own (g cap : Nat) (d : Array Int) (w : World) (k : Int) (hH : Holds (Value.int .i64) w g 0 d) (hsz : d.size ≤ 12) :
    Calls Tryd.prog 28 #[.slice (some ⟨g, 0, none⟩) d.size cap, .int .i64 0, .int .i64 (d.size : Int), .int .i64 k] w fun e w' =>
      e = .returned (.tuple #[]) ∧ ∃ q, w' = putRow (Value.int .i64) (Sort.ahead w q) g 0 (Sort.insertionSort ltInt d 0 d.size) := by
  have C := Lib.hid (insert_own g cap d w hH (by omega))
  obtain ⟨n, hn⟩ : ∃ n, n = d.size := ⟨_, rfl⟩
  have i12 : (n : Int) ≤ 12 := by omega
  rw [← hn] at C ⊢
  clear hH hn hsz
  go_enter Tryd.func28, Tryd.ntmps28
  go_wp2
  go_loopw [1, 2] (fun aa bb wr => aa = .int .i64 0 ∧ bb = .int .i64 (n : Int) ∧ w = wr) (fun _ _ _ => 0)
  case atStart => exact ⟨rfl, rfl, rfl⟩
  case round =>
    obtain ⟨rfl, rfl, rfl⟩ := hrel
    go_wp2_with (go_at_call 35; go_must (refine C.out.mono ?_; rintro y w1 ⟨rfl, q, hq⟩; have HQ := Lib.hid hq; clear hq))
    refine bodyPost_ret (results_none rfl _ _ _) rfl ?_
    exact ⟨rfl, q, HQ.out⟩

theorem sorted_is (zs : List Int) : (Sort.insertionSort ltInt zs.toArray 0 zs.toArray.size).toList.Perm zs ∧ (Sort.insertionSort ltInt zs.toArray 0 zs.toArray.size).toList.Pairwise (fun x y => x ≤ y) := by
  obtain ⟨hp, hs⟩ := insertionSort_holds (lt := ltInt) swo_ltInt zs.toArray 0 zs.toArray.size (Nat.zero_le _) (Nat.le_refl _)
  have hu := sorted_unique_holds swo_ltInt (fun x y h1 h2 => by simp only [ltInt, decide_eq_false_iff_not] at h1 h2; omega) zs.toArray _ hp hs
  rw [hu]
  refine ⟨List.mergeSort_perm _ _, ?_⟩
  have := List.pairwise_mergeSort (le := fun x y => !ltInt y x) (fun a b c h1 h2 => by simp only [ltInt, Bool.not_eq_true', decide_eq_false_iff_not] at *; omega) (fun a b => by simp only [ltInt, Bool.or_eq_true, Bool.not_eq_true', decide_eq_false_iff_not]; omega) zs.toArray.toList
  exact this.imp (by intro a b h; simp only [ltInt, Bool.not_eq_true', decide_eq_false_iff_not] at h; omega)

set_option maxHeartbeats 4000000 in
/-- A row of the call's own, sorted. -/
theorem SortC_own (B g n c : Nat) (zs : List Int) (w : World) (h : w.ownsRow B 3 1 (.slice (some ⟨g, 0, none⟩) n c) n (zs.map (Value.int .i64))) (hn : n = zs.length) (h12 : n ≤ 12) :
    Calls Tryd.prog 21 #[.slice (some ⟨g, 0, none⟩) n c] w fun y w' => y = .returned (.tuple #[]) ∧ ∃ ts : List Int, ts.Perm zs ∧ ts.Pairwise (fun x y => x ≤ y) ∧ w'.ownsRow B 3 1 (.slice (some ⟨g, 0, none⟩) n c) n (ts.map (Value.int .i64)) ∧ Below B w w' := by
  obtain ⟨g', c', hv, hB, hlt, hnc, hcm, hl, hH⟩ := Lib.holds_of_ownsRow h (by intro e; cases e)
  injection hv with e1 e2 e3
  injection e1 with e1
  injection e1 with e1
  subst e1; subst e3
  obtain ⟨hp, hs⟩ := sorted_is zs
  have HP := Lib.hid fun (k : Int) => pdq_own g c zs.toArray w k hH (by simp; omega)
  obtain ⟨ts, hts⟩ : ∃ ts, ts = (Sort.insertionSort ltInt zs.toArray 0 zs.toArray.size).toList := ⟨_, rfl⟩
  have hta : Sort.insertionSort ltInt zs.toArray 0 zs.toArray.size = ts.toArray := by rw [hts, Array.toArray_toList]
  rw [← hts] at hp hs
  rw [hta] at HP
  have hsz : zs.toArray.size = n := by simp; omega
  rw [hsz] at HP
  have hup := fun q => Lib.ownsRow_putRow (q := q) (k := n) h (ys := ts) (by rw [hp.length_eq]; exact hn.symm) (Nat.le_refl _)
  have hbl := fun q => Lib.below_putRow (enc := Value.int .i64) (q := q) (d := ts.toArray) (Below.refl B w) hB
  have HF := Lib.hid (And.intro hp (And.intro hs (And.intro hup hbl)))
  have HL := Lib.hid fun W => len_any n h12 W
  have im : (n : Int) ≤ 12 := by omega
  have im0 : (0 : Int) ≤ (n : Int) := by omega
  have htl : ts.take n = ts := List.take_of_length_le (by rw [hp.length_eq]; omega)
  have HT := Lib.hid htl
  clear h hn h12 hB hlt hnc hcm hl hH hp hs hts hta hsz hup hbl htl
  go_enter Tryd.func21, Tryd.ntmps21
  go_wp2_with (first
    | (go_at_call 29; go_must (refine (HL.out _).mono ?_; rintro y w1 ⟨⟨k, rfl⟩, rfl⟩))
    | (go_at_call 28; go_must (refine (HP.out _).mono ?_; rintro y w1 ⟨rfl, q, hq⟩; have HQ := Lib.hid hq; clear hq)))
  go_end0
  refine ⟨rfl, ts, HF.out.1, HF.out.2.1, ?_, ?_⟩
  · rw [HQ.out]
    have h1 := HF.out.2.2.1 q
    rw [HT.out] at h1
    exact h1
  · rw [HQ.out]
    exact HF.out.2.2.2 q

set_option maxHeartbeats 4000000 in
/-- A row of the call's own, sorted. -/
theorem SortI_own (B g n c : Nat) (zs : List Int) (w : World) (h : w.ownsRow B 3 1 (.slice (some ⟨g, 0, none⟩) n c) n (zs.map (Value.int .i64))) (hn : n = zs.length) (h12 : n ≤ 12) :
    Calls Tryd.prog 27 #[.slice (some ⟨g, 0, none⟩) n c] w fun y w' => y = .returned (.tuple #[]) ∧ ∃ ts : List Int, ts.Perm zs ∧ ts.Pairwise (fun x y => x ≤ y) ∧ w'.ownsRow B 3 1 (.slice (some ⟨g, 0, none⟩) n c) n (ts.map (Value.int .i64)) ∧ Below B w w' := by
  obtain ⟨g', c', hv, hB, hlt, hnc, hcm, hl, hH⟩ := Lib.holds_of_ownsRow h (by intro e; cases e)
  injection hv with e1 e2 e3
  injection e1 with e1
  injection e1 with e1
  subst e1; subst e3
  obtain ⟨hp, hs⟩ := sorted_is zs
  have HP := Lib.hid fun (k : Int) => pdq_own g c zs.toArray w k hH (by simp; omega)
  obtain ⟨ts, hts⟩ : ∃ ts, ts = (Sort.insertionSort ltInt zs.toArray 0 zs.toArray.size).toList := ⟨_, rfl⟩
  have hta : Sort.insertionSort ltInt zs.toArray 0 zs.toArray.size = ts.toArray := by rw [hts, Array.toArray_toList]
  rw [← hts] at hp hs
  rw [hta] at HP
  have hsz : zs.toArray.size = n := by simp; omega
  rw [hsz] at HP
  have hup := fun q => Lib.ownsRow_putRow (q := q) (k := n) h (ys := ts) (by rw [hp.length_eq]; exact hn.symm) (Nat.le_refl _)
  have hbl := fun q => Lib.below_putRow (enc := Value.int .i64) (q := q) (d := ts.toArray) (Below.refl B w) hB
  have HF := Lib.hid (And.intro hp (And.intro hs (And.intro hup hbl)))
  have HL := Lib.hid fun W => len_any n h12 W
  have im : (n : Int) ≤ 12 := by omega
  have im0 : (0 : Int) ≤ (n : Int) := by omega
  have htl : ts.take n = ts := List.take_of_length_le (by rw [hp.length_eq]; omega)
  have HT := Lib.hid htl
  clear h hn h12 hB hlt hnc hcm hl hH hp hs hts hta hsz hup hbl htl
  go_enter Tryd.func27, Tryd.ntmps27
  go_wp2_with (first
    | (go_at_call 29; go_must (refine (HL.out _).mono ?_; rintro y w1 ⟨⟨k, rfl⟩, rfl⟩))
    | (go_at_call 28; go_must (refine (HP.out _).mono ?_; rintro y w1 ⟨rfl, q, hq⟩; have HQ := Lib.hid hq; clear hq)))
  go_end0
  refine ⟨rfl, ts, HF.out.1, HF.out.2.1, ?_, ?_⟩
  · rw [HQ.out]
    have h1 := HF.out.2.2.1 q
    rw [HT.out] at h1
    exact h1
  · rw [HQ.out]
    exact HF.out.2.2.2 q

end Go.Proofs.YtgnonfnipifbiaaDoor.pk
