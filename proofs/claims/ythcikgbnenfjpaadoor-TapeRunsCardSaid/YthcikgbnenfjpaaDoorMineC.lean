/-
  The program's own clones of slices, its remainder, and the calls that only tell: walked.
-/
import Derived.Test.YthcikgbnenfjpaaDoorMineB
import Derived.Maps.AppendAt
import Derived.Lib.SliceRun
namespace Go.Proofs.YthcikgbnenfjpaaDoor.pk
open Go Go.RowKit
set_option maxRecDepth 100000

/-- slices.Clone of bytes. -/
theorem CloneB_any (w : World) (T : Nat → Prop) (A : Option Addr) (n c : Nat) (bs : List UInt8) (h : SlT w T (.slice A n c) bs) (hb : bs.length ≤ 140737488355328) :
    Calls Tryd.prog 27 #[.slice A n c] w fun x w' => ∃ v, x = .returned v ∧ w'.ownsRow w.heap.size 5 1 v n (Lib.byteCells bs) ∧ Below w.heap.size w w' := by
  obtain ⟨i0, hi, hz0, hz1, hz2⟩ := info_parts info_u8
  obtain ⟨hn, -, -⟩ := h.sl.len
  have HN := Lib.hid hn
  rcases A with _ | a
  · have hb0 : bs = [] := by
      obtain ⟨A', c', hv, _, _, h3⟩ := h
      rcases h3 with h3 | ⟨b, off, hA, _⟩
      · exact h3
      · injection hv with e1 _ _; rw [hA] at e1; cases e1
    subst hb0
    simp at hn
    subst hn
    have hq := fun (w : World) (n' c' : Nat) => Lib.run_eql_slice_nil (P := Tryd.prog) w 22 5 none 0 c n' c' Tryd.underlying22
    clear h hi hz0 hz1 hz2
    go_enter Tryd.func27, Tryd.ntmps27
    go_wp2
    go_ret
    exact ⟨_, rfl, World.ownsRow_nil _ _ _ _, Below.refl _ _⟩
  · have hq := fun (w : World) (n' c' : Nat) => Lib.run_eql_slice_nil (P := Tryd.prog) w 22 5 (some a) n c n' c' Tryd.underlying22
    have H := Lib.hid h
    clear h hn
    go_enter Tryd.func27, Tryd.ntmps27
    go_wp2_with (at_builtin; go_must (refine wpList_append_row rfl _ _ 22 rfl w.heap.size 5 i0 _ 1 1 Tryd.underlying22 hi hz0 hz1 hz2 rfl (by omega) _ 0 [] rfl (World.ownsRow_made w #[] 0 (Nat.le_refl _) (by simp [maxLen]) rfl) (fun k => k < w.heap.size) _ n c (Lib.byteCells bs) rfl ?_ (byteCells_one bs) ?_ ?_ ?_ ?_))
    · have h1 := ((Sl.toT H.out.sl).kept (w' := w.alloc (.cells #[] 5)) fun k _ hk => Below.heap_alloc w _ k hk).row
      rw [← HN.out] at h1
      exact h1
    · have := HN.out; simp only [maxLen]; omega
    · have := HN.out; omega
    · rw [World.size_alloc]; omega
    · intro v' w2 ho hg
      have HO := Lib.hid (show w2.ownsRow w.heap.size 5 1 v' n (Lib.byteCells bs) by simpa using ho)
      have HB := Lib.hid (((Below.refl w.heap.size w).alloc (Nat.le_refl _) (.cells #[] 5)).grown hg (by rw [World.size_alloc]; omega) (fun k hk => by injection hk with hk; rw [← hk]; exact Nat.le_refl _))
      clear ho hg
      go_wp2_with fail
      go_ret
      exact ⟨_, rfl, HO.out, HB.out⟩


theorem tmodR (a : Int) (b : Nat) (hb : 0 < b) : (0 ≤ a.tmod b ∧ a.tmod b = ((a % (b : Int)).toNat : Int)) ∨ (a.tmod b < 0 ∧ a.tmod b + b = ((a % (b : Int)).toNat : Int)) := by
  have h0 := Int.emod_nonneg a (show (b : Int) ≠ 0 by omega)
  have h1 := Int.emod_lt_of_pos a (show (0 : Int) < b by omega)
  have e := Int.tmod_eq_emod (a := a) (b := (b : Int))
  by_cases hc : 0 ≤ a ∨ (b : Int) ∣ a
  · rw [if_pos hc] at e
    left
    omega
  · rw [if_neg hc] at e
    right
    have : ((b : Int).natAbs : Int) = b := by omega
    omega

/-- remainder: of a number of a list, never below 0. -/
theorem remainder_any (w : World) (T : Nat → Prop) (A : Option Addr) (n c : Nat) (keep : List Int) (h : IntsT w T (.slice A n c) keep) (hin : ∀ z ∈ keep, inI z) (i by_ : Nat) (hi : i ≤ 1) (hb : 0 < by_) (hb2 : by_ ≤ 9223372036854775807) :
    Calls Tryd.prog 35 #[.slice A n c, .int .i64 (i : Int), .int .i64 (by_ : Int)] w fun x w' => x = .returned (.int .i64 (restK keep i by_ : Int)) ∧ w = w' := by
  obtain ⟨A', c', hv, hnc, hcm⟩ := RowT.form h
  injection hv with e1 e2 e3
  subst e1; subst e3
  by_cases hlt : i < keep.length
  · obtain ⟨hn, _, _, b, off, rfl, _, hc⟩ := RowT.at_ h (by omega)
    have hz := hin (keep[i]) (List.getElem_mem _)
    obtain ⟨z, hzz⟩ : ∃ z, z = keep[i] := ⟨_, rfl⟩
    have hcell : w.cell? ⟨b, off + i, none⟩ = some (.int .i64 z) := hc i _ (by rw [List.getElem?_map, List.getElem?_eq_getElem hlt, hzz]; rfl)
    have hr : restK keep i by_ = (z % (by_ : Int)).toNat := by
      unfold restK
      rw [if_pos hlt, hzz]
      simp [List.getD, List.getElem?_eq_getElem hlt]
    rw [hr]
    rw [← hzz] at hz
    unfold inI at hz
    obtain ⟨hz1, hz2⟩ := hz
    have ht := tmodR z by_ hb
    generalize hm : (z % (by_ : Int)).toNat = m at ht
    have hm2 : (m : Int) < by_ := by
      have h1 := Int.emod_lt_of_pos z (show (0 : Int) < by_ by omega)
      have h0 := Int.emod_nonneg z (show (by_ : Int) ≠ 0 by omega)
      omega
    obtain ⟨t, hte⟩ : ∃ t, t = z.tmod (by_ : Int) := ⟨_, rfl⟩
    rw [← hte] at ht
    have hte' := hte.symm
    have g1 : (i : Int) < (n : Int) := by omega
    have g0 : (0 : Int) ≤ (i : Int) := by omega
    have gb : ¬ (by_ : Int) = 0 := by omega
    have gi : i < n := by omega
    clear hc hzz hr hm hte h hin e2
    subst hn
    rcases ht with ⟨ht1, ht2⟩ | ⟨ht1, ht2⟩
    · have HT := Lib.hid ht2
      have gt : t ≤ 9223372036854775807 := by omega
      clear ht2
      go_enter Tryd.func35, Tryd.ntmps35
      go_wp2_with fail
      go_ret
      exact ⟨by rw [HT.out]; rfl, rfl⟩
    · have HT := Lib.hid ht2
      have gt : t + (by_ : Int) ≤ 9223372036854775807 := by omega
      have gt2 : (0 : Int) ≤ t + (by_ : Int) := by omega
      clear ht2
      go_enter Tryd.func35, Tryd.ntmps35
      go_wp2_with fail
      go_ret
      exact ⟨by rw [HT.out]; rfl, rfl⟩
  · have hr : restK keep i by_ = 0 := by unfold restK; rw [if_neg hlt]
    rw [hr]
    have g1 : (n : Int) ≤ (i : Int) := by omega
    clear h hin e2 hr
    go_enter Tryd.func35, Tryd.ntmps35
    go_wp2
    go_ret
    exact ⟨rfl, rfl⟩

section
variable {w w' : World} {S : Nat → Prop} {p gn gs nc sc n : Nat} {vw : Value} {cs : List Value} {nowb safeb : List UInt8} {L : List (Nat × List UInt8)} {off ar : Bool} {ah : Int}


set_option maxHeartbeats 1000000 in
theorem Read_any (h : Rep w S p gn gs nc sc n vw cs nowb safeb L off ar ah) (hn : n ≤ 4194304) (at_ k : Int) (ha : inI at_) (hk : inI k) :
    Calls Tryd.prog 21 #[.pointer (some ⟨p, 0, none⟩), .int .i64 at_, .int .i64 k] w fun x w' => ∃ v, x = .returned (.tuple #[v, er (if 0 ≤ at_ ∧ 0 ≤ k ∧ k ≤ (n : Int) - at_ then (if off = true then 13 else 0) else 1)]) ∧
      SlT w' (fun k => w.heap.size ≤ k ∧ k < w'.heap.size) v (if 0 ≤ at_ ∧ 0 ≤ k ∧ k ≤ (n : Int) - at_ ∧ off = false then (nowb.drop at_.toNat).take k.toNat else []) ∧ Below w.heap.size w w' := by
  obtain ⟨i0, hi, hz0, hz1, hz2⟩ := info_parts info_u8
  obtain ⟨c0, -, -, c3, -, -, -⟩ := h.cells
  by_cases hin : 0 ≤ at_ ∧ 0 ≤ k ∧ k ≤ (n : Int) - at_
  · have hc := has_any h at_ k ha hk true (decide_eq_true hin).symm
    rw [if_pos hin]
    cases off with
    | true =>
      rw [if_pos rfl, if_neg (by simp)]
      clear hin
      go_enter Tryd.func21, Tryd.ntmps21
      go_wp2_with (go_at_call 26; go_must (refine hc.mono ?_; rintro y w1 ⟨rfl, rfl⟩))
      go_ret2
      exact ⟨_, rfl, SlT.nil_ _ _, Below.refl _ _⟩
    | false =>
      rw [if_neg (by simp), if_pos ⟨hin.1, hin.2.1, hin.2.2, rfl⟩, er_zero]
      obtain ⟨h1, h2, h3⟩ := hin
      obtain ⟨a, rfl⟩ : ∃ a : Nat, at_ = (a : Int) := ⟨at_.toNat, by omega⟩
      obtain ⟨m, rfl⟩ : ∃ m : Nat, k = (m : Int) := ⟨k.toNat, by omega⟩
      rw [Int.toNat_natCast, Int.toNat_natCast]
      obtain ⟨hnn, hcn⟩ := own_cap h.now
      have HN := Lib.hid h.now
      have HS := Lib.hid (And.intro (h.foot p h.sp) h.nlen.1)
      have hgn := Lib.hid (h.foot gn h.sn)
      have ham : a + m ≤ n := by omega
      have ham' : a ≤ n := by omega
      have hmn : m ≤ 4194304 := by omega
      have C0 := Lib.hid c0
      clear h ha hk h3 c0
      go_enter Tryd.func21, Tryd.ntmps21
      go_upto_region 6 with (first
        | (at_make; go_must (refine wpList_make_full _ rfl _ _ 22 rfl w.heap.size 5 i0 _ 1 Tryd.underlying22 hi hz0 hz1 .i64 .i64 _ _ m rfl rfl rfl rfl (by rw [hz2]; omega) (by unfold maxLen; omega) (Nat.le_refl _) ?_; intro w2 hown hg2; have HO := Lib.hid hown; have HG := Lib.hid hg2; clear hown hg2))
        | (go_at_call 26; go_must (refine hc.mono ?_; rintro y w1 ⟨rfl, rfl⟩)))
      obtain ⟨zs, HO⟩ : ∃ zs, Hid (w2.ownsRow w.heap.size 5 1 (.slice (some ⟨w.heap.size, 0, none⟩) m m) m zs) := ⟨_, HO⟩
      clear hc c3
      have hB := (Below.refl w.heap.size w).grown HG.out (Nat.le_refl _) (fun k hk => by cases hk)
      have c0 : w2.cell? ⟨p, 0, none⟩ = some (.slice (some ⟨gn, 0, none⟩) n nc) := (hB.cell (p := ⟨p, 0, none⟩) HS.out.1).trans C0.out
      have hn2 := own_block HN.out (w' := w2) (fun g e => by injection e with e; rw [← e]; exact hB.block gn hgn.out)
      have HB := Lib.hid hB
      have HL := Lib.hid (show ((nowb.drop a).take m).length = m from cut_len (by have := HS.out.2; omega))
      have HSRC := Lib.hid (own_src (at_ := a) (k := m) hn2)
      clear hB hn2 HG C0
      by_cases hcap : nc = a
      all_goals
        go_wp2_with (with_reducible refine wpList_copy_rowE rfl (.tmp 22) (.tmp 28) 22 22 rfl 5 Tryd.underlying22 size_u8 w.heap.size w.heap.size m m _ HO.out _ _ _ _ _ _ rfl rfl 0 (Lib.byteCells ((nowb.drop a).take m)) ?_ ?_ ?_ ?_ ?_)
        · rw [byteCells_len, HL.out]; exact (Nat.min_eq_right (by omega)).symm
        · intro h0
          have h0' : 0 < m := by rw [byteCells_len, HL.out] at h0; exact h0
          first
            | (exfalso; omega)
            | exact ⟨rfl, _, rfl, HSRC.out⟩
            | exact (fun j v hj => by have := HSRC.out j v hj; rwa [Lib.add_plain] at this)
        · rw [byteCells_len, HL.out]; omega
        · exact byteCells_one _
        · intro w3 ho hg
          have e : splice zs 0 (Lib.byteCells ((nowb.drop a).take m)) = Lib.byteCells ((nowb.drop a).take m) := by
            have hz : zs.length = m * 1 := HO.out.1
            unfold splice
            rw [byteCells_len, HL.out, show zs.drop (0 + m) = [] from List.drop_eq_nil_of_le (by omega)]
            simp
          have e2 : ((nowb.drop a).take m).length = m := HL.out
          have HO3 := Lib.hid (SlT.of_own (T := fun k => w.heap.size ≤ k ∧ k < w3.heap.size) (show w3.ownsRow w.heap.size 5 1 (.slice (some ⟨w.heap.size, 0, none⟩) m m) ((nowb.drop a).take m).length (Lib.byteCells ((nowb.drop a).take m)) by rw [e2]; rw [e] at ho; exact ho) (fun g hk => ho.lt g hk))
          have HB3 := Lib.hid (HB.out.grown hg HB.out.size (fun k hk => by injection hk with hk; rw [← hk]; exact Nat.le_refl _))
          clear ho hg e e2
          go_wp2_with fail
          go_ret2
          exact ⟨_, rfl, HO3.out, HB3.out⟩
  · have hc := has_any h at_ k ha hk false (decide_eq_false hin).symm
    rw [if_neg hin, if_neg (fun hx => hin ⟨hx.1, hx.2.1, hx.2.2.1⟩)]
    clear hin h
    go_enter Tryd.func21, Tryd.ntmps21
    go_wp2_with (go_at_call 26; go_must (refine hc.mono ?_; rintro y w1 ⟨rfl, rfl⟩))
    go_ret2
    exact ⟨_, rfl, SlT.nil_ _ _, Below.refl _ _⟩
end

end Go.Proofs.YthcikgbnenfjpaaDoor.pk
