/-
  The document's own Add and Remove: walked.
-/
import Derived.Test.YtgnonfnipifbiaaDoorRefA
import Derived.Test.YtgnonfnipifbiaaDoorTailQ
namespace Go.Proofs.YtgnonfnipifbiaaDoor.pk
open Go Go.RowKit
set_option maxRecDepth 100000

/-- An end 's[k:]'. -/
theorem RowT.cut {w : World} {T : Nat → Prop} {sz : Nat} {A : Option Addr} {n n' c : Nat} {cs : List Value} (h : RowT w T sz (.slice A n' c) n cs) {k : Nat} (hk : k ≤ n) :
    RowT w T sz (.slice (if c = k then A else A.map (·.add (k * sz))) (n - k) (c - k)) (n - k) (cs.drop (k * sz)) := by
  obtain ⟨h0, A', c', hv, h1, h2, h3⟩ := h
  injection hv with e1 e2 e3
  subst e1; subst e2; subst e3
  refine ⟨by rw [List.length_drop, h0, Nat.sub_mul], _, _, rfl, by omega, by omega, ?_⟩
  rcases h3 with h3 | ⟨b, off, rfl, hb, hc⟩
  · left; omega
  · by_cases he : k = n'
    · left; omega
    · right
      rw [if_neg (by omega)]
      refine ⟨b, off + k * sz, by simp [Addr.add], hb, fun j u hj => ?_⟩
      rw [List.getElem?_drop] at hj
      rw [Nat.add_assoc]
      exact hc _ u hj

/-- A step of a region that draws its order, out of the operation's own law. -/
theorem step_op {P : Program} {ops : Array Oper} {o : Oper} {a : Act} {w : World} {K : Act → World → Prop} {Q : Exit → Act → World → Prop} {E : Prop} (hgd : o.guard = none) (h : Oper.wp P o a w K Q) : if Region.wanted o (yielded ops a.tmps) = true then Oper.wp P o a w K Q else E := by
  rw [if_pos (by simp [Region.wanted, hgd])]
  exact h
/-- All but one. -/
def outC (who : Int) (c : List Int) : List Int := c.filter fun x => decide (x ≠ who)
theorem outC_next {who : Int} {c : List Int} {k : Nat} (h : k < c.length) : outC who (c.take (k + 1)) = outC who (c.take k) ++ (if c.getD k 0 = who then [] else [c.getD k 0]) := by
  unfold outC
  rw [take_nextI h, List.filter_append]
  by_cases hw : c.getD k 0 = who
  · rw [if_pos hw, List.filter_cons_of_neg (by simp only [decide_eq_true_eq, ne_eq, Classical.not_not]; exact hw)]; rfl
  · rw [if_neg hw, List.filter_cons_of_pos (by simp only [decide_eq_true_eq, ne_eq]; exact hw)]; rfl
theorem outC_len (who : Int) (c : List Int) : (outC who c).length ≤ c.length := List.length_filter_le ..

set_option maxHeartbeats 4000000 in
theorem Remove_any (A : Option Addr) (m c : Nat) (zs : List Int) (who : Int) (w : World) (h : Ints w (.slice A m c) zs) (r : List Int × Nat) (hr : r = remC zs who) :
    Calls Tryd.prog 9 #[.slice A m c, .int .i64 who] w fun y w' => ∃ A1 c1, y = .returned (.tuple #[.slice A1 r.1.length c1, .int .i64 (r.2 : Int)]) ∧ Ints w' (.slice A1 r.1.length c1) r.1 ∧ Below w.heap.size w w' := by
  obtain ⟨hm, hmc, hcm, hat⟩ := h.at_
  have im : (m : Int) ≤ 9223372036854775807 := by omega
  have HM := Lib.hid (And.intro hm (And.intro hat h))
  have CM := Lib.hid fun W h r hr => May_any A m c zs W h r hr
  have CI := Lib.hid fun W h r hr => In_any A m c zs who W h r hr
  cases hmay : mayC zs with
  | false =>
    obtain rfl : r = ([], 1) := by rw [hr]; unfold remC; rw [if_pos hmay]
    have HY := Lib.hid hmay
    clear hm hmc hcm hat h hr hmay
    go_enter Tryd.func9, Tryd.ntmps9
    go_wp2_with (go_at_call 11; go_must (refine (CM.out _ HM.out.2.2 false HY.out.symm).mono ?_; rintro y w1 ⟨rfl, hb1⟩; have HB1 := Lib.hid hb1; clear hb1))
    go_ret2
    exact ⟨none, 0, rfl, Ints.nil_ _, HB1.out⟩
  | true =>
    have HY := Lib.hid hmay
    by_cases hin : who ∈ zs
    · by_cases h2 : zs.length < 2
      · obtain rfl : r = ([], 1) := by rw [hr]; unfold remC; rw [if_neg (by rw [hmay]; decide), if_neg (by rw [Classical.not_not]; exact hin), if_pos h2]
        have HI := Lib.hid (decide_eq_true hin).symm
        have i2 : (m : Int) < 2 := by omega
        clear hm hmc hcm hat h hr hmay hin h2
        go_enter Tryd.func9, Tryd.ntmps9
        go_wp2_with (first
          | (go_at_call 11; go_must (refine (CM.out _ HM.out.2.2 true HY.out.symm).mono ?_; rintro y w1 ⟨rfl, hb1⟩; have HB1 := Lib.hid hb1; clear hb1))
          | (go_at_call 13; go_must (refine (CI.out _ (HM.out.2.2.below HB1.out) true HI.out).mono ?_; rintro y w2 ⟨rfl, hb2⟩; have HB2 := Lib.hid (HB1.out.trans (hb2.mono HB1.out.size)); clear hb2)))
        go_ret2
        exact ⟨none, 0, rfl, Ints.nil_ _, HB2.out⟩
      · obtain rfl : r = (outC who zs, 0) := by rw [hr]; unfold remC; rw [if_neg (by rw [hmay]; decide), if_neg (by rw [Classical.not_not]; exact hin), if_neg h2]; rfl
        have HI := Lib.hid (decide_eq_true hin).symm
        have i2 : ¬ (m : Int) < 2 := by omega
        have hm8 := ((mayC_iff zs).1 hmay).1.2
        have HM8 := Lib.hid (show m < 8 by omega)
        clear hm hmc hcm hat h hr hmay hin h2 hm8
        go_enter Tryd.func9, Tryd.ntmps9
        go_wp2_with (first
          | (go_at_call 11; go_must (refine (CM.out _ HM.out.2.2 true HY.out.symm).mono ?_; rintro y w1 ⟨rfl, hb1⟩; have HB1 := Lib.hid hb1; clear hb1))
          | (go_at_call 13; go_must (refine (CI.out _ (HM.out.2.2.below HB1.out) true HI.out).mono ?_; rintro y w2 ⟨rfl, hb2⟩; have HB2 := Lib.hid (HB1.out.trans (hb2.mono HB1.out.size)); clear hb2)))
        go_loopw [6, 7] (fun v ii wr => ∃ (k : Nat), k ≤ m ∧ ii = .int .i64 (k : Int) ∧ wr.ownsRow w.heap.size 3 1 v (outC who (zs.take k)).length ((outC who (zs.take k)).map (Value.int .i64)) ∧ Below w.heap.size w wr) (fun _ ii _ => m - (intOf ii).toNat)
        case atStart => exact ⟨0, Nat.zero_le _, rfl, by simp only [List.take_zero]; exact World.ownsRow_nil _ _ _ _, HB2.out⟩
        case round =>
          obtain ⟨k, hk, rfl, how, hbw⟩ := hrel
          have hI := Ints.of_own how (fun z hz => HM.out.2.2.2 z (List.mem_of_mem_take (List.mem_filter.1 hz).1))
          obtain ⟨Av, cv, rfl, -, -⟩ := hI.form
          have hll : (outC who (zs.take k)).length ≤ k := by have := outC_len who (zs.take k); rw [List.length_take] at this; omega
          have HO := Lib.hid (And.intro how (And.intro hbw (And.intro hI hll)))
          obtain ⟨na, hna⟩ : ∃ na, na = (outC who (zs.take k)).length := ⟨_, rfl⟩
          have HNA := Lib.hid hna
          rw [← hna]
          clear how hbw hI hll hna
          by_cases hlt : k < m
          · obtain ⟨b, off, rfl, hb, hc⟩ := HM.out.2.1 (by omega)
            have g1 := (HO.out.2.1.cell (p := ⟨b, off + k, none⟩) hb).trans (hc k hlt)
            have ik : (k : Int) < (m : Int) := by omega
            have ik0 : (0 : Int) ≤ (k : Int) := by omega
            have hnx := outC_next (who := who) (c := zs) (k := k) (by have := HM.out.1; omega)
            obtain ⟨z, hz⟩ : ∃ z, z = zs.getD k 0 := ⟨_, rfl⟩
            rw [← hz] at g1 hnx
            have HX := Lib.hid hnx
            clear hb hc hz hnx
            by_cases hzw : z = who
            · have HX2 := Lib.hid (show outC who (zs.take (k + 1)) = outC who (zs.take k) by rw [HX.out, if_pos hzw, List.append_nil])
              subst hzw
              go_wp2_with fail
              go_roundw
              case rel => exact ⟨k + 1, by omega, by go_num, by rw [HX2.out, HNA.out]; exact HO.out.1, HO.out.2.1⟩
              case measure => simp [intOf]; omega
            · have HX2 := Lib.hid (show outC who (zs.take (k + 1)) = outC who (zs.take k) ++ [z] by rw [HX.out, if_neg hzw])
              go_wp2_with (at_builtin; go_must (refine wpList_pushI (B := w.heap.size) (v := .slice Av na cv) (zs := outC who (zs.take k)) ?_ rfl (.tmp 33) (.tmp 38) rfl rfl wr.heap.size rfl z (heap_alloc_new _ _) ?_ ?_ ?_))
              · rw [HNA.out]
                exact own_kept HO.out.1 ((Below.refl _ _).alloc (Nat.le_refl _) _)
              · have := HO.out.2.2.2; have := HM8.out; omega
              · rw [World.size_alloc]; have := HO.out.2.1.size; omega
              · intro v' w' ho hg
                have O := Lib.hid (And.intro ho ((HO.out.2.1.alloc HO.out.2.1.size _).grown hg (by rw [World.size_alloc]; have := HO.out.2.1.size; omega) (fun q hq => by have := HO.out.1; rw [← HNA.out] at this; exact (this.lt q hq).1)))
                clear ho hg
                go_wp2_with fail
                go_roundw
                case rel => exact ⟨k + 1, by omega, by go_num, by rw [HX2.out, List.length_append, List.map_append]; exact O.out.1, O.out.2⟩
                case measure => simp [intOf]; omega
          · obtain rfl : k = m := by omega
            have ik : ¬ (k : Int) < (k : Int) := by omega
            have hall : zs.take k = zs := List.take_of_length_le (by have := HM.out.1; omega)
            rw [hall] at HO HNA
            go_wp2_with fail
            go_ret2
            exact ⟨Av, cv, by rw [HNA.out]; rfl, HO.out.2.2.1, HO.out.2.1⟩
    · obtain rfl : r = ([], 8) := by rw [hr]; unfold remC; rw [if_neg (by rw [hmay]; decide), if_pos hin]
      have HI := Lib.hid (decide_eq_false hin).symm
      clear hm hmc hcm hat h hr hmay hin
      go_enter Tryd.func9, Tryd.ntmps9
      go_wp2_with (first
        | (go_at_call 11; go_must (refine (CM.out _ HM.out.2.2 true HY.out.symm).mono ?_; rintro y w1 ⟨rfl, hb1⟩; have HB1 := Lib.hid hb1; clear hb1))
        | (go_at_call 13; go_must (refine (CI.out _ (HM.out.2.2.below HB1.out) false HI.out).mono ?_; rintro y w2 ⟨rfl, hb2⟩; have HB2 := Lib.hid (HB1.out.trans (hb2.mono HB1.out.size)); clear hb2)))
      go_ret2
      exact ⟨none, 0, rfl, Ints.nil_ _, HB2.out⟩

section
variable {w : World} {B : Nat} {v : Value} {zs : List Int} {o : Oper} {a : Act} {K : Act → World → Prop} {Q : Exit → Act → World → Prop}
theorem wp_pushI (hown : w.ownsRow B 3 1 v zs.length (zs.map (Value.int .i64))) (s x : Operand)
    (ho : o.op = .call { callee := .builtin .append, args := #[s, x], argTypes := #[22, 22] }) (hs : a.eval s = v) (g : Nat) (hx : a.eval x = .slice (some ⟨g, 0, none⟩) 1 1) (z : Int)
    (hg : w.heap[g]? = some (.cells #[.int .i64 z] 3 (0, 0))) (hl : zs.length < 1000000000000) (hB : B ≤ w.heap.size)
    (hK : ∀ v' w', w'.ownsRow B 3 1 v' (zs ++ [z]).length ((zs ++ [z]).map (Value.int .i64)) → w.grownBy w' v.ownBlock → K (a.put o.dst v') w') : o.wp Tryd.prog a w K Q := by
  obtain ⟨i0, hi, hz0, hz1, hz2⟩ := info_three info_int
  refine wp_append_row s x 22 ho B 3 i0 _ 1 8 Tryd.underlying22 hi hz0 hz1 hz2 rfl (by omega) v zs.length _ hs hown (fun _ => True) _ 1 1 [.int .i64 z] hx (RowT.lit hg (by rfl) (by omega)) (fun u hu => by rw [List.mem_singleton.1 hu]; rfl) (by simp only [maxLen]; omega) (by omega) hB ?_
  intro v' w' h1 h2
  refine hK v' w' ?_ h2
  rw [List.length_append, List.map_append]
  exact h1
theorem wp_joinI (hown : w.ownsRow B 3 1 v zs.length (zs.map (Value.int .i64))) (s x : Operand)
    (ho : o.op = .call { callee := .builtin .append, args := #[s, x], argTypes := #[22, 22] }) (hs : a.eval s = v) (A : Option Addr) (n c : Nat) (hx : a.eval x = .slice A n c) (T : Nat → Prop) (ys : List Int)
    (hy : RowT w T 1 (.slice A n c) n (ys.map (Value.int .i64))) (hn : ys.length = n) (hl : zs.length + n < 1000000000000) (hB : B ≤ w.heap.size)
    (hK : ∀ v' w', w'.ownsRow B 3 1 v' (zs ++ ys).length ((zs ++ ys).map (Value.int .i64)) → w.grownBy w' v.ownBlock → K (a.put o.dst v') w') : o.wp Tryd.prog a w K Q := by
  obtain ⟨i0, hi, hz0, hz1, hz2⟩ := info_three info_int
  refine wp_append_row s x 22 ho B 3 i0 _ 1 8 Tryd.underlying22 hi hz0 hz1 hz2 rfl (by omega) v zs.length _ hs hown T A n c _ hx hy (fun u hu => by obtain ⟨z, _, rfl⟩ := List.mem_map.1 hu; rfl) (by simp only [maxLen]; omega) (by omega) hB ?_
  intro v' w' h1 h2
  refine hK v' w' ?_ h2
  rw [List.length_append, List.map_append, hn]
  exact h1
end

set_option maxHeartbeats 8000000 in
theorem Add_any (A : Option Addr) (m c : Nat) (zs : List Int) (who : Int) (w : World) (h : Ints w (.slice A m c) zs) (hw : inI who) (r : List Int × Nat) (hr : r = addC zs who) :
    Calls Tryd.prog 7 #[.slice A m c, .int .i64 who] w fun y w' => ∃ A1 c1, y = .returned (.tuple #[.slice A1 r.1.length c1, .int .i64 (r.2 : Int)]) ∧ Ints w' (.slice A1 r.1.length c1) r.1 ∧ Below w.heap.size w w' := by
  obtain ⟨hm, hmc, hcm, hat⟩ := h.at_
  have im : (m : Int) ≤ 9223372036854775807 := by omega
  have HM := Lib.hid (And.intro hm (And.intro hat (And.intro h (And.intro hmc hcm))))
  have CM := Lib.hid fun W h r hr => May_any A m c zs W h r hr
  have CI := Lib.hid fun W h r hr => In_any A m c zs who W h r hr
  by_cases h1 : mayC zs = false ∨ who < 1 ∨ 64 < who
  · obtain rfl : r = ([], 1) := by rw [hr]; unfold addC; rw [if_pos h1]
    obtain ⟨q, hq⟩ : ∃ q, q = mayC zs := ⟨_, rfl⟩
    have HY := Lib.hid hq
    rw [← hq] at h1
    have hg : (q = false) ∨ (q = true ∧ who < 1) ∨ (q = true ∧ ¬ who < 1 ∧ 64 < who) := by
      cases q
      · exact Or.inl rfl
      · rcases h1 with h1 | h1 | h1
        · cases h1
        · exact Or.inr (Or.inl ⟨rfl, h1⟩)
        · exact Or.inr (Or.inr ⟨rfl, by omega, h1⟩)
    clear hm hmc hcm hat h hr h1 hq
    rcases hg with rfl | ⟨rfl, hg1⟩ | ⟨rfl, hg1, hg2⟩
    all_goals
      go_enter Tryd.func7, Tryd.ntmps7
      go_wp2_with (go_at_call 11; go_must (refine (CM.out _ HM.out.2.2.1 _ HY.out).mono ?_; rintro y w1 ⟨rfl, hb1⟩; have HB1 := Lib.hid hb1; clear hb1))
      go_ret2
      exact ⟨none, 0, rfl, Ints.nil_ _, HB1.out⟩
  · have hmay : mayC zs = true := by
      cases hc : mayC zs with
      | true => rfl
      | false => exact absurd (Or.inl hc) h1
    have HY := Lib.hid hmay
    have g1 : ¬ who < 1 := by omega
    have g2 : ¬ 64 < who := by omega
    by_cases hin : who ∈ zs
    · obtain rfl : r = ([], 9) := by rw [hr]; unfold addC; rw [if_neg h1, if_pos hin]
      have HI := Lib.hid (decide_eq_true hin).symm
      clear hm hmc hcm hat h hr h1 hin hmay
      go_enter Tryd.func7, Tryd.ntmps7
      go_wp2_with (first
        | (go_at_call 11; go_must (refine (CM.out _ HM.out.2.2.1 true HY.out.symm).mono ?_; rintro y w1 ⟨rfl, hb1⟩; have HB1 := Lib.hid hb1; clear hb1))
        | (go_at_call 13; go_must (refine (CI.out _ (HM.out.2.2.1.below HB1.out) true HI.out).mono ?_; rintro y w2 ⟨rfl, hb2⟩; have HB2 := Lib.hid (HB1.out.trans (hb2.mono HB1.out.size)); clear hb2)))
      go_ret2
      exact ⟨none, 0, rfl, Ints.nil_ _, HB2.out⟩
    · have HI := Lib.hid (decide_eq_false hin).symm
      by_cases h6 : 6 < zs.length
      · obtain rfl : r = ([], 10) := by rw [hr]; unfold addC; rw [if_neg h1, if_neg hin, if_pos h6]
        have i6 : 6 < (m : Int) := by omega
        clear hm hmc hcm hat h hr h1 hin hmay h6
        go_enter Tryd.func7, Tryd.ntmps7
        go_wp2_with (first
          | (go_at_call 11; go_must (refine (CM.out _ HM.out.2.2.1 true HY.out.symm).mono ?_; rintro y w1 ⟨rfl, hb1⟩; have HB1 := Lib.hid hb1; clear hb1))
          | (go_at_call 13; go_must (refine (CI.out _ (HM.out.2.2.1.below HB1.out) false HI.out).mono ?_; rintro y w2 ⟨rfl, hb2⟩; have HB2 := Lib.hid (HB1.out.trans (hb2.mono HB1.out.size)); clear hb2)))
        go_ret2
        exact ⟨none, 0, rfl, Ints.nil_ _, HB2.out⟩
      · obtain rfl : r = (insC who zs, 0) := by rw [hr]; unfold addC; rw [if_neg h1, if_neg hin, if_neg h6]
        have i6 : ¬ 6 < (m : Int) := by omega
        have hm0 := ((mayC_iff zs).1 hmay).1.1
        obtain ⟨b, off, rfl, hb, hc⟩ := hat (by omega)
        have HC := Lib.hid (And.intro hb (And.intro hc (And.intro hw (show 0 < m ∧ m ≤ 6 by omega))))
        clear hm hmc hcm hat h hr h1 hin hmay h6 hm0 hb hc hw
        go_enter Tryd.func7, Tryd.ntmps7
        go_wp2_with (first
          | (go_at_call 11; go_must (refine (CM.out _ HM.out.2.2.1 true HY.out.symm).mono ?_; rintro y w1 ⟨rfl, hb1⟩; have HB1 := Lib.hid hb1; clear hb1))
          | (go_at_call 13; go_must (refine (CI.out _ (HM.out.2.2.1.below HB1.out) false HI.out).mono ?_; rintro y w2 ⟨rfl, hb2⟩; have HB2 := Lib.hid (HB1.out.trans (hb2.mono HB1.out.size)); clear hb2)))
        go_loopw [7] (fun ii wr => ∃ (k : Nat), k ≤ m ∧ ii = .int .i64 (k : Int) ∧ (∀ j, j < k → zs.getD j 0 < who) ∧ Below w.heap.size w wr) (fun ii _ => m - (intOf ii).toNat)
        case atStart => exact ⟨0, Nat.zero_le _, rfl, fun j hj => absurd hj (Nat.not_lt_zero j), HB2.out⟩
        case round =>
          obtain ⟨k, hk, rfl, hno, hbw⟩ := hrel
          have HW := Lib.hid (And.intro hno hbw)
          clear hno hbw
          have ik0 : (0 : Int) ≤ (k : Int) := by omega
          by_cases hgo : k < m ∧ zs.getD k 0 < who
          · obtain ⟨hlt, hz⟩ := hgo
            have g3 := (HW.out.2.cell (p := ⟨b, off + k, none⟩) HC.out.1).trans (HC.out.2.1 k hlt)
            have ik : (k : Int) < (m : Int) := by omega
            have HZ := Lib.hid hz
            obtain ⟨z, hze⟩ : ∃ z, z = zs.getD k 0 := ⟨_, rfl⟩
            rw [← hze] at g3 hz
            clear hze
            go_wp2_with fail
            go_roundw
            case rel => exact ⟨k + 1, by omega, by go_num, fun j hj => by
              by_cases hjk : j < k
              · exact HW.out.1 j hjk
              · obtain rfl : j = k := by omega
                exact HZ.out, HW.out.2⟩
            case measure => simp [intOf]; omega
          · have hsp := ins_split (who := who) (c := zs) (i := k) (by have := HM.out.1; omega) HW.out.1 (fun hk' hz => hgo ⟨by have := HM.out.1; omega, hz⟩)
            have HSP := Lib.hid hsp
            have hk2 : (k : Int) ≤ (m : Int) := by omega
            have hk3 : (k : Int) ≤ (c : Int) := by have := HM.out.2.2.2.1; omega
            have hg : ¬ (k : Int) < (m : Int) ∨ ((k : Int) < (m : Int) ∧ ∃ z, ¬ z < who ∧ wr.cell? ⟨b, off + k, none⟩ = some (.int .i64 z)) := by
              by_cases hlt : k < m
              · exact Or.inr ⟨by omega, _, fun hz => hgo ⟨hlt, hz⟩, (HW.out.2.cell (p := ⟨b, off + k, none⟩) HC.out.1).trans (HC.out.2.1 k hlt)⟩
              · exact Or.inl (by omega)
            have hr1 : RowT w (fun q => q < w.heap.size) 1 (.slice (some ⟨b, off, none⟩) k c) k ((zs.take k).map (Value.int .i64)) := by
              have h1 := RowT.front (k := k) (n := m) (show RowT w (fun q => q < w.heap.size) 1 (.slice (some ⟨b, off, none⟩) m c) m (zs.map (Value.int .i64)) by have h2 := HM.out.2.2.1.1; unfold IntsT at h2; rw [← HM.out.1] at h2; exact h2) hk
              rw [Nat.mul_one, ← List.map_take] at h1
              exact h1
            have hr2 : RowT w (fun q => q < w.heap.size) 1 (.slice (if c = k then some ⟨b, off, none⟩ else some ⟨b, off + k, none⟩) (m - k) (c - k)) (m - k) ((zs.drop k).map (Value.int .i64)) := by
              have h1 := RowT.cut (k := k) (n := m) (show RowT w (fun q => q < w.heap.size) 1 (.slice (some ⟨b, off, none⟩) m c) m (zs.map (Value.int .i64)) by have h2 := HM.out.2.2.1.1; unfold IntsT at h2; rw [← HM.out.1] at h2; exact h2) hk
              rw [Nat.mul_one, ← List.map_drop, show Option.map (fun x : Addr => x.add k) (some ⟨b, off, none⟩) = some ⟨b, off + k, none⟩ from by simp [Addr.add]] at h1
              exact h1
            have HR := Lib.hid (And.intro hr1 hr2)
            clear hsp hgo hr1 hr2
            rcases hg with hg | ⟨hg, z, hz, g3⟩
            all_goals
              go_upto_region 11 with fail
              have hlt1 : (zs.take k).length = k := by rw [List.length_take]; have := HM.out.1; omega
              have hlt2 : (zs.drop k).length = m - k := by rw [List.length_drop]; have := HM.out.1; omega
              have HT := Lib.hid (And.intro hlt1 hlt2)
              clear hlt1 hlt2
              obtain ⟨Ad, hAd⟩ : ∃ Ad, Ad = (if c = k then some (⟨b, off, none⟩ : Addr) else some ⟨b, off + k, none⟩) := ⟨_, rfl⟩
              have HR1 := Lib.hid HR.out.1
              have HR2 := Lib.hid (show RowT w (fun q => q < w.heap.size) 1 (.slice Ad (m - k) (c - k)) (m - k) ((zs.drop k).map (Value.int .i64)) by rw [hAd]; exact HR.out.2)
              have hd0 : Below w.heap.size w wr.drew := HW.out.2.drew
              refine wp_region_held_drew (S := fun W => Below w.heap.size w W) (by kernel_rfl) hd0 (fun hHeld => ?_)
              have HD := Lib.hid hd0
              clear hd0 HR
              refine wpAnyH_take (i := 0) (oi := { dst := Option.some 42, op := Op.move (Operand.tmp 6), type := 22, pos := "ref.go:67", after := #[], guard := Option.none }) (v := .slice none 0 0) rfl (by kernel_rfl) (by kernel_rfl) (by kernel_rfl) (fun _ _ _ h => h) (Or.inl ⟨by rfl, ?_⟩) hHeld ?_
              · intro W hSw
                go_simp
              simp only [Act.put, List.setIfInBounds_toArray, List.set_cons_zero, List.set_cons_succ]
              refine wpAnyH_take (i := 1) (oi := { dst := Option.some 43, op := Op.move (Operand.tmp 0), type := 22, pos := "ref.go:67", after := #[], guard := Option.none }) (v := .slice (some ⟨b, off, none⟩) m c) rfl (by kernel_rfl) (by kernel_rfl) (by kernel_rfl) (fun _ _ _ h => h) (Or.inl ⟨by rfl, ?_⟩) hHeld ?_
              · intro W hSw
                go_simp
              simp only [Act.put, List.setIfInBounds_toArray, List.set_cons_zero, List.set_cons_succ]
              refine wpAnyH_take (i := 2) (oi := { dst := Option.some 44, op := Op.move (Operand.tmp 7), type := 3, pos := "ref.go:67", after := #[], guard := Option.none }) (v := .int .i64 (k : Int)) rfl (by kernel_rfl) (by kernel_rfl) (by kernel_rfl) (fun _ _ _ h => h) (Or.inl ⟨by rfl, ?_⟩) hHeld ?_
              · intro W hSw
                go_simp
              simp only [Act.put, List.setIfInBounds_toArray, List.set_cons_zero, List.set_cons_succ]
              refine wpAnyH_take (i := 3) (oi := { dst := Option.some 45, op := Op.slice 22 (Operand.tmp 43) Option.none (Option.some (Operand.tmp 44)) Option.none, type := 22, pos := "ref.go:67", after := #[{ on := 1, ground := Ground.data }, { on := 2, ground := Ground.data }], guard := Option.none }) (v := .slice (some ⟨b, off, none⟩) k c) rfl (by kernel_rfl) (by kernel_rfl) (by kernel_rfl) (fun _ _ _ h => h) (Or.inl ⟨by rfl, ?_⟩) hHeld ?_
              · intro W hSw
                go_simp
              simp only [Act.put, List.setIfInBounds_toArray, List.set_cons_zero, List.set_cons_succ]
              refine wpAnyH_take (i := 5) (oi := { dst := Option.some 47, op := Op.move (Operand.tmp 1), type := 3, pos := "ref.go:67", after := #[], guard := Option.none }) (v := .int .i64 who) rfl (by kernel_rfl) (by kernel_rfl) (by kernel_rfl) (fun _ _ _ h => h) (Or.inl ⟨by rfl, ?_⟩) hHeld ?_
              · intro W hSw
                go_simp
              simp only [Act.put, List.setIfInBounds_toArray, List.set_cons_zero, List.set_cons_succ]
              refine wpAnyH_take (i := 8) (oi := { dst := Option.some 50, op := Op.move (Operand.tmp 0), type := 22, pos := "ref.go:67", after := #[], guard := Option.none }) (v := .slice (some ⟨b, off, none⟩) m c) rfl (by kernel_rfl) (by kernel_rfl) (by kernel_rfl) (fun _ _ _ h => h) (Or.inl ⟨by rfl, ?_⟩) hHeld ?_
              · intro W hSw
                go_simp
              simp only [Act.put, List.setIfInBounds_toArray, List.set_cons_zero, List.set_cons_succ]
              refine wpAnyH_take (i := 9) (oi := { dst := Option.some 51, op := Op.move (Operand.tmp 7), type := 3, pos := "ref.go:67", after := #[], guard := Option.none }) (v := .int .i64 (k : Int)) rfl (by kernel_rfl) (by kernel_rfl) (by kernel_rfl) (fun _ _ _ h => h) (Or.inl ⟨by rfl, ?_⟩) hHeld ?_
              · intro W hSw
                go_simp
              simp only [Act.put, List.setIfInBounds_toArray, List.set_cons_zero, List.set_cons_succ]
              refine wpAnyH_take (i := 10) (oi := { dst := Option.some 52, op := Op.slice 22 (Operand.tmp 50) (Option.some (Operand.tmp 51)) Option.none Option.none, type := 22, pos := "ref.go:67", after := #[{ on := 8, ground := Ground.data }, { on := 9, ground := Ground.data }], guard := Option.none }) (v := .slice Ad (m - k) (c - k)) rfl (by kernel_rfl) (by kernel_rfl) (by kernel_rfl) (fun _ _ _ h => h) (Or.inl ⟨by rfl, ?_⟩) hHeld ?_
              · intro W hSw
                rw [hAd]
                go_simp
              simp only [Act.put, List.setIfInBounds_toArray, List.set_cons_zero, List.set_cons_succ]
              have N0 := World.ownsRow_nil wr.drew w.heap.size 3 1
              have fin : ∀ (W : World) (v : Value), W.ownsRow w.heap.size 3 1 v (zs.take k ++ [who] ++ zs.drop k).length ((zs.take k ++ [who] ++ zs.drop k).map (Value.int .i64)) → Below w.heap.size w W → ∃ A1 c1, v = .slice A1 (insC who zs).length c1 ∧ Ints W (.slice A1 (insC who zs).length c1) (insC who zs) := fun W v hov hbW => by
                rw [← HSP.out] at hov
                have hI := Ints.of_own hov (fun z hz => by
                  rcases ins_mem.1 hz with rfl | hz
                  · exact HC.out.2.2.1
                  · exact HM.out.2.2.1.2 z hz)
                obtain ⟨A1, c1, rfl, -, -⟩ := hI.form
                exact ⟨A1, c1, rfl, hI⟩
              have FIN := Lib.hid fin
              clear fin
              refine wpAnyH_ready (rs := [4, 6]) (by kernel_rfl) (by simp) ?_
              refine AllReadyH.cons (o := { dst := Option.some 46, op := Op.call { callee := Callee.builtin Builtin.append, args := #[Operand.tmp 42, Operand.tmp 45], argTypes := #[22, 22] }, type := 22, pos := "ref.go:67", after := #[{ on := 0, ground := Ground.data }, { on := 3, ground := Ground.data }], guard := Option.none }) rfl (fun K hK => ?_) (AllReadyH.cons (o := { dst := Option.some 48, op := Op.buildSlice 22 1 #[(0, Operand.tmp 47)], type := 22, pos := "ref.go:67", after := #[{ on := 5, ground := Ground.data }], guard := Option.none }) rfl (fun K hK => ?_) AllReadyH.nil)
              refine step_op rfl (wp_joinI (zs := []) N0 (.tmp 42) (.tmp 45) rfl rfl (some ⟨b, off, none⟩) k c rfl (fun q => q < w.heap.size) (zs.take k) (RowT.kept HR1.out fun q hq _ => HD.out.block q hq) HT.out.1 (by have := HC.out; simp; omega) HD.out.size ?_)
              intro v1 w1 ho1 hg1
              rw [List.nil_append] at ho1
              have hb1 : Below w.heap.size w w1 := HD.out.grown hg1 HD.out.size (fun q hq => by cases hq)
              refine hK.out _ _ hb1 (fun hHeld2 => ?_)
              clear hK K hHeld N0
              simp only [Act.put, List.setIfInBounds_toArray, List.set_cons_zero, List.set_cons_succ]
              refine wpAnyH_ready (rs := [6]) (by kernel_rfl) (by simp) ?_
              refine AllReadyH.cons (o := { dst := Option.some 48, op := Op.buildSlice 22 1 #[(0, Operand.tmp 47)], type := 22, pos := "ref.go:67", after := #[{ on := 5, ground := Ground.data }], guard := Option.none }) rfl (fun K hK => ?_) AllReadyH.nil
              go_simp
              have hb2 := hb1.alloc hb1.size (.cells #[.int .i64 who] 3)
              refine hK.out _ _ hb2 (fun hHeld => ?_)
              clear hK K hHeld2
              have ho2 := own_kept ho1 (below_alloc w1 (.cells #[.int .i64 who] 3))
              have hl2 := heap_alloc_new w1 (.cells #[.int .i64 who] 3)
              have hlt2 : w1.heap.size < (w1.alloc (.cells #[.int .i64 who] 3)).heap.size := by rw [World.size_alloc]; omega
              obtain ⟨w2, hw2⟩ : ∃ w2, w2 = w1.alloc (.cells #[.int .i64 who] 3) := ⟨_, rfl⟩
              obtain ⟨g, hg⟩ : ∃ g, g = w1.heap.size := ⟨_, rfl⟩
              rw [← hw2, ← hg] at hl2
              rw [← hg]
              rw [← hw2] at ho2 hb2 hHeld ⊢
              clear hg1 ho1 hb1 hlt2 hw2 hg w1
              rotate_left
              go_simp
              have hb1 := HD.out.alloc HD.out.size (.cells #[.int .i64 who] 3)
              refine hK.out _ _ hb1 (fun hHeld2 => ?_)
              clear hK K hHeld
              have hl1 := heap_alloc_new wr.drew (.cells #[.int .i64 who] 3)
              have N1 := own_kept N0 (below_alloc wr.drew (.cells #[.int .i64 who] 3))
              have hlt1 : wr.drew.heap.size < (wr.drew.alloc (.cells #[.int .i64 who] 3)).heap.size := by rw [World.size_alloc]; omega
              refine wpAnyH_ready (rs := [4]) (by kernel_rfl) (by simp) ?_
              refine AllReadyH.cons (o := { dst := Option.some 46, op := Op.call { callee := Callee.builtin Builtin.append, args := #[Operand.tmp 42, Operand.tmp 45], argTypes := #[22, 22] }, type := 22, pos := "ref.go:67", after := #[{ on := 0, ground := Ground.data }, { on := 3, ground := Ground.data }], guard := Option.none }) rfl (fun K hK => ?_) AllReadyH.nil
              refine step_op rfl (wp_joinI (zs := []) N1 (.tmp 42) (.tmp 45) rfl rfl (some ⟨b, off, none⟩) k c rfl (fun q => q < w.heap.size) (zs.take k) (RowT.kept HR1.out fun q hq _ => hb1.block q hq) HT.out.1 (by have := HC.out; simp; omega) hb1.size ?_)
              intro v1 w2 ho2 hg1
              rw [List.nil_append] at ho2
              have hb2 : Below w.heap.size w w2 := hb1.grown hg1 hb1.size (fun q hq => by cases hq)
              refine hK.out _ _ hb2 (fun hHeld => ?_)
              clear hK K hHeld2 N0 N1
              simp only [Act.put, List.setIfInBounds_toArray, List.set_cons_zero, List.set_cons_succ]
              have hl2 : w2.heap[wr.heap.size]? = some (.cells #[.int .i64 who] 3 (0, 0)) := (hg1.block wr.drew.heap.size hlt1 (fun e => by cases e)).trans hl1
              obtain ⟨g, hg⟩ : ∃ g, g = wr.heap.size := ⟨_, rfl⟩
              rw [← hg] at hl2
              rw [← hg]
              clear hg1 hl1 hlt1 hb1 hg
              rotate_left
              all_goals
                refine wpAnyH_ready (rs := [7]) (by kernel_rfl) (by simp) ?_
                refine AllReadyH.cons (o := { dst := Option.some 49, op := Op.call { callee := Callee.builtin Builtin.append, args := #[Operand.tmp 46, Operand.tmp 48], argTypes := #[22, 22] }, type := 22, pos := "ref.go:67", after := #[{ on := 4, ground := Ground.data }, { on := 6, ground := Ground.data }, { on := 4, ground := Ground.chain }], guard := Option.none }) rfl (fun K hK => ?_) AllReadyH.nil
                refine step_op rfl (wp_pushI ho2 (.tmp 46) (.tmp 48) rfl rfl g rfl who hl2 (by have := HC.out; rw [HT.out.1]; omega) hb2.size ?_)
                intro v3 w3 ho3 hg3
                have hb3 : Below w.heap.size w w3 := hb2.grown hg3 hb2.size (fun q hq => (ho2.lt q hq).1)
                refine hK.out _ _ hb3 (fun hHeld3 => ?_)
                clear hK K hHeld
                simp only [Act.put, List.setIfInBounds_toArray, List.set_cons_zero, List.set_cons_succ]
                refine wpAnyH_ready (rs := [11]) (by kernel_rfl) (by simp) ?_
                refine AllReadyH.cons (o := { dst := Option.some 53, op := Op.call { callee := Callee.builtin Builtin.append, args := #[Operand.tmp 49, Operand.tmp 52], argTypes := #[22, 22] }, type := 22, pos := "ref.go:67", after := #[{ on := 7, ground := Ground.data }, { on := 10, ground := Ground.data }, { on := 7, ground := Ground.chain }], guard := Option.none }) rfl (fun K hK => ?_) AllReadyH.nil
                refine step_op rfl (wp_joinI ho3 (.tmp 49) (.tmp 52) rfl rfl Ad (m - k) (c - k) (by first | rfl | (rw [hAd]; rfl) | simp [hAd]) (fun q => q < w.heap.size) (zs.drop k) (RowT.kept HR2.out fun q hq _ => hb3.block q hq) HT.out.2 (by have := HC.out; rw [List.length_append, HT.out.1]; simp; omega) hb3.size ?_)
                intro v4 w4 ho4 hg4
                have hb4 : Below w.heap.size w w4 := hb3.grown hg4 hb3.size (fun q hq => (ho3.lt q hq).1)
                refine hK.out _ _ hb4 (fun hHeld => ?_)
                clear hK K hHeld3
                simp only [Act.put, List.setIfInBounds_toArray, List.set_cons_zero, List.set_cons_succ]
                refine wpAnyH_take (i := 12) (oi := { dst := Option.some 4, op := Op.assign (Operand.tmp 53), type := 22, pos := "ref.go:67", after := #[{ on := 11, ground := Ground.data }, { on := 11, ground := Ground.chain }, { on := 0, ground := Ground.phase }, { on := 1, ground := Ground.phase }, { on := 2, ground := Ground.phase }, { on := 3, ground := Ground.phase }, { on := 4, ground := Ground.phase }, { on := 5, ground := Ground.phase }, { on := 6, ground := Ground.phase }, { on := 7, ground := Ground.phase }, { on := 8, ground := Ground.phase }, { on := 9, ground := Ground.phase }, { on := 10, ground := Ground.phase }, { on := 11, ground := Ground.phase }], guard := Option.none }) (v := v4) rfl (by kernel_rfl) (by kernel_rfl) (by kernel_rfl) (fun _ _ _ h => h) (Or.inl ⟨by rfl, ?_⟩) hHeld ?_
                · intro W hSw
                  go_simp
                simp only [Act.put, List.setIfInBounds_toArray, List.set_cons_zero, List.set_cons_succ]
                refine wpAnyH_take (i := 13) (oi := { dst := Option.some 5, op := Op.assign (Operand.const (Value.int IntKind.i64 0)), type := 3, pos := "ref.go:67", after := #[{ on := 12, ground := Ground.chain }, { on := 0, ground := Ground.phase }, { on := 1, ground := Ground.phase }, { on := 2, ground := Ground.phase }, { on := 3, ground := Ground.phase }, { on := 4, ground := Ground.phase }, { on := 5, ground := Ground.phase }, { on := 6, ground := Ground.phase }, { on := 7, ground := Ground.phase }, { on := 8, ground := Ground.phase }, { on := 9, ground := Ground.phase }, { on := 10, ground := Ground.phase }, { on := 11, ground := Ground.phase }, { on := 12, ground := Ground.phase }], guard := Option.none }) (v := .int .i64 0) rfl (by kernel_rfl) (by kernel_rfl) (by kernel_rfl) (fun _ _ _ h => h) (Or.inl ⟨by rfl, ?_⟩) hHeld ?_
                · intro W hSw
                  go_simp
                simp only [Act.put, List.setIfInBounds_toArray, List.set_cons_zero, List.set_cons_succ]
                clear hHeld
                refine wpAnyH_done (by kernel_rfl) ?_ _
                obtain ⟨A1, c1, rfl, hI⟩ := FIN.out w4 v4 ho4 hb4
                go_wp2_with fail
                all_goals
                  go_ret2
                  exact ⟨A1, c1, rfl, hI, hb4⟩

end Go.Proofs.YtgnonfnipifbiaaDoor.pk
