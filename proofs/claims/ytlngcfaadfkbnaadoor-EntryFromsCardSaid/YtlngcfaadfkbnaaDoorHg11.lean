/-
  The program's own log: Merge.
-/
import Derived.Test.YtlngcfaadfkbnaaDoorHg10
namespace Go.Proofs.YtlngcfaadfkbnaaDoor.pk
open Go Go.RowKit
set_option maxRecDepth 100000

theorem mergeE_cases (l : Lg) (i t : Int) (more : List En) :
    (mayE l = false ∧ mergeE l i t more = none) ∨ (mayE l = true ∧ i < 0 ∧ mergeE l i t more = none) ∨ (mayE l = true ∧ ¬ i < 0 ∧ behindE i t more = false ∧ mergeE l i t more = none) ∨
    (mayE l = true ∧ ¬ i < 0 ∧ behindE i t more = true ∧ l.base + (l.l.length : Int) < i ∧ mergeE l i t more = none) ∨ (mayE l = true ∧ ¬ i < 0 ∧ behindE i t more = true ∧ ¬ l.base + (l.l.length : Int) < i ∧ l.base < i ∧ tmE l i ≠ t ∧ mergeE l i t more = none) ∨
    (mayE l = true ∧ ¬ i < 0 ∧ behindE i t more = true ∧ ¬ l.base + (l.l.length : Int) < i ∧ (l.base < i → tmE l i = t) ∧ mayE (mergedE l i more) = false ∧ mergeE l i t more = none) ∨
    (mayE l = true ∧ ¬ i < 0 ∧ behindE i t more = true ∧ ¬ l.base + (l.l.length : Int) < i ∧ (l.base < i → tmE l i = t) ∧ mayE (mergedE l i more) = true ∧ mergeE l i t more = some (mergedE l i more, max (i + more.length) l.base)) := by
  unfold mergeE
  cases hm : mayE l with
  | false => left; simp
  | true =>
    have he := endE_index hm
    rw [he]
    right
    by_cases c1 : i < 0
    · left; exact ⟨rfl, c1, if_pos (Or.inr (Or.inl c1))⟩
    · right
      cases hb : behindE i t more with
      | false => left; exact ⟨rfl, c1, rfl, if_pos (Or.inr (Or.inr (Or.inl rfl)))⟩
      | true =>
        right
        by_cases c2 : l.base + (l.l.length : Int) < i
        · left; exact ⟨rfl, c1, rfl, c2, if_pos (Or.inr (Or.inr (Or.inr (Or.inl c2))))⟩
        · right
          by_cases c3 : l.base < i ∧ tmE l i ≠ t
          · left
            refine ⟨rfl, c1, rfl, c2, c3.1, c3.2, if_pos (Or.inr (Or.inr (Or.inr (Or.inr ⟨c3.1, ?_⟩))))⟩
            have := c3.2
            unfold tmE at this
            rw [if_neg (by omega)] at this
            exact this
          · right
            have c4 : l.base < i → tmE l i = t := fun h => Classical.byContradiction fun hn => c3 ⟨h, hn⟩
            have hneg : ¬ (true = false ∨ i < 0 ∨ true = false ∨ l.base + (l.l.length : Int) < i ∨ l.base < i ∧ (l.l.getD (i - l.base - 1).toNat ze).term ≠ t) := by
              rintro (h | h | h | h | ⟨h, h2⟩)
              · cases h
              · exact c1 h
              · cases h
              · exact c2 h
              · have := c4 h
                unfold tmE at this
                rw [if_neg (by omega)] at this
                exact h2 this
            rw [if_neg hneg]
            cases hmm : mayE (mergedE l i more) with
            | false => left; exact ⟨rfl, c1, rfl, c2, c4, rfl, if_neg (by simp)⟩
            | true => right; exact ⟨rfl, c1, rfl, c2, c4, rfl, if_pos rfl⟩
theorem merged_length {l : Lg} {i : Int} {more : List En} (h0 : 0 ≤ i) (hi : i ≤ l.base + (l.l.length : Int)) (hb : 0 ≤ l.base) : i + (more.length : Int) ≤ l.base + ((mergedE l i more).l.length : Int) := by
  have h1 := overE_len (l.l.drop (i - l.base).toNat) (more.drop (l.base - i).toNat)
  rw [List.length_drop] at h1
  have h2 : (mergedE l i more).l.length = (i - l.base).toNat + (overE (l.l.drop (i - l.base).toNat) (more.drop (l.base - i).toNat)).length := by
    show (_ ++ _ : List En).length = _
    rw [List.length_append, List.length_take, Nat.min_eq_left (by omega)]
  omega

set_option maxHeartbeats 16000000 in
theorem Merge_no (l : Lg) (A : Option Addr) (n c : Nat) (i t : Int) (A' : Option Addr) (n' c' : Nat) (more : List En) (w : World) (h : Inp l A n c w) (hs : SmallE 1000 100000 l.l) (hit : inI i ∧ inI t) (h' : Ents w (.slice A' n' c') more) (hs' : SmallE 1000 100000 more) (hno : mergeE l i t more = none) (hnot : mayE l = true → ¬ i < 0 → behindE i t more = true → ¬ l.base + (l.l.length : Int) < i → (l.base < i → tmE l i = t) → mayE (mergedE l i more) = true) (m : Lg) (hmm : m = (if mayE l = true then l else zl)) (q : Nat) (hq0 : q = m.l.length) :
    Calls Tryd.prog 22 #[.agg #[.int .i64 l.base, .int .i64 l.term, .slice A n c], .int .i64 i, .int .i64 t, .slice A' n' c'] w fun y w' => ∃ A1 c1 z, y = .returned (.tuple #[.agg #[.int .i64 m.base, .int .i64 m.term, .slice A1 q c1], .int .i64 z, .bool false]) ∧ FEnts w w' (.slice A1 q c1) m.l ∧ Below w.heap.size w w' := by
  obtain ⟨W1, g, g2, hW1, hg, hg2, hb1, hq, hq2, hsz⟩ := two_box w (.cells #[.int .i64 l.base, .int .i64 l.term, .slice A n c] 29) (.cells #[.int .i64 0, .int .i64 0, .slice none 0 0] 29)
  have HW := Lib.hid (And.intro hW1 (And.intro hg hg2))
  have HE := Lib.hid (And.intro hb1 (And.intro (show w.heap.size = g by omega) (And.intro (show g2 = g + 1 by omega) hsz)))
  have HI := Lib.hid (h.below hb1)
  have hl := h.len
  have hn' := h'.len_
  have HI' := Lib.hid (And.intro (h'.below hb1) (And.intro hs' (And.intro hn'.1 hl.1)))
  have HQ2 := Lib.hid (show ∀ W, Below W1.heap.size W1 W → W.heap[g2]? = some (.cells #[.int .i64 0, .int .i64 0, .slice none 0 0] 29 (0, 0)) from fun W hW => (hW.block g2 (obj_lt hq2)).trans hq2)
  have HCL := Lib.hid (show ∀ W, Below g2 W1 W → W.cell? ⟨g, 0, none⟩ = some (.int .i64 l.base) ∧ W.cell? ⟨g, 1, none⟩ = some (.int .i64 l.term) ∧ W.cell? ⟨g, 2, none⟩ = some (.slice A n c) from fun W hW => cells3 ((hW.block g (by omega)).trans hq))
  have H21 := Lib.hid (show ∀ W, Below W1.heap.size W1 W → Below g2 W1 W from fun W hW => hW.mono (by omega))
  obtain ⟨x0, x1, x2⟩ := cells3 hq
  have hres : Tryd.f22.results = #[.cell 8 29, .tmp 9, .tmp 10] := by kernel_rfl
  have CN := Lib.hid fun W (hW : Below W1.heap.size W1 W) => clone_g l A n c W (HI.out.e.below hW) HI.out.s
  have in1 : (n' : Int) ≤ 1000 := by have := hs'.1; omega
  have in2 : (n : Int) ≤ 1000 := by have := hs.1; omega
  rcases mergeE_cases l i t more with ⟨hm, -⟩ | ⟨hm, c1, -⟩ | ⟨hm, c1, c2, -⟩ | ⟨hm, c1, c2, c3, -⟩ | ⟨hm, c1, c2, c3, c4, c5, -⟩ | ⟨hm, c1, c2, c3, c4, c5, -⟩ | ⟨hm, c1, c2, c3, c4, c5, hx⟩
  case inr.inr.inr.inr.inr.inr => rw [hno] at hx; cases hx
  case inr.inr.inr.inr.inr.inl => exact absurd (hnot hm c1 c2 c3 c4) (by rw [c5]; simp)
  · rw [hm, if_neg (by simp)] at hmm
    subst hmm
    obtain rfl : q = 0 := hq0
    have CC := Lib.hid (HI.out.bad hm)
    clear hnot h hs h' hs' hW1 hg hg2 hb1 hq hq2 hsz hl hn' hm hno
    go_enter Tryd.func22, Tryd.ntmps22
    go_upto_region 1 with fail
    rw [← HW.out.1, ← HW.out.2.1, ← HW.out.2.2]
    go_wp2_with (go_at_call 17; go_must (refine CC.out.mono ?_; rintro y w1 ⟨rfl, hb1⟩; have hq2 := HQ2.out w1 hb1; obtain ⟨y0, y1, y2⟩ := cells3 hq2; have f0 := frozen_own hq2 0; have f1 := frozen_own hq2 1; have f2 := frozen_own hq2 2; have HB := Lib.hid (And.intro hq2 (HE.out.1.trans (hb1.mono HE.out.1.size))); clear hb1 hq2))
    obtain ⟨WF, hWF, z0, z1, z2, hbF, hoth, hsz2⟩ := logRes (b0 := .int .i64 0) (b1 := .int .i64 0) (b2 := .slice none 0 0) HB.out.1 HB.out.2 (show w.heap.size ≤ g2 by have := HE.out; omega)
    unfold put3 at hWF
    rw [hWF]
    have HBF := Lib.hid hbF
    clear hbF hoth hsz2 hWF x0 x1 x2 y0 y1 y2 f0 f1 f2
    refine bodyPost_ret (v := .tuple #[.agg #[.int .i64 0, .int .i64 0, .slice none 0 0], .int .i64 0, .bool false]) ?_ rfl ⟨none, 0, 0, rfl, ⟨⟨[], RowT.nil_ _ _ _, fun j h => by simp [zl] at h⟩, fun e he => by cases he⟩, HBF.out⟩
    simp only [results, hres]
    go_simp
  case inr.inl | inr.inr.inl =>
    rw [hm, if_pos rfl] at hmm
    replace hmm := hmm.symm
    subst hmm
    obtain rfl : q = n := by rw [hq0, hl.1]
    have CC := Lib.hid (HI.out.good hm)
    have CF := Lib.hid fun W (hW : Below W1.heap.size W1 W) => follow_any i t A' n' c' more W (HI'.out.1.below hW) hit.1 hit.2 (fun e he => by have := HI'.out.2.1.2 e he; omega) _ rfl
    clear hnot h hs h' hs' hW1 hg hg2 hb1 hq hq2 hsz hl hn' hm hno hq0 hit
    go_enter Tryd.func22, Tryd.ntmps22
    go_upto_region 1 with fail
    rw [← HW.out.1, ← HW.out.2.1, ← HW.out.2.2]
    go_wp2_with (first
      | (go_at_call 17; go_must (refine CC.out.mono ?_; rintro y w1 ⟨rfl, hb1⟩; obtain ⟨x0, x1, x2⟩ := HCL.out w1 (H21.out w1 hb1); have HB := Lib.hid hb1; clear hb1))
      | (go_at_call 37; go_must (refine (CF.out _ HB.out).mono ?_; rintro y w2 ⟨rfl, hb2⟩; have hb2 := HB.out.trans (hb2.mono HB.out.size); obtain ⟨x0, x1, x2⟩ := HCL.out w2 (H21.out w2 hb2); have HB := Lib.hid hb2; clear hb2))
      | (go_at_call 46; go_must (refine (CN.out _ HB.out).mono ?_; rintro y w4 ⟨A4, c4, rfl, hf4, hb4, -⟩; have hb5 := HB.out.trans (hb4.mono HB.out.size); have hS := HQ2.out w4 hb5; obtain ⟨y0, y1, y2⟩ := cells3 hS; have f0 := frozen_own hS 0; have f1 := frozen_own hS 1; have f2 := frozen_own hS 2; have H4 := Lib.hid (And.intro hS (And.intro hb5 hf4)); clear hS hb4 hb5 hf4)))
    obtain ⟨WF, hWF, z0, z1, z2, hbF, hoth, hsz2⟩ := logRes (b0 := .int .i64 l.base) (b1 := .int .i64 l.term) (b2 := .slice A4 q c4) H4.out.1 (H21.out _ H4.out.2.1) (Nat.le_refl g2)
    unfold put3 at hWF
    rw [hWF]
    have HF := Lib.hid (And.intro hbF (And.intro hoth hsz2))
    clear hbF hoth hsz2 hWF y0 y1 y2 f0 f1 f2 x0 x1 x2
    refine bodyPost_ret (v := .tuple #[.agg #[.int .i64 l.base, .int .i64 l.term, .slice A4 q c4], .int .i64 0, .bool false]) ?_ rfl ⟨A4, c4, 0, rfl, ?_, HE.out.1.trans (HF.out.1.mono (by have := HE.out; omega))⟩
    · simp only [results, hres]
      go_simp
    · refine ⟨H4.out.2.2.1.move (fun b hb _ => HF.out.2.1 b ?_) fun b hb => ⟨?_, by rw [HF.out.2.2]; exact hb.2⟩, H4.out.2.2.2⟩
      · have := hb.1
        have := HB.out.size
        have := HE.out
        omega
      · have := hb.1
        have := HB.out.size
        have := HE.out.1.size
        omega
  case inr.inr.inr.inl =>
    rw [hm, if_pos rfl] at hmm
    replace hmm := hmm.symm
    subst hmm
    obtain rfl : q = n := by rw [hq0, hl.1]
    have CC := Lib.hid (HI.out.good hm)
    have hp := mayE_parts hm
    have CF := Lib.hid fun W (hW : Below W1.heap.size W1 W) => follow_any i t A' n' c' more W (HI'.out.1.below hW) hit.1 hit.2 (fun e he => by have := HI'.out.2.1.2 e he; omega) _ rfl
    obtain ⟨e1, he1⟩ : ∃ e1, e1 = l.base + (q : Int) := ⟨_, rfl⟩
    have CE := Lib.hid fun W => end_g l A q c W hp.1 (by omega) (by omega) e1 he1
    rw [← hl.1, ← he1] at c3
    clear hnot h hs h' hs' hW1 hg hg2 hb1 hq hq2 hsz hl hn' hm hno hq0 hit hp he1
    go_enter Tryd.func22, Tryd.ntmps22
    go_upto_region 1 with fail
    rw [← HW.out.1, ← HW.out.2.1, ← HW.out.2.2]
    go_upto_region 6 with (first
      | (go_at_call 17; go_must (refine CC.out.mono ?_; rintro y w1 ⟨rfl, hb1⟩; obtain ⟨x0, x1, x2⟩ := HCL.out w1 (H21.out w1 hb1); have HB := Lib.hid hb1; clear hb1))
      | (go_at_call 37; go_must (refine (CF.out _ HB.out).mono ?_; rintro y w2 ⟨rfl, hb2⟩; have hb2 := HB.out.trans (hb2.mono HB.out.size); obtain ⟨x0, x1, x2⟩ := HCL.out w2 (H21.out w2 hb2); have HB := Lib.hid hb2; clear hb2))
      | (go_at_call 31; go_must (refine (CE.out _).mono ?_; rintro y w3 ⟨rfl, hb3⟩; have hb3 := HB.out.trans (hb3.mono HB.out.size); obtain ⟨x0, x1, x2⟩ := HCL.out w3 (H21.out w3 hb3); have HB := Lib.hid hb3; clear hb3)))
    have hd0 : Below g2 W1 w3.drew := H21.out _ HB.out.drew
    have HD := Lib.hid HB.out.drew
    refine wp_region_held_drew (S := fun W => Below g2 W1 W) (by kernel_rfl) hd0 (fun hHeld => ?_)
    clear x0 x1 x2 hd0
    refine wpAnyH_take (i := 0) (oi := { dst := Option.some 33, op := Op.load 29 (Operand.tmp 4), type := 29, pos := "merge.go:14", after := #[], guard := Option.none }) (v := .agg #[.int .i64 l.base, .int .i64 l.term, .slice A q c]) rfl (by kernel_rfl) (by kernel_rfl) (by kernel_rfl) (fun _ _ _ h => h) (Or.inl ⟨by rfl, ?_⟩) hHeld ?_
    · intro W hSw
      obtain ⟨z0, z1, z2⟩ := HCL.out _ hSw
      go_simp
    simp only [Act.put, List.setIfInBounds_toArray, List.set_cons_zero, List.set_cons_succ]
    refine wpAnyH_take (i := 2) (oi := { dst := Option.some 35, op := Op.load 29 (Operand.tmp 4), type := 29, pos := "merge.go:14", after := #[], guard := Option.none }) (v := .agg #[.int .i64 l.base, .int .i64 l.term, .slice A q c]) rfl (by kernel_rfl) (by kernel_rfl) (by kernel_rfl) (fun _ _ _ h => h) (Or.inl ⟨by rfl, ?_⟩) hHeld ?_
    · intro W hSw
      obtain ⟨z0, z1, z2⟩ := HCL.out _ hSw
      go_simp
    simp only [Act.put, List.setIfInBounds_toArray, List.set_cons_zero, List.set_cons_succ]
    refine wpAnyH_ready (rs := [1]) (by kernel_rfl) (by simp) ?_
    refine AllReadyH.cons (o := { dst := Option.some 34, op := Op.call { callee := Callee.value (Operand.func 46), args := #[Operand.tmp 33], argTypes := #[29] }, type := 29, pos := "merge.go:14", after := #[{ on := 0, ground := Ground.data }], guard := Option.none }) rfl (fun K hK => ?_) AllReadyH.nil
    go_simp
    refine (CN.out _ HD.out).mono ?_
    rintro y w5 ⟨A4, c4, rfl, hf4, hb4, -⟩
    have hb5 := HD.out.trans (hb4.mono HD.out.size)
    have H5 := Lib.hid (And.intro hb5 hf4)
    refine hK.out _ _ (H21.out _ hb5) (fun hHeld2 => ?_)
    clear hK K hHeld hb4 hb5 hf4
    have hHeld := hHeld2
    clear hHeld2
    refine wpAnyH_ready (rs := [3]) (by kernel_rfl) (by simp) ?_
    refine AllReadyH.cons (o := { dst := Option.some 36, op := Op.call { callee := Callee.value (Operand.func 31), args := #[Operand.tmp 35], argTypes := #[29] }, type := 3, pos := "merge.go:14", after := #[{ on := 2, ground := Ground.data }, { on := 1, ground := Ground.chain }], guard := Option.none }) rfl (fun K hK => ?_) AllReadyH.nil
    go_simp
    refine (CE.out _).mono ?_
    rintro y w6 ⟨rfl, hb6⟩
    have hb6' := hb6
    have hb6 := H5.out.1.trans (hb6.mono H5.out.1.size)
    refine hK.out _ _ (H21.out _ hb6) (fun hHeld2 => ?_)
    clear hK K hHeld
    have hHeld := hHeld2
    clear hHeld2
    have hS := HQ2.out w6 hb6
    have hf6 : FEnts w3 w6 (.slice A4 q c4) l.l := ⟨H5.out.2.1.move (fun b hb _ => (hb6'.block b hb.2)) fun b hb => ⟨hb.1, Nat.lt_of_lt_of_le hb.2 hb6'.size⟩, H5.out.2.2⟩
    have H4 := Lib.hid (And.intro hS (And.intro hb6 hf6))
    obtain ⟨y0, y1, y2⟩ := cells3 hS
    have f0 := frozen_own hS 0
    have f1 := frozen_own hS 1
    have f2 := frozen_own hS 2
    clear hS hb6 hb6' hf6
    refine wpAnyH_ready (rs := [4]) (by kernel_rfl) (by simp) ?_
    refine AllReadyH.cons (o := { dst := Option.none, op := Op.store 29 (Operand.tmp 8) (Operand.tmp 34), type := 0, pos := "merge.go:14", after := #[{ on := 1, ground := Ground.data }, { on := 3, ground := Ground.chain }, { on := 0, ground := Ground.phase }, { on := 1, ground := Ground.phase }, { on := 2, ground := Ground.textOnly Departure.lateStores }, { on := 3, ground := Ground.textOnly Departure.lateStoresUnsure }], guard := Option.none }) rfl (fun K hK => ?_) AllReadyH.nil
    go_simp
    obtain ⟨WF, hWF, z0, z1, z2, hbF, hoth, hsz2⟩ := logRes (b0 := .int .i64 l.base) (b1 := .int .i64 l.term) (b2 := .slice A4 q c4) H4.out.1 (H21.out _ H4.out.2.1) (Nat.le_refl g2)
    unfold put3 at hWF
    rw [hWF]
    refine hK.out _ _ hbF (fun hHeld2 => ?_)
    have HF := Lib.hid (And.intro hbF (And.intro hoth hsz2))
    clear hK K hHeld hbF hoth hsz2 hWF y0 y1 y2 f0 f1 f2
    have hHeld := hHeld2
    clear hHeld2
    refine wpAnyH_take (i := 5) (oi := { dst := Option.some 9, op := Op.assign (Operand.tmp 36), type := 3, pos := "merge.go:14", after := #[{ on := 3, ground := Ground.data }, { on := 4, ground := Ground.chain }, { on := 0, ground := Ground.phase }, { on := 1, ground := Ground.phase }, { on := 2, ground := Ground.phase }, { on := 3, ground := Ground.phase }, { on := 4, ground := Ground.phase }], guard := Option.none }) (v := .int .i64 e1) rfl (by kernel_rfl) (by kernel_rfl) (by kernel_rfl) (fun _ _ _ h => h) (Or.inl ⟨by rfl, ?_⟩) hHeld ?_
    · intro W hSw
      go_simp
    simp only [Act.put, List.setIfInBounds_toArray, List.set_cons_zero, List.set_cons_succ]
    refine wpAnyH_take (i := 6) (oi := { dst := Option.some 10, op := Op.assign (Operand.const (Value.bool false)), type := 4, pos := "merge.go:14", after := #[{ on := 5, ground := Ground.chain }, { on := 0, ground := Ground.phase }, { on := 1, ground := Ground.phase }, { on := 2, ground := Ground.phase }, { on := 3, ground := Ground.phase }, { on := 4, ground := Ground.phase }, { on := 5, ground := Ground.phase }], guard := Option.none }) (v := .bool false) rfl (by kernel_rfl) (by kernel_rfl) (by kernel_rfl) (fun _ _ _ h => h) (Or.inl ⟨by rfl, ?_⟩) hHeld ?_
    · intro W hSw
      go_simp
    simp only [Act.put, List.setIfInBounds_toArray, List.set_cons_zero, List.set_cons_succ]
    clear hHeld
    refine wpAnyH_done (by kernel_rfl) ?_ _
    go_wp2_with fail
    refine bodyPost_ret (v := .tuple #[.agg #[.int .i64 l.base, .int .i64 l.term, .slice A4 q c4], .int .i64 e1, .bool false]) ?_ rfl ⟨A4, c4, e1, rfl, ?_, HE.out.1.trans (HF.out.1.mono (by have := HE.out; omega))⟩
    · simp only [results, hres]
      go_simp
    · refine ⟨H4.out.2.2.1.move (fun b hb _ => HF.out.2.1 b ?_) fun b hb => ⟨?_, by rw [HF.out.2.2]; exact hb.2⟩, H4.out.2.2.2⟩
      · have := hb.1
        have := HB.out.size
        have := HE.out
        omega
      · have := hb.1
        have := HB.out.size
        have := HE.out.1.size
        omega
  case inr.inr.inr.inr.inl =>
    rw [hm, if_pos rfl] at hmm
    replace hmm := hmm.symm
    subst hmm
    obtain rfl : q = n := by rw [hq0, hl.1]
    have CC := Lib.hid (HI.out.good hm)
    have hp := mayE_parts hm
    have CF := Lib.hid fun W (hW : Below W1.heap.size W1 W) => follow_any i t A' n' c' more W (HI'.out.1.below hW) hit.1 hit.2 (fun e he => by have := HI'.out.2.1.2 e he; omega) _ rfl
    obtain ⟨e1, he1⟩ : ∃ e1, e1 = l.base + (q : Int) := ⟨_, rfl⟩
    have CE := Lib.hid fun W => end_g l A q c W hp.1 (by omega) (by omega) e1 he1
    rw [← hl.1, ← he1] at c3
    obtain ⟨tt, htt⟩ : ∃ tt, tt = tmE l i := ⟨_, rfl⟩
    rw [← htt] at c5
    have CT := Lib.hid fun W (hW : Below W1.heap.size W1 W) => termAt_g l A q c i W (HI.out.e.below hW) hp.1 (by omega) (by omega) (by omega) (by omega) tt htt
    have CA := Lib.hid fun W (hW : Below W1.heap.size W1 W) => ahead_g l A q c i W (HI.out.below hW) hm c4 (by omega)
    have d1 : (tt == t) = false := beq_eq_false_iff_ne.2 c5
    clear hnot h hs h' hs' hW1 hg hg2 hb1 hq hq2 hsz hl hn' hm hno hq0 hit hp he1 htt
    go_enter Tryd.func22, Tryd.ntmps22
    go_upto_region 1 with fail
    rw [← HW.out.1, ← HW.out.2.1, ← HW.out.2.2]
    go_upto_region 8 with (first
      | (go_at_call 17; go_must (refine CC.out.mono ?_; rintro y w1 ⟨rfl, hb1⟩; obtain ⟨x0, x1, x2⟩ := HCL.out w1 (H21.out w1 hb1); have HB := Lib.hid hb1; clear hb1))
      | (go_at_call 37; go_must (refine (CF.out _ HB.out).mono ?_; rintro y w2 ⟨rfl, hb2⟩; have hb2 := HB.out.trans (hb2.mono HB.out.size); obtain ⟨x0, x1, x2⟩ := HCL.out w2 (H21.out w2 hb2); have HB := Lib.hid hb2; clear hb2))
      | (go_at_call 31; go_must (refine (CE.out _).mono ?_; rintro y w3 ⟨rfl, hb3⟩; have hb3 := HB.out.trans (hb3.mono HB.out.size); obtain ⟨x0, x1, x2⟩ := HCL.out w3 (H21.out w3 hb3); have HB := Lib.hid hb3; clear hb3))
      | (go_at_call 32; go_must (refine (CT.out _ HB.out).mono ?_; rintro y w4 ⟨rfl, hb4⟩; have hb4 := HB.out.trans (hb4.mono HB.out.size); obtain ⟨x0, x1, x2⟩ := HCL.out w4 (H21.out w4 hb4); have HB := Lib.hid hb4; clear hb4)))
    have hd0 : Below g2 W1 w4.drew := H21.out _ HB.out.drew
    have HD := Lib.hid HB.out.drew
    refine wp_region_held_drew (S := fun W => Below g2 W1 W) (by kernel_rfl) hd0 (fun hHeld => ?_)
    clear x0 x1 x2 hd0
    refine wpAnyH_take (i := 0) (oi := { dst := Option.some 49, op := Op.load 29 (Operand.tmp 4), type := 29, pos := "merge.go:16", after := #[], guard := Option.none }) (v := .agg #[.int .i64 l.base, .int .i64 l.term, .slice A q c]) rfl (by kernel_rfl) (by kernel_rfl) (by kernel_rfl) (fun _ _ _ h => h) (Or.inl ⟨by rfl, ?_⟩) hHeld ?_
    · intro W hSw
      obtain ⟨z0, z1, z2⟩ := HCL.out _ hSw
      go_simp
    simp only [Act.put, List.setIfInBounds_toArray, List.set_cons_zero, List.set_cons_succ]
    refine wpAnyH_take (i := 2) (oi := { dst := Option.some 51, op := Op.load 29 (Operand.tmp 4), type := 29, pos := "merge.go:16", after := #[], guard := Option.none }) (v := .agg #[.int .i64 l.base, .int .i64 l.term, .slice A q c]) rfl (by kernel_rfl) (by kernel_rfl) (by kernel_rfl) (fun _ _ _ h => h) (Or.inl ⟨by rfl, ?_⟩) hHeld ?_
    · intro W hSw
      obtain ⟨z0, z1, z2⟩ := HCL.out _ hSw
      go_simp
    simp only [Act.put, List.setIfInBounds_toArray, List.set_cons_zero, List.set_cons_succ]
    refine wpAnyH_take (i := 3) (oi := { dst := Option.some 52, op := Op.move (Operand.tmp 1), type := 3, pos := "merge.go:16", after := #[], guard := Option.none }) (v := .int .i64 i) rfl (by kernel_rfl) (by kernel_rfl) (by kernel_rfl) (fun _ _ _ h => h) (Or.inl ⟨by rfl, ?_⟩) hHeld ?_
    · intro W hSw
      go_simp
    simp only [Act.put, List.setIfInBounds_toArray, List.set_cons_zero, List.set_cons_succ]
    refine wpAnyH_ready (rs := [1]) (by kernel_rfl) (by simp) ?_
    refine AllReadyH.cons (o := { dst := Option.some 50, op := Op.call { callee := Callee.value (Operand.func 46), args := #[Operand.tmp 49], argTypes := #[29] }, type := 29, pos := "merge.go:16", after := #[{ on := 0, ground := Ground.data }], guard := Option.none }) rfl (fun K hK => ?_) AllReadyH.nil
    go_simp
    refine (CN.out _ HD.out).mono ?_
    rintro y w5 ⟨A4, c4, rfl, hf4, hb4, -⟩
    have hb5 := HD.out.trans (hb4.mono HD.out.size)
    have H5 := Lib.hid (And.intro hb5 hf4)
    refine hK.out _ _ (H21.out _ hb5) (fun hHeld2 => ?_)
    clear hK K hHeld hb4 hb5 hf4
    have hHeld := hHeld2
    clear hHeld2
    refine wpAnyH_ready (rs := [4]) (by kernel_rfl) (by simp) ?_
    refine AllReadyH.cons (o := { dst := Option.some 53, op := Op.call { callee := Callee.value (Operand.func 47), args := #[Operand.tmp 51, Operand.tmp 52], argTypes := #[29, 3] }, type := 3, pos := "merge.go:16", after := #[{ on := 2, ground := Ground.data }, { on := 3, ground := Ground.data }, { on := 1, ground := Ground.chain }], guard := Option.none }) rfl (fun K hK => ?_) AllReadyH.nil
    go_simp
    refine (CA.out _ H5.out.1).mono ?_
    rintro y w6 ⟨za, rfl, hb6⟩
    have hb6' := hb6
    have hb6 := H5.out.1.trans (hb6.mono H5.out.1.size)
    refine hK.out _ _ (H21.out _ hb6) (fun hHeld2 => ?_)
    clear hK K hHeld
    have hHeld := hHeld2
    clear hHeld2
    have hS := HQ2.out w6 hb6
    have hf6 : FEnts w4 w6 (.slice A4 q c4) l.l := ⟨H5.out.2.1.move (fun b hb _ => (hb6'.block b hb.2)) fun b hb => ⟨hb.1, Nat.lt_of_lt_of_le hb.2 hb6'.size⟩, H5.out.2.2⟩
    have H4 := Lib.hid (And.intro hS (And.intro hb6 hf6))
    obtain ⟨y0, y1, y2⟩ := cells3 hS
    have f0 := frozen_own hS 0
    have f1 := frozen_own hS 1
    have f2 := frozen_own hS 2
    clear hS hb6 hb6' hf6
    refine wpAnyH_ready (rs := [5]) (by kernel_rfl) (by simp) ?_
    refine AllReadyH.cons (o := { dst := Option.none, op := Op.store 29 (Operand.tmp 8) (Operand.tmp 50), type := 0, pos := "merge.go:16", after := #[{ on := 1, ground := Ground.data }, { on := 4, ground := Ground.chain }, { on := 0, ground := Ground.phase }, { on := 1, ground := Ground.phase }, { on := 2, ground := Ground.textOnly Departure.lateStores }, { on := 3, ground := Ground.textOnly Departure.lateStores }, { on := 4, ground := Ground.textOnly Departure.lateStoresUnsure }], guard := Option.none }) rfl (fun K hK => ?_) AllReadyH.nil
    go_simp
    obtain ⟨WF, hWF, z0, z1, z2, hbF, hoth, hsz2⟩ := logRes (b0 := .int .i64 l.base) (b1 := .int .i64 l.term) (b2 := .slice A4 q c4) H4.out.1 (H21.out _ H4.out.2.1) (Nat.le_refl g2)
    unfold put3 at hWF
    rw [hWF]
    refine hK.out _ _ hbF (fun hHeld2 => ?_)
    have HF := Lib.hid (And.intro hbF (And.intro hoth hsz2))
    clear hK K hHeld hbF hoth hsz2 hWF y0 y1 y2 f0 f1 f2
    have hHeld := hHeld2
    clear hHeld2
    refine wpAnyH_take (i := 6) (oi := { dst := Option.some 9, op := Op.assign (Operand.tmp 53), type := 3, pos := "merge.go:16", after := #[{ on := 4, ground := Ground.data }, { on := 5, ground := Ground.chain }, { on := 0, ground := Ground.phase }, { on := 1, ground := Ground.phase }, { on := 2, ground := Ground.phase }, { on := 3, ground := Ground.phase }, { on := 4, ground := Ground.phase }, { on := 5, ground := Ground.phase }], guard := Option.none }) (v := .int .i64 za) rfl (by kernel_rfl) (by kernel_rfl) (by kernel_rfl) (fun _ _ _ h => h) (Or.inl ⟨by rfl, ?_⟩) hHeld ?_
    · intro W hSw
      go_simp
    simp only [Act.put, List.setIfInBounds_toArray, List.set_cons_zero, List.set_cons_succ]
    refine wpAnyH_take (i := 7) (oi := { dst := Option.some 10, op := Op.assign (Operand.const (Value.bool false)), type := 4, pos := "merge.go:16", after := #[{ on := 6, ground := Ground.chain }, { on := 0, ground := Ground.phase }, { on := 1, ground := Ground.phase }, { on := 2, ground := Ground.phase }, { on := 3, ground := Ground.phase }, { on := 4, ground := Ground.phase }, { on := 5, ground := Ground.phase }, { on := 6, ground := Ground.phase }], guard := Option.none }) (v := .bool false) rfl (by kernel_rfl) (by kernel_rfl) (by kernel_rfl) (fun _ _ _ h => h) (Or.inl ⟨by rfl, ?_⟩) hHeld ?_
    · intro W hSw
      go_simp
    simp only [Act.put, List.setIfInBounds_toArray, List.set_cons_zero, List.set_cons_succ]
    clear hHeld
    refine wpAnyH_done (by kernel_rfl) ?_ _
    go_wp2_with fail
    refine bodyPost_ret (v := .tuple #[.agg #[.int .i64 l.base, .int .i64 l.term, .slice A4 q c4], .int .i64 za, .bool false]) ?_ rfl ⟨A4, c4, za, rfl, ?_, HE.out.1.trans (HF.out.1.mono (by have := HE.out; omega))⟩
    · simp only [results, hres]
      go_simp
    · refine ⟨H4.out.2.2.1.move (fun b hb _ => HF.out.2.1 b ?_) fun b hb => ⟨?_, by rw [HF.out.2.2]; exact hb.2⟩, H4.out.2.2.2⟩
      · have := hb.1
        have := HB.out.size
        have := HE.out
        omega
      · have := hb.1
        have := HB.out.size
        have := HE.out.1.size
        omega

end Go.Proofs.YtlngcfaadfkbnaaDoor.pk
