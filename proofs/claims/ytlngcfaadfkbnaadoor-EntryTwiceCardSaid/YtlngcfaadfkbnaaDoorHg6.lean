/-
  The program's own log: At, Compact, Add.
-/
import Derived.Test.YtlngcfaadfkbnaaDoorHg5
namespace Go.Proofs.YtlngcfaadfkbnaaDoor.pk
open Go Go.RowKit
set_option maxRecDepth 100000

/-- Behind a store into a result of an entry's four cells. -/
theorem entRes {W : World} {g2 t : Nat} {a0 a1 a2 a3 b0 b1 b2 b3 : Value} (h : W.heap[g2]? = some (.cells #[a0, a1, a2, a3] t (0, 0))) {B : Nat} {w : World} (hb : Below B w W) (hB : B ≤ g2) :
    ∃ WF, put4 W g2 b0 b1 b2 b3 = WF ∧ WF.cell? ⟨g2, 0, none⟩ = some b0 ∧ WF.cell? ⟨g2, 1, none⟩ = some b1 ∧ WF.cell? ⟨g2, 2, none⟩ = some b2 ∧ WF.cell? ⟨g2, 3, none⟩ = some b3 ∧ Below B w WF ∧ (∀ k, k ≠ g2 → WF.heap[k]? = W.heap[k]?) ∧ WF.heap.size = W.heap.size := by
  obtain ⟨z0, z1, z2, z3⟩ := cells4 (put4_own h b0 b1 b2 b3)
  exact ⟨_, rfl, z0, z1, z2, z3, put4_below hb hB, put4_other _ _ _ _ _ _, put4_size _ _ _ _ _ _⟩

theorem atE_cases (l : Lg) (i : Int) : (reachE l i 1 = 1 ∧ atE l i = (ze, 1)) ∨ (reachE l i 1 = 8 ∧ atE l i = (ze, 8)) ∨ (reachE l i 1 = 0 ∧ mayE l = true ∧ i ≤ l.base ∧ atE l i = (ze, 22)) ∨ (reachE l i 1 = 0 ∧ mayE l = true ∧ ¬ i ≤ l.base ∧ i ≤ l.base + (l.l.length : Int) ∧ atE l i = (l.l.getD (i - l.base - 1).toNat ze, 0)) := by
  unfold reachE atE
  cases hm : mayE l with
  | false => simp
  | true =>
    have he := endE_index hm
    rw [he]
    simp only [Bool.true_eq_false, if_false]
    by_cases c1 : i < 1 ∨ l.base + (l.l.length : Int) < i
    · rw [if_pos c1, if_pos (by omega)]; simp
    · rw [if_neg c1, if_neg (by omega)]
      by_cases c2 : i ≤ l.base
      · rw [if_pos c2]; simp [c2]
      · rw [if_neg c2]
        right; right; right
        exact ⟨rfl, trivial, c2, by omega, rfl⟩

set_option maxHeartbeats 8000000 in
theorem At_g (l : Lg) (A : Option Addr) (n c : Nat) (i : Int) (w : World) (h : Inp l A n c w) (r : En × Nat) (hr : r = atE l i) (m : Nat) (hm0 : m = r.1.data.length) :
    Calls Tryd.prog 15 #[.agg #[.int .i64 l.base, .int .i64 l.term, .slice A n c], .int .i64 i] w fun y w' => ∃ Ad cd, y = .returned (.tuple #[.agg #[.int .i64 r.1.index, .int .i64 r.1.term, .int .i64 r.1.kind, .slice Ad m cd], er r.2]) ∧ Bys w' (.slice Ad m cd) r.1.data ∧ Below w.heap.size w w' := by
  obtain ⟨W1, g, g2, hW1, hg, hg2, hb1, hq, hq2, hsz⟩ := two_box w (.cells #[.int .i64 l.base, .int .i64 l.term, .slice A n c] 29) (.cells #[.int .i64 0, .int .i64 0, .int .i64 0, .slice none 0 0] 41)
  have HW := Lib.hid (And.intro hW1 (And.intro hg hg2))
  have HE := Lib.hid (And.intro hb1 (And.intro (show w.heap.size = g by omega) (And.intro (show g2 = g + 1 by omega) hsz)))
  have HI := Lib.hid (h.below hb1)
  have HQ2 := Lib.hid (show ∀ W, Below W1.heap.size W1 W → W.heap[g2]? = some (.cells #[.int .i64 0, .int .i64 0, .int .i64 0, .slice none 0 0] 41 (0, 0)) from fun W hW => (hW.block g2 (obj_lt hq2)).trans hq2)
  have HCL := Lib.hid (show ∀ W, Below g2 W1 W → W.cell? ⟨g, 0, none⟩ = some (.int .i64 l.base) ∧ W.cell? ⟨g, 1, none⟩ = some (.int .i64 l.term) ∧ W.cell? ⟨g, 2, none⟩ = some (.slice A n c) from fun W hW => cells3 ((hW.block g (by omega)).trans hq))
  obtain ⟨x0, x1, x2⟩ := cells3 hq
  have hl := h.len
  have hres : Tryd.f15.results = #[.cell 4 41, .tmp 5] := by kernel_rfl
  have H21 := Lib.hid (show ∀ W, Below W1.heap.size W1 W → Below g2 W1 W from fun W hW => hW.mono (by omega))
  have hnil : ∀ W, Bys W (.slice none 0 0) [] := fun W => Bys.nil_ W
  have HNIL := Lib.hid hnil
  rcases atE_cases l i with ⟨hk, ht⟩ | ⟨hk, ht⟩ | ⟨hk, hm, c1, ht⟩ | ⟨hk, hm, c1, c2, ht⟩
  case inl | inr.inl | inr.inr.inl =>
    have CR := HI.out
    have CR := reach_g l A n c i 1 W1 CR _ hk.symm
    first | rw [er_zero] at CR | rw [er_ne (by decide)] at CR
    have CR := Lib.hid CR
    rw [ht] at hr
    subst hr
    obtain rfl : m = 0 := hm0
    clear h hW1 hg hg2 hb1 hq hq2 hsz hk hl ht hnil
    go_enter Tryd.func15, Tryd.ntmps15
    go_upto_region 1 with fail
    rw [← HW.out.1, ← HW.out.2.1, ← HW.out.2.2]
    go_wp2_with (go_at_call 33; go_must (refine CR.out.mono ?_; rintro y w1 ⟨rfl, hb1⟩; obtain ⟨x0, x1, x2⟩ := HCL.out w1 (H21.out w1 hb1); have hq2 := HQ2.out w1 hb1; obtain ⟨y0, y1, y2, y3⟩ := cells4 hq2; have f0 := frozen_own hq2 0; have f1 := frozen_own hq2 1; have f2 := frozen_own hq2 2; have f3 := frozen_own hq2 3; have HB := Lib.hid (And.intro hq2 (HE.out.1.trans (hb1.mono HE.out.1.size))); clear hb1 hq2))
    obtain ⟨WF, hWF, z0, z1, z2, z3, hbF, hoth, hsz2⟩ := entRes (b0 := .int .i64 0) (b1 := .int .i64 0) (b2 := .int .i64 0) (b3 := .slice none 0 0) HB.out.1 HB.out.2 (show w.heap.size ≤ g2 by have := HE.out; omega)
    unfold put4 at hWF
    rw [hWF]
    have HBF := Lib.hid hbF
    clear hbF hoth hsz2 hWF x0 x1 x2 y0 y1 y2 y3 f0 f1 f2 f3
    refine bodyPost_ret (v := .tuple #[.agg #[.int .i64 0, .int .i64 0, .int .i64 0, .slice none 0 0], _]) ?_ rfl ⟨none, 0, rfl, HNIL.out _, HBF.out⟩
    simp only [results, hres]
    go_simp
    try rfl
  · have CR := HI.out
    have CR := reach_g l A n c i 1 W1 CR _ hk.symm
    rw [er_zero] at CR
    have CR := Lib.hid CR
    have hp := mayE_parts hm
    obtain ⟨k, hk⟩ : ∃ k : Nat, i - l.base - 1 = (k : Int) := ⟨(i - l.base - 1).toNat, by omega⟩
    have hkl : k < l.l.length := by omega
    have hkn : k < n := by omega
    obtain ⟨bk, off, Ad, cd, rfl, hbb, hok, q0, q1, q2, q3, hdat⟩ := h.e.at_ k hkl
    rw [hk, Int.toNat_natCast, List.getD, List.getElem?_eq_getElem hkl, Option.getD_some] at ht
    have hsm := h.s.2 _ (List.getElem_mem hkl)
    rw [ht] at hr
    obtain ⟨e, he⟩ : ∃ e, e = l.l[k] := ⟨_, rfl⟩
    rw [← he] at q0 q1 q2 q3 hr hsm hdat
    subst hr
    replace hm0 : m = e.data.length := hm0
    rw [← hm0] at q3 hsm hdat
    have CP := Lib.hid fun W => place_g l (.slice (some ⟨bk, off, none⟩) n c) i W hp.1 (by omega) (by omega) (by omega) _ hk.symm
    have HEC := Lib.hid (show ∀ W, Below g2 W1 W → W.cell? ⟨bk, off + k * 4, none⟩ = some (.int .i64 e.index) ∧ W.cell? ⟨bk, off + k * 4 + 1, none⟩ = some (.int .i64 e.term) ∧ W.cell? ⟨bk, off + k * 4 + 2, none⟩ = some (.int .i64 e.kind) ∧ W.cell? ⟨bk, off + k * 4 + 3, none⟩ = some (.slice Ad m cd) from fun W hW => by
      have hx : Below w.heap.size w W := hb1.trans (hW.mono (by omega))
      exact ⟨(hx.cell (p := ⟨bk, off + k * 4, none⟩) hbb).trans q0, (hx.cell (p := ⟨bk, off + k * 4 + 1, none⟩) hbb).trans q1, (hx.cell (p := ⟨bk, off + k * 4 + 2, none⟩) hbb).trans q2, (hx.cell (p := ⟨bk, off + k * 4 + 3, none⟩) hbb).trans q3⟩)
    have CCP := Lib.hid (show ∀ W, Below w.heap.size w W → _ from fun W hW => copied_g e Ad m cd W (hdat.below hW) (by omega))
    have s1 : (k : Int) < (n : Int) := by omega
    have s2 : (0 : Int) ≤ (k : Int) := by omega
    clear h hW1 hg hg2 hb1 hq hq2 hsz hl ht hnil hm0 he q0 q1 q2 q3 hok hbb hkl hk hp hm hdat hsm c2
    go_enter Tryd.func15, Tryd.ntmps15
    go_upto_region 1 with fail
    rw [← HW.out.1, ← HW.out.2.1, ← HW.out.2.2]
    go_upto_region 6 with (go_at_call 33; go_must (refine CR.out.mono ?_; rintro y w1 ⟨rfl, hb1⟩; obtain ⟨x0, x1, x2⟩ := HCL.out w1 (H21.out w1 hb1); have HB := Lib.hid hb1; clear hb1))
    have hd0 : Below g2 W1 w1.drew := H21.out _ HB.out.drew
    have HD := Lib.hid HB.out.drew
    refine wp_region_held_drew (S := fun W => Below g2 W1 W) (by kernel_rfl) hd0 (fun hHeld => ?_)
    clear x0 x1 x2 hd0
    refine wpAnyH_take (i := 0) (oi := { dst := Option.some 20, op := Op.fieldAddr 29 (Operand.tmp 2) 2, type := 0, pos := "entry.go:72", after := #[], guard := Option.none }) (v := .pointer (some ⟨g, 2, none⟩)) rfl (by kernel_rfl) (by kernel_rfl) (by kernel_rfl) (fun _ _ _ h => h) (Or.inl ⟨by rfl, ?_⟩) hHeld ?_
    · intro W hSw
      obtain ⟨z0, z1, z2⟩ := HCL.out _ hSw
      go_simp
    simp only [Act.put, List.setIfInBounds_toArray, List.set_cons_zero, List.set_cons_succ]
    refine wpAnyH_take (i := 1) (oi := { dst := Option.some 21, op := Op.load 27 (Operand.tmp 20), type := 27, pos := "entry.go:72", after := #[{ on := 0, ground := Ground.data }], guard := Option.none }) (v := .slice (some ⟨bk, off, none⟩) n c) rfl (by kernel_rfl) (by kernel_rfl) (by kernel_rfl) (fun _ _ _ h => h) (Or.inl ⟨by rfl, ?_⟩) hHeld ?_
    · intro W hSw
      obtain ⟨z0, z1, z2⟩ := HCL.out _ hSw
      go_simp
    simp only [Act.put, List.setIfInBounds_toArray, List.set_cons_zero, List.set_cons_succ]
    refine wpAnyH_take (i := 2) (oi := { dst := Option.some 22, op := Op.load 29 (Operand.tmp 2), type := 29, pos := "entry.go:72", after := #[], guard := Option.none }) (v := .agg #[.int .i64 l.base, .int .i64 l.term, .slice (some ⟨bk, off, none⟩) n c]) rfl (by kernel_rfl) (by kernel_rfl) (by kernel_rfl) (fun _ _ _ h => h) (Or.inl ⟨by rfl, ?_⟩) hHeld ?_
    · intro W hSw
      obtain ⟨z0, z1, z2⟩ := HCL.out _ hSw
      go_simp
    simp only [Act.put, List.setIfInBounds_toArray, List.set_cons_zero, List.set_cons_succ]
    refine wpAnyH_take (i := 3) (oi := { dst := Option.some 23, op := Op.move (Operand.tmp 1), type := 3, pos := "entry.go:72", after := #[], guard := Option.none }) (v := .int .i64 i) rfl (by kernel_rfl) (by kernel_rfl) (by kernel_rfl) (fun _ _ _ h => h) (Or.inl ⟨by rfl, ?_⟩) hHeld ?_
    · intro W hSw
      obtain ⟨z0, z1, z2⟩ := HCL.out _ hSw
      go_simp
    simp only [Act.put, List.setIfInBounds_toArray, List.set_cons_zero, List.set_cons_succ]
    refine wpAnyH_ready (rs := [4]) (by kernel_rfl) (by simp) ?_
    refine AllReadyH.cons (o := { dst := Option.some 24, op := Op.call { callee := Callee.value (Operand.func 35), args := #[Operand.tmp 22, Operand.tmp 23], argTypes := #[29, 3] }, type := 3, pos := "entry.go:72", after := #[{ on := 2, ground := Ground.data }, { on := 3, ground := Ground.data }], guard := Option.none }) rfl (fun K hK => ?_) AllReadyH.nil
    go_simp
    refine (CP.out _).mono ?_
    rintro y w3 ⟨rfl, hb3⟩
    have hb3 : Below W1.heap.size W1 w3 := HD.out.trans (hb3.mono HD.out.size)
    have H3 := Lib.hid hb3
    refine hK.out _ _ (H21.out _ hb3) (fun hHeld2 => ?_)
    clear hK K hHeld hb3
    have hHeld := hHeld2
    clear hHeld2
    refine wpAnyH_take (i := 5) (oi := { dst := Option.some 25, op := Op.indexAddr 27 (Operand.tmp 21) (Operand.tmp 24), type := 0, pos := "entry.go:72", after := #[{ on := 1, ground := Ground.data }, { on := 4, ground := Ground.data }], guard := Option.none }) (v := .pointer (some ⟨bk, off + k * 4, none⟩)) rfl (by kernel_rfl) (by kernel_rfl) (by kernel_rfl) (fun _ _ _ h => h) (Or.inl ⟨by rfl, ?_⟩) hHeld ?_
    · intro W hSw
      go_simp
    simp only [Act.put, List.setIfInBounds_toArray, List.set_cons_zero, List.set_cons_succ]
    refine wpAnyH_take (i := 6) (oi := { dst := Option.some 26, op := Op.load 41 (Operand.tmp 25), type := 41, pos := "entry.go:72", after := #[{ on := 5, ground := Ground.data }], guard := Option.none }) (v := .agg #[.int .i64 e.index, .int .i64 e.term, .int .i64 e.kind, .slice Ad m cd]) rfl (by kernel_rfl) (by kernel_rfl) (by kernel_rfl) (fun _ _ _ h => h) (Or.inl ⟨by rfl, ?_⟩) hHeld ?_
    · intro W hSw
      obtain ⟨z0, z1, z2, z3⟩ := HEC.out _ hSw
      go_simp
    simp only [Act.put, List.setIfInBounds_toArray, List.set_cons_zero, List.set_cons_succ]
    refine wpAnyH_ready (rs := [7]) (by kernel_rfl) (by simp) ?_
    refine AllReadyH.cons (o := { dst := Option.some 27, op := Op.call { callee := Callee.value (Operand.func 34), args := #[Operand.tmp 26], argTypes := #[41] }, type := 41, pos := "entry.go:72", after := #[{ on := 6, ground := Ground.data }, { on := 4, ground := Ground.chain }], guard := Option.none }) rfl (fun K hK => ?_) AllReadyH.nil
    go_simp
    refine (CCP.out _ (HE.out.1.trans (H3.out.mono HE.out.1.size))).mono ?_
    rintro y w5 ⟨A5, c5, rfl, hd5, hb5⟩
    have hb5 : Below W1.heap.size W1 w5 := H3.out.trans (hb5.mono H3.out.size)
    have H5 := Lib.hid (And.intro hd5 hb5)
    refine hK.out _ _ (H21.out _ hb5) (fun hHeld2 => ?_)
    clear hK K hHeld
    have hHeld := hHeld2
    clear hHeld2
    have hS := HQ2.out _ hb5
    clear hb5 hd5
    obtain ⟨y0, y1, y2, y3⟩ := cells4 hS
    have f0 := frozen_own hS 0
    have f1 := frozen_own hS 1
    have f2 := frozen_own hS 2
    have f3 := frozen_own hS 3
    refine wpAnyH_ready (rs := [8]) (by kernel_rfl) (by simp) ?_
    refine AllReadyH.cons (o := { dst := Option.none, op := Op.store 41 (Operand.tmp 4) (Operand.tmp 27), type := 0, pos := "entry.go:72", after := #[{ on := 7, ground := Ground.data }, { on := 7, ground := Ground.chain }, { on := 0, ground := Ground.phase }, { on := 1, ground := Ground.phase }, { on := 2, ground := Ground.phase }, { on := 3, ground := Ground.phase }, { on := 4, ground := Ground.phase }, { on := 5, ground := Ground.phase }, { on := 6, ground := Ground.phase }, { on := 7, ground := Ground.phase }], guard := Option.none }) rfl (fun K hK => ?_) AllReadyH.nil
    go_simp
    obtain ⟨WF, hWF, z0, z1, z2, z3, hbF, hoth, hsz2⟩ := entRes (b0 := .int .i64 e.index) (b1 := .int .i64 e.term) (b2 := .int .i64 e.kind) (b3 := .slice A5 m c5) hS (H21.out _ H5.out.2) (Nat.le_refl g2)
    unfold put4 at hWF
    rw [hWF]
    refine hK.out _ _ hbF (fun hHeld2 => ?_)
    have HF := Lib.hid (And.intro hbF (And.intro hoth hsz2))
    clear hK K hHeld hbF hoth hsz2 hWF y0 y1 y2 y3 f0 f1 f2 f3 hS
    have hHeld := hHeld2
    clear hHeld2
    refine wpAnyH_take (i := 9) (oi := { dst := Option.some 5, op := Op.assign (Operand.const Value.nilIface), type := 35, pos := "entry.go:72", after := #[{ on := 8, ground := Ground.chain }, { on := 0, ground := Ground.phase }, { on := 1, ground := Ground.phase }, { on := 2, ground := Ground.phase }, { on := 3, ground := Ground.phase }, { on := 4, ground := Ground.phase }, { on := 5, ground := Ground.phase }, { on := 6, ground := Ground.phase }, { on := 7, ground := Ground.phase }, { on := 8, ground := Ground.phase }], guard := Option.none }) (v := .nilIface) rfl (by kernel_rfl) (by kernel_rfl) (by kernel_rfl) (fun _ _ _ h => h) (Or.inl ⟨by rfl, ?_⟩) hHeld ?_
    · intro W hSw
      go_simp
    simp only [Act.put, List.setIfInBounds_toArray, List.set_cons_zero, List.set_cons_succ]
    clear hHeld
    refine wpAnyH_done (by kernel_rfl) ?_ _
    go_wp2_with fail
    refine bodyPost_ret (v := .tuple #[.agg #[.int .i64 e.index, .int .i64 e.term, .int .i64 e.kind, .slice A5 m c5], .nilIface]) ?_ rfl ⟨A5, c5, rfl, ?_, HE.out.1.trans (HF.out.1.mono (by have := HE.out; omega))⟩
    · simp only [results, hres]
      go_simp
    · refine (SlT.kept H5.out.1 fun k hk _ => HF.out.2.1 k ?_).mono fun k hk => by rw [HF.out.2.2]; exact hk.2
      have h1 := hk.1
      have h2 := H3.out.size
      have := HE.out
      omega

theorem fromE_rest {l : Lg} {i : Int} (hm : mayE l = true) (h0 : l.base ≤ i) : fromE l (i + 1) 4096 = l.l.drop (i - l.base).toNat := by
  have hp := mayE_parts hm
  unfold fromE
  rw [hm, if_neg (by simp; omega), show i + 1 - l.base - 1 = i - l.base from by omega, List.take_of_length_le]
  rw [List.length_drop]
  show _ ≤ 4096
  omega

set_option maxHeartbeats 8000000 in
theorem Compact_g (l : Lg) (A : Option Addr) (n c : Nat) (i : Int) (w : World) (h : Inp l A n c w) (r : Lg × Nat) (hr : r = compactE l i) (q : Nat) (hq0 : q = r.1.l.length) :
    Calls Tryd.prog 28 #[.agg #[.int .i64 l.base, .int .i64 l.term, .slice A n c], .int .i64 i] w fun y w' => ∃ A1 c1, y = .returned (.tuple #[.agg #[.int .i64 r.1.base, .int .i64 r.1.term, .slice A1 q c1], er r.2]) ∧ Ents w' (.slice A1 q c1) r.1.l ∧ Below w.heap.size w w' := by
  obtain ⟨W1, g, g2, hW1, hg, hg2, hb1, hq, hq2, hsz⟩ := two_box w (.cells #[.int .i64 l.base, .int .i64 l.term, .slice A n c] 29) (.cells #[.int .i64 0, .int .i64 0, .slice none 0 0] 29)
  have HW := Lib.hid (And.intro hW1 (And.intro hg hg2))
  have HE := Lib.hid (And.intro hb1 (And.intro (show w.heap.size = g by omega) (And.intro (show g2 = g + 1 by omega) hsz)))
  have HI := Lib.hid (h.below hb1)
  have HQ2 := Lib.hid (show ∀ W, Below W1.heap.size W1 W → W.heap[g2]? = some (.cells #[.int .i64 0, .int .i64 0, .slice none 0 0] 29 (0, 0)) from fun W hW => (hW.block g2 (obj_lt hq2)).trans hq2)
  have HCL := Lib.hid (show ∀ W, Below W1.heap.size W1 W → W.cell? ⟨g, 0, none⟩ = some (.int .i64 l.base) ∧ W.cell? ⟨g, 1, none⟩ = some (.int .i64 l.term) ∧ W.cell? ⟨g, 2, none⟩ = some (.slice A n c) from fun W hW => cells3 ((hW.block g (obj_lt hq)).trans hq))
  obtain ⟨x0, x1, x2⟩ := cells3 hq
  have hl := h.len
  have hres : Tryd.f28.results = #[.cell 4 29, .tmp 5] := by kernel_rfl
  obtain ⟨t, k, htk⟩ : ∃ t k, termE l i = (t, k) := ⟨_, _, rfl⟩
  have CT0 := HI.out
  have CT0 := Term_g l A n c i W1 CT0 (t, k) htk.symm
  simp only at CT0
  have hnil : ∀ W, Ents W (.slice none 0 0) [] := fun W => Ents.nil_ W
  have HNIL := Lib.hid hnil
  have hsel : (k ≠ 0 ∧ r = (zl, k)) ∨ (k = 0 ∧ mayE l = true ∧ l.base ≤ i ∧ i ≤ l.base + (n : Int) ∧ r = (⟨i, t, l.l.drop (i - l.base).toNat⟩, 0)) := by
    rw [hr]
    unfold compactE
    rw [htk]
    simp only
    by_cases h0 : k = 0
    · right
      rw [if_pos h0]
      rcases termE_cases l i with ⟨_, ht⟩ | ⟨_, ht⟩ | ⟨_, hm, c1, ht⟩ | ⟨_, hm, c1, c2, ht⟩
      case inl | inr.inl | inr.inr.inl => rw [htk, h0] at ht; cases ht
      · exact ⟨h0, hm, by omega, by omega, rfl⟩
    · left
      rw [if_neg h0]
      exact ⟨h0, rfl⟩
  rcases hsel with ⟨h0, rfl⟩ | ⟨rfl, hm, h1, h2, hr2⟩
  · rw [er_ne h0] at CT0
    have CT := Lib.hid CT0
    have hk0 := Lib.hid (er_ne h0)
    obtain rfl : q = 0 := hq0
    clear h hW1 hg hg2 hb1 hq hq2 hsz hl hnil CT0 htk hr h0
    go_enter Tryd.func28, Tryd.ntmps28
    go_upto_region 1 with fail
    rw [← HW.out.1, ← HW.out.2.1, ← HW.out.2.2]
    go_wp2_with (go_at_call 13; go_must (refine CT.out.mono ?_; rintro y w1 ⟨rfl, hb1⟩; have hq2 := HQ2.out w1 hb1; obtain ⟨y0, y1, y2⟩ := cells3 hq2; have f0 := frozen_own hq2 0; have f1 := frozen_own hq2 1; have f2 := frozen_own hq2 2; have HB := Lib.hid (And.intro hq2 (HE.out.1.trans (hb1.mono HE.out.1.size))); clear hb1 hq2))
    obtain ⟨WF, hWF, z0, z1, z2, hbF, hoth, hsz2⟩ := logRes (b0 := .int .i64 0) (b1 := .int .i64 0) (b2 := .slice none 0 0) HB.out.1 HB.out.2 (show w.heap.size ≤ g2 by have := HE.out; omega)
    unfold put3 at hWF
    rw [hWF]
    have HBF := Lib.hid hbF
    clear hbF hoth hsz2 hWF x0 x1 x2 y0 y1 y2 f0 f1 f2
    refine bodyPost_ret (v := .tuple #[.agg #[.int .i64 0, .int .i64 0, .slice none 0 0], .iface 72 (.int .i64 (k : Int))]) ?_ rfl ⟨none, 0, by rw [hk0.out]; rfl, HNIL.out _, HBF.out⟩
    simp only [results, hres]
    go_simp
  · rw [er_zero] at CT0
    have CT := Lib.hid CT0
    have hp := mayE_parts hm
    obtain ⟨j, hj⟩ : ∃ j, j = i + 1 := ⟨_, rfl⟩
    have CF := Lib.hid fun W (hW : Below W1.heap.size W1 W) => From_g l A n c j 4096 W (HI.out.below hW) r.1.l (by rw [hr2, hj, fromE_rest hm h1]) q hq0
    have s1 : IntKind.i64.wrap (i + 1) = j := by rw [IntWalk.i64_in _ (by omega), hj]
    rw [hr2] at CF hq0 ⊢
    simp only at CF hq0 ⊢
    clear h hW1 hg hg2 hb1 hq hq2 hsz hl hnil hq0 CT0 htk hr hm h1 h2 hr2 hp hj
    go_enter Tryd.func28, Tryd.ntmps28
    go_upto_region 1 with fail
    rw [← HW.out.1, ← HW.out.2.1, ← HW.out.2.2]
    go_wp2_with (first
      | (go_at_call 13; go_must (refine CT.out.mono ?_; rintro y w1 ⟨rfl, hb1⟩; obtain ⟨x0, x1, x2⟩ := HCL.out w1 hb1; have HB1 := Lib.hid hb1; clear hb1))
      | (go_at_call 26; go_must (refine (CF.out _ HB1.out).mono ?_; rintro y w2 ⟨A2, c2, rfl, hd2, hb2⟩; have hb2 := HB1.out.trans (hb2.mono HB1.out.size); have hq2 := HQ2.out w2 hb2; obtain ⟨y0, y1, y2⟩ := cells3 hq2; have f0 := frozen_own hq2 0; have f1 := frozen_own hq2 1; have f2 := frozen_own hq2 2; have HB := Lib.hid (And.intro hq2 (And.intro hb2 hd2)); clear hb2 hq2 hd2)))
    obtain ⟨WF, hWF, z0, z1, z2, hbF, hoth, hsz2⟩ := logRes (b0 := .int .i64 i) (b1 := .int .i64 t) (b2 := .slice A2 q c2) HB.out.1 (HE.out.1.trans (HB.out.2.1.mono HE.out.1.size)) (show w.heap.size ≤ g2 by have := HE.out; omega)
    unfold put3 at hWF
    rw [hWF]
    have HBF := Lib.hid (And.intro hbF (And.intro hoth hsz2))
    clear hbF hoth hsz2 hWF x0 x1 x2 y0 y1 y2 f0 f1 f2
    refine bodyPost_ret (v := .tuple #[.agg #[.int .i64 i, .int .i64 t, .slice A2 q c2], .nilIface]) ?_ rfl ⟨A2, c2, rfl, ?_, HBF.out.1⟩
    · simp only [results, hres]
      go_simp
    · refine ⟨HB.out.2.2.1.move (fun k hk _ => HBF.out.2.1 k ?_) fun k hk => by rw [HBF.out.2.2]; exact hk.2, HB.out.2.2.2⟩
      have h1 := hk.1
      have h2 := HB1.out.size
      have := HE.out
      omega

end Go.Proofs.YtlngcfaadfkbnaaDoor.pk
