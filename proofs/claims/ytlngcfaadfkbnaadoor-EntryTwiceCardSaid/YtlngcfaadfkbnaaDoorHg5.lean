/-
  The program's own log: Newer, At, From, Compact.
-/
import Derived.Test.YtlngcfaadfkbnaaDoorHg4
namespace Go.Proofs.YtlngcfaadfkbnaaDoor.pk
open Go Go.RowKit
set_option maxRecDepth 100000


theorem fromE_cases (l : Lg) (i most : Int) : (mayE l = false ∧ fromE l i most = []) ∨ (mayE l = true ∧ i ≤ l.base ∧ fromE l i most = []) ∨ (mayE l = true ∧ ¬ i ≤ l.base ∧ l.base + (l.l.length : Int) < i ∧ fromE l i most = []) ∨
    (mayE l = true ∧ ¬ i ≤ l.base ∧ ¬ l.base + (l.l.length : Int) < i ∧ most ≤ 0 ∧ fromE l i most = []) ∨ (mayE l = true ∧ ¬ i ≤ l.base ∧ ¬ l.base + (l.l.length : Int) < i ∧ ¬ most ≤ 0 ∧ fromE l i most = (l.l.drop (i - l.base - 1).toNat).take most.toNat) := by
  unfold fromE
  cases hm : mayE l with
  | false => left; simp
  | true =>
    right
    simp only [Bool.true_eq_false, false_or, true_and, false_and]
    by_cases c1 : i ≤ l.base
    · left; exact ⟨c1, if_pos c1⟩
    · right
      rw [if_neg c1]
      by_cases c2 : l.base + (l.l.length : Int) < i
      · left; exact ⟨c1, c2, by rw [List.drop_eq_nil_of_le (by omega), List.take_nil]⟩
      · right
        by_cases c3 : most ≤ 0
        · left; exact ⟨c1, c2, c3, by rw [show most.toNat = 0 from by omega]; rfl⟩
        · right; exact ⟨c1, c2, c3, rfl⟩
theorem EntsT.front {w : World} {T : Nat → Prop} {A : Option Addr} {m c : Nat} {l : List En} (h : EntsT w T (.slice A m c) l) {k : Nat} (hk : k ≤ m) : EntsT w T (.slice A k c) (l.take k) := by
  have hl := h.len_.1
  obtain ⟨cs, hr, he⟩ := h
  have hkl : (l.take k).length = k := by rw [List.length_take]; omega
  refine ⟨cs.take (k * 4), by rw [hkl]; exact hr.front (by omega), fun j hj => ?_⟩
  rw [hkl] at hj
  obtain ⟨h0, h1, h2, u, h3, h4⟩ := he j (by omega)
  have e0 : j * 4 + 3 < k * 4 := by omega
  refine ⟨?_, ?_, ?_, u, ?_, ?_⟩
  · rw [List.getElem?_take, if_pos (by omega), List.getElem_take]; exact h0
  · rw [List.getElem?_take, if_pos (by omega), List.getElem_take]; exact h1
  · rw [List.getElem?_take, if_pos (by omega), List.getElem_take]; exact h2
  · rw [List.getElem?_take, if_pos (by omega)]; exact h3
  · rw [List.getElem_take]; exact h4

set_option maxHeartbeats 8000000 in
theorem From_g (l : Lg) (A : Option Addr) (n c : Nat) (i most : Int) (w : World) (h : Inp l A n c w) (r : List En) (hr : r = fromE l i most) (q : Nat) (hq0 : q = r.length) :
    Calls Tryd.prog 26 #[.agg #[.int .i64 l.base, .int .i64 l.term, .slice A n c], .int .i64 i, .int .i64 most] w fun y w' => ∃ A1 c1, y = .returned (.slice A1 q c1) ∧ FEnts w w' (.slice A1 q c1) r ∧ Below w.heap.size w w' := by
  obtain ⟨W1, g, hW1, hg, hb1, hq, hsz⟩ := one_box w (.cells #[.int .i64 l.base, .int .i64 l.term, .slice A n c] 29)
  have HW := Lib.hid (And.intro hW1 hg)
  have HE := Lib.hid (And.intro hb1 (And.intro hq hsz))
  have HI := Lib.hid (h.below hb1)
  have HCB := Lib.hid (show ∀ W, Below W1.heap.size W1 W → W.heap[g]? = some (.cells #[.int .i64 l.base, .int .i64 l.term, .slice A n c] 29 (0, 0)) from fun W hW => (hW.block g (obj_lt hq)).trans hq)
  have HCL := Lib.hid (show ∀ W, Below W1.heap.size W1 W → W.cell? ⟨g, 0, none⟩ = some (.int .i64 l.base) ∧ W.cell? ⟨g, 1, none⟩ = some (.int .i64 l.term) ∧ W.cell? ⟨g, 2, none⟩ = some (.slice A n c) from fun W hW => cells3 (HCB.out W hW))
  obtain ⟨x0, x1, x2⟩ := cells3 hq
  have hl := h.len
  have hni : FEnts w w (.slice none 0 0) [] → True := fun _ => trivial
  have hnil : ∀ W, FEnts w W (.slice none 0 0) [] := fun W => ⟨⟨[], RowT.nil_ _ _ _, fun j h => by simp at h⟩, fun e he => by cases he⟩
  have HNIL := Lib.hid hnil
  rcases fromE_cases l i most with ⟨hm, hf⟩ | ⟨hm, c1, hf⟩ | ⟨hm, c1, c2, hf⟩ | ⟨hm, c1, c2, c3, hf⟩ | ⟨hm, c1, c2, c3, hf⟩
  · have CC := Lib.hid (HI.out.bad hm)
    obtain rfl : r = [] := hr.trans hf
    obtain rfl : q = 0 := hq0
    clear h hW1 hg hb1 hq hsz hr hm hf hl hni hnil
    go_enter Tryd.func26, Tryd.ntmps26
    go_upto_region 1 with fail
    rw [← HW.out.1, ← HW.out.2]
    go_wp2_with (go_at_call 17; go_must (refine CC.out.mono ?_; rintro y w1 ⟨rfl, hb1⟩; have HB := Lib.hid (HE.out.1.trans (hb1.mono HE.out.1.size)); clear hb1))
    go_ret
    exact ⟨none, 0, rfl, HNIL.out _, HB.out⟩
  case inr.inl | inr.inr.inl | inr.inr.inr.inl =>
    have CC := Lib.hid (HI.out.good hm)
    have hp := mayE_parts hm
    obtain rfl : r = [] := hr.trans hf
    obtain rfl : q = 0 := hq0
    obtain ⟨e1, he1⟩ : ∃ e1, e1 = l.base + (n : Int) := ⟨_, rfl⟩
    have CE := Lib.hid fun W => end_g l A n c W hp.1 (by omega) (by omega) e1 he1
    try rw [← hl.1, ← he1] at c2
    clear h hW1 hg hb1 hq hsz hr hm hf hl hni hnil hp he1
    go_enter Tryd.func26, Tryd.ntmps26
    go_upto_region 1 with fail
    rw [← HW.out.1, ← HW.out.2]
    go_wp2_with (first
      | (go_at_call 17; go_must (refine CC.out.mono ?_; rintro y w1 ⟨rfl, hb1⟩; obtain ⟨x0, x1, x2⟩ := HCL.out w1 hb1; have HB := Lib.hid hb1; clear hb1))
      | (go_at_call 31; go_must (refine (CE.out _).mono ?_; rintro y w2 ⟨rfl, hb2⟩; have HB := Lib.hid (HB.out.trans (hb2.mono HB.out.size)); clear hb2)))
    go_ret
    exact ⟨none, 0, rfl, HNIL.out _, HE.out.1.trans (HB.out.mono HE.out.1.size)⟩
  · have CC := Lib.hid (HI.out.good hm)
    have hp := mayE_parts hm
    obtain ⟨e1, he1⟩ : ∃ e1, e1 = l.base + (n : Int) := ⟨_, rfl⟩
    have CE := Lib.hid fun W => end_g l A n c W hp.1 (by omega) (by omega) e1 he1
    rw [← hl.1, ← he1] at c2
    obtain ⟨k, hk⟩ : ∃ k : Nat, i - l.base - 1 = (k : Int) := ⟨(i - l.base - 1).toNat, by omega⟩
    have CP := Lib.hid fun W => place_g l (.slice A n c) i W hp.1 (by omega) (by omega) (by omega) _ hk.symm
    rw [hk, Int.toNat_natCast] at hf
    have hkn : k < n := by omega
    obtain ⟨m, hmn, hmm⟩ : ∃ m : Nat, m ≤ n - k ∧ ((most ≤ ((n - k : Nat) : Int) ∧ most = (m : Int)) ∨ (¬ most ≤ ((n - k : Nat) : Int) ∧ m = n - k)) := by
      by_cases hx : most ≤ ((n - k : Nat) : Int)
      · exact ⟨most.toNat, by omega, Or.inl ⟨hx, by omega⟩⟩
      · exact ⟨n - k, Nat.le_refl _, Or.inr ⟨hx, rfl⟩⟩
    have hrm : r = (l.l.drop k).take m := by
      rw [hr, hf]
      rcases hmm with ⟨-, h2⟩ | ⟨h1, h2⟩
      · rw [h2, Int.toNat_natCast]
      · rw [List.take_of_length_le (by rw [List.length_drop]; omega), List.take_of_length_le (by rw [List.length_drop]; omega)]
    obtain rfl : q = m := by rw [hq0, hrm, List.length_take, List.length_drop]; omega
    have hrow := (HI.out.e.drop_ (Nat.le_of_lt hkn)).1
    rw [if_neg (by omega)] at hrow
    obtain ⟨bk, off, hA⟩ : ∃ bk off, A = some ⟨bk, off, none⟩ := by
      obtain ⟨bk, off, _, _, hA, _⟩ := h.e.at_ k (by omega)
      exact ⟨bk, off, hA⟩
    subst hA
    rw [show Option.map (fun x : Addr => x.add (k * 4)) (some ⟨bk, off, none⟩) = some ⟨bk, off + k * 4, none⟩ from by simp [Addr.add]] at hrow
    have HCF := Lib.hid fun W (hW : Below w.heap.size w W) => show EntsT W (fun b => b < W.heap.size) (.slice (some ⟨bk, off + k * 4, none⟩) q (c - k)) r from by
      have h1 := (h.e.drop_ (Nat.le_of_lt hkn)).below hW
      rw [if_neg (by omega), show Option.map (fun x : Addr => x.add (k * 4)) (some ⟨bk, off, none⟩) = some ⟨bk, off + k * 4, none⟩ from by simp [Addr.add]] at h1
      rw [hrm]
      exact h1.1.front hmn
    have HOK := Lib.hid (show ∀ e ∈ r, e.ok from fun e he => by rw [hrm] at he; exact h.e.2 e (List.mem_of_mem_drop (List.mem_of_mem_take he)))
    have HSM := Lib.hid (show SmallE 1000000 100000000 r from ⟨by rw [← hq0]; omega, fun e he => by rw [hrm] at he; exact h.s.2 e (List.mem_of_mem_drop (List.mem_of_mem_take he))⟩)
    have s1 : (k : Int) ≤ (n : Int) := by omega
    have s2 : (n : Int) ≤ (c : Int) := by omega
    have s3 : (0 : Int) ≤ (k : Int) := by omega
    have s4 : ((n - k : Nat) : Int) ≤ ((c - k : Nat) : Int) := by omega
    have s5 : (q : Int) ≤ ((n - k : Nat) : Int) := by omega
    have s6 : (0 : Int) ≤ (q : Int) := by omega
    have s7 : ¬ c = k := by omega
    have s8 : (k : Int) ≤ (c : Int) := by omega
    have HGW := Lib.hid (show w.heap.size ≤ g by omega)
    clear h hW1 hg hb1 hq hsz hr hm hf hl hni hnil hp he1 hk hrm hrow hkn hq0
    go_enter Tryd.func26, Tryd.ntmps26
    go_upto_region 1 with fail
    rw [← HW.out.1, ← HW.out.2]
    go_upto_region 3 with (first
      | (go_at_call 17; go_must (refine CC.out.mono ?_; rintro y w1 ⟨rfl, hb1⟩; obtain ⟨x0, x1, x2⟩ := HCL.out w1 hb1; have HB := Lib.hid hb1; clear hb1))
      | (go_at_call 31; go_must (refine (CE.out _).mono ?_; rintro y w2 ⟨rfl, hb2⟩; have HB := Lib.hid (HB.out.trans (hb2.mono HB.out.size)); clear hb2)))
    have hd0 : Below w.heap.size w w2.drew := HE.out.1.trans (HB.out.drew.mono HE.out.1.size)
    have HD := Lib.hid (show Below W1.heap.size W1 w2.drew from HB.out.drew)
    refine wp_region_held_drew (S := fun W => Below w.heap.size w W) (by kernel_rfl) hd0 (fun hHeld => ?_)
    clear x0 x1 x2
    refine wpAnyH_take (i := 0) (oi := { dst := Option.some 26, op := Op.fieldAddr 29 (Operand.tmp 3) 2, type := 0, pos := "entry.go:100", after := #[], guard := Option.none }) (v := .pointer (some ⟨g, 2, none⟩)) rfl (by kernel_rfl) (by kernel_rfl) (by kernel_rfl) (fun _ _ _ h => h) (Or.inl ⟨by rfl, ?_⟩) hHeld ?_
    · intro W hSw
      go_simp
    simp only [Act.put, List.setIfInBounds_toArray, List.set_cons_zero, List.set_cons_succ]
    refine wpAnyH_take (i := 3) (oi := { dst := Option.some 29, op := Op.move (Operand.tmp 1), type := 3, pos := "entry.go:100", after := #[], guard := Option.none }) (v := .int .i64 i) rfl (by kernel_rfl) (by kernel_rfl) (by kernel_rfl) (fun _ _ _ h => h) (Or.inl ⟨by rfl, ?_⟩) hHeld ?_
    · intro W hSw
      go_simp
    simp only [Act.put, List.setIfInBounds_toArray, List.set_cons_zero, List.set_cons_succ]
    refine wpAnyH_ready (rs := [1, 2]) (by kernel_rfl) (by simp) ?_
    refine AllReadyH.cons (o := { dst := Option.some 27, op := Op.load 27 (Operand.tmp 26), type := 27, pos := "entry.go:100", after := #[{ on := 0, ground := Ground.data }], guard := Option.none }) rfl (fun K hK => ?o1) (AllReadyH.cons (o := { dst := Option.some 28, op := Op.load 29 (Operand.tmp 3), type := 29, pos := "entry.go:100", after := #[], guard := Option.none }) rfl (fun K hK => ?o2) AllReadyH.nil)
    case' o1 =>
      obtain ⟨z0, z1, z2⟩ := HCL.out _ HD.out
      go_simp
      refine hK.out _ _ hd0 (fun hHeld2 => ?_)
      clear hK K
      refine wpAnyH_ready (rs := [2]) (by kernel_rfl) (by simp) ?_
      refine AllReadyH.cons (o := { dst := Option.some 28, op := Op.load 29 (Operand.tmp 3), type := 29, pos := "entry.go:100", after := #[], guard := Option.none }) rfl (fun K hK => ?_) AllReadyH.nil
      go_simp
      refine hK.out _ _ hd0 (fun hHeld3 => ?_)
      clear hK K z0 z1 z2
      refine wpAnyH_ready (rs := [4]) (by kernel_rfl) (by simp) ?_
      refine AllReadyH.cons (o := { dst := Option.some 30, op := Op.call { callee := Callee.value (Operand.func 35), args := #[Operand.tmp 28, Operand.tmp 29], argTypes := #[29, 3] }, type := 3, pos := "entry.go:100", after := #[{ on := 2, ground := Ground.data }, { on := 3, ground := Ground.data }], guard := Option.none }) rfl (fun K hK => ?_) AllReadyH.nil
      go_simp
      refine (CP.out _).mono ?_
      rintro y w3 ⟨rfl, hb3⟩
      have hb3 : Below W1.heap.size W1 w3 := HD.out.trans (hb3.mono HD.out.size)
      have H3 := Lib.hid hb3
      refine hK.out _ _ (HE.out.1.trans (hb3.mono HE.out.1.size)) (fun hHeld4 => ?_)
      clear hK K hHeld hHeld2 hHeld3 hb3
      have hHeld := hHeld4
      clear hHeld4
    case' o2 =>
      obtain ⟨z0, z1, z2⟩ := HCL.out _ HD.out
      go_simp
      refine hK.out _ _ hd0 (fun hHeld2 => ?_)
      clear hK K
      refine wpAnyH_ready (rs := [1, 4]) (by kernel_rfl) (by simp) ?_
      refine AllReadyH.cons (o := { dst := Option.some 27, op := Op.load 27 (Operand.tmp 26), type := 27, pos := "entry.go:100", after := #[{ on := 0, ground := Ground.data }], guard := Option.none }) rfl (fun K hK => ?p1) (AllReadyH.cons (o := { dst := Option.some 30, op := Op.call { callee := Callee.value (Operand.func 35), args := #[Operand.tmp 28, Operand.tmp 29], argTypes := #[29, 3] }, type := 3, pos := "entry.go:100", after := #[{ on := 2, ground := Ground.data }, { on := 3, ground := Ground.data }], guard := Option.none }) rfl (fun K hK => ?p2) AllReadyH.nil)
    case' p1 =>
      go_simp
      refine hK.out _ _ hd0 (fun hHeld3 => ?_)
      clear hK K z0 z1 z2
      refine wpAnyH_ready (rs := [4]) (by kernel_rfl) (by simp) ?_
      refine AllReadyH.cons (o := { dst := Option.some 30, op := Op.call { callee := Callee.value (Operand.func 35), args := #[Operand.tmp 28, Operand.tmp 29], argTypes := #[29, 3] }, type := 3, pos := "entry.go:100", after := #[{ on := 2, ground := Ground.data }, { on := 3, ground := Ground.data }], guard := Option.none }) rfl (fun K hK => ?_) AllReadyH.nil
      go_simp
      refine (CP.out _).mono ?_
      rintro y w3 ⟨rfl, hb3⟩
      have hb3 : Below W1.heap.size W1 w3 := HD.out.trans (hb3.mono HD.out.size)
      have H3 := Lib.hid hb3
      refine hK.out _ _ (HE.out.1.trans (hb3.mono HE.out.1.size)) (fun hHeld4 => ?_)
      clear hK K hHeld hHeld2 hHeld3 hb3
      have hHeld := hHeld4
      clear hHeld4
    case' p2 =>
      clear z0 z1 z2
      go_simp
      refine (CP.out _).mono ?_
      rintro y w3 ⟨rfl, hb3⟩
      have hb3 : Below W1.heap.size W1 w3 := HD.out.trans (hb3.mono HD.out.size)
      have H3 := Lib.hid hb3
      refine hK.out _ _ (HE.out.1.trans (hb3.mono HE.out.1.size)) (fun hHeld3 => ?_)
      clear hK K hHeld
      obtain ⟨z0, z1, z2⟩ := HCL.out _ hb3
      refine wpAnyH_ready (rs := [1]) (by kernel_rfl) (by simp) ?_
      refine AllReadyH.cons (o := { dst := Option.some 27, op := Op.load 27 (Operand.tmp 26), type := 27, pos := "entry.go:100", after := #[{ on := 0, ground := Ground.data }], guard := Option.none }) rfl (fun K hK => ?_) AllReadyH.nil
      go_simp
      refine hK.out _ _ (HE.out.1.trans (hb3.mono HE.out.1.size)) (fun hHeld4 => ?_)
      clear hK K z0 z1 z2 hHeld2 hHeld3 hb3
      have hHeld := hHeld4
      clear hHeld4
    all_goals
      clear hd0
      refine wpAnyH_take (i := 5) (oi := { dst := Option.some 31, op := Op.slice 27 (Operand.tmp 27) (Option.some (Operand.tmp 30)) Option.none Option.none, type := 27, pos := "entry.go:100", after := #[{ on := 1, ground := Ground.data }, { on := 4, ground := Ground.data }], guard := Option.none }) (v := .slice (some ⟨bk, off + k * 4, none⟩) (n - k) (c - k)) rfl (by kernel_rfl) (by kernel_rfl) (by kernel_rfl) (fun _ _ _ h => h) (Or.inl ⟨by rfl, ?_⟩) hHeld ?_
      · intro W hSw
        go_simp
      simp only [Act.put, List.setIfInBounds_toArray, List.set_cons_zero, List.set_cons_succ]
      refine wpAnyH_take (i := 6) (oi := { dst := Option.some 32, op := Op.fieldAddr 29 (Operand.tmp 3) 2, type := 0, pos := "entry.go:100", after := #[{ on := 0, ground := Ground.phase }, { on := 1, ground := Ground.phase }, { on := 2, ground := Ground.phase }, { on := 3, ground := Ground.phase }, { on := 4, ground := Ground.phase }, { on := 5, ground := Ground.phase }], guard := Option.none }) (v := .pointer (some ⟨g, 2, none⟩)) rfl (by kernel_rfl) (by kernel_rfl) (by kernel_rfl) (fun _ _ _ h => h) (Or.inl ⟨by rfl, ?_⟩) hHeld ?_
      · intro W hSw
        go_simp
      simp only [Act.put, List.setIfInBounds_toArray, List.set_cons_zero, List.set_cons_succ]
      have hS := HCB.out _ H3.out
      have f2 := frozen_own hS 2
      obtain ⟨z0, z1, z2⟩ := cells3 hS
      refine wpAnyH_ready (rs := [7]) (by kernel_rfl) (by simp) ?_
      refine AllReadyH.cons (o := { dst := Option.none, op := Op.store 27 (Operand.tmp 32) (Operand.tmp 31), type := 0, pos := "entry.go:100", after := #[{ on := 6, ground := Ground.data }, { on := 5, ground := Ground.data }, { on := 4, ground := Ground.chain }, { on := 0, ground := Ground.phase }, { on := 1, ground := Ground.phase }, { on := 2, ground := Ground.phase }, { on := 3, ground := Ground.phase }, { on := 4, ground := Ground.phase }, { on := 5, ground := Ground.phase }], guard := Option.none }) rfl (fun K hK => ?_) AllReadyH.nil
      go_simp
      have hqF := set2_own (v := .slice (some ⟨bk, off + k * 4, none⟩) (n - k) (c - k)) hS
      obtain ⟨WF, hWF⟩ : ∃ W, W = w3.setCell ⟨g, 2, none⟩ (.slice (some ⟨bk, off + k * 4, none⟩) (n - k) (c - k)) := ⟨_, rfl⟩
      have hbF : Below w.heap.size w WF := by rw [hWF]; exact (HE.out.1.trans (H3.out.mono HE.out.1.size)).setCell (show w.heap.size ≤ g from HGW.out) _
      rw [← hWF] at hqF ⊢
      have HF := Lib.hid hbF
      refine hK.out _ _ hbF (fun hHeld2 => ?_)
      clear hK K hHeld hHeld2 hWF hbF f2 z0 z1 z2 hS
      obtain ⟨z0, z1, z2⟩ := cells3 hqF
      clear hqF
      refine wpAnyH_done (by kernel_rfl) ?_ _
      have HBN := Lib.hid (behind_nil (some ⟨bk, off + k * 4, none⟩) q (c - k) r WF (HCF.out WF HF.out) HSM.out)
      obtain ⟨N, hN⟩ : ∃ N, N = n - k := ⟨_, rfl⟩
      rw [← hN] at z2 hmm hmn s4 s5
      rcases hmm with ⟨t1, rfl⟩ | ⟨t1, rfl⟩
      all_goals
        clear hN
        go_wp2_with (go_at_call 50; go_must (refine HBN.out.mono ?_; rintro y w5 ⟨A5, c5, rfl, ho5, hb5⟩; have H5 := Lib.hid (And.intro ho5 hb5); clear ho5 hb5))
        go_ret
        exact ⟨A5, c5, rfl, H5.out.1.fents HF.out.size (fun k _ _ => rfl) (Nat.le_refl _) HOK.out, HF.out.trans (H5.out.2.mono HF.out.size)⟩

end Go.Proofs.YtlngcfaadfkbnaaDoor.pk
