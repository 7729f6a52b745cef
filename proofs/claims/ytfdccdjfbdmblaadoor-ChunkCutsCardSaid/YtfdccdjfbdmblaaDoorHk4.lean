/-
  The program's own pieces: Put.
-/
import Derived.Test.YtfdccdjfbdmblaaDoorHk3
import Derived.Test.YtfdccdjfbdmblaaDoorTailQ
namespace Go.Proofs.YtfdccdjfbdmblaaDoor.pk
open Go Go.RowKit
set_option maxRecDepth 100000

theorem kfrozen {w : World} {b t : Nat} {vs : Array Value} (h : w.heap[b]? = some (.cells vs t (0, 0))) (j : Nat) : w.frozen? ⟨b, j, none⟩ = false := frozen_of_row w b j _ _ h
/-- A struct of two cells stored. -/
theorem kboxRes {W : World} {g2 t : Nat} {a0 a1 b0 b1 : Value} (h : W.heap[g2]? = some (.cells #[a0, a1] t (0, 0))) {B : Nat} {w : World} (hb : Below B w W) (hB : B ≤ g2) :
    ∃ WF, (W.setCell ⟨g2, 0, none⟩ b0).setCell ⟨g2, 1, none⟩ b1 = WF ∧ WF.cell? ⟨g2, 0, none⟩ = some b0 ∧ WF.cell? ⟨g2, 1, none⟩ = some b1 ∧ Below B w WF ∧ (∀ k, k ≠ g2 → WF.heap[k]? = W.heap[k]?) ∧ WF.heap.size = W.heap.size := by
  have h2 : ((W.setCell ⟨g2, 0, none⟩ b0).setCell ⟨g2, 1, none⟩ b1).heap[g2]? = some (.cells #[b0, b1] t (0, 0)) := by
    simp [World.setCell, Array.getElem?_modify, h]
  obtain ⟨z0, z1⟩ := kcells2 h2
  refine ⟨_, rfl, z0, z1, (hb.setCell (show B ≤ _ from hB) _).setCell (show B ≤ _ from hB) _, fun k hk => ?_, by simp only [World.size_setCell]⟩
  rw [Below.heap_setCell _ _ _ _ hk, Below.heap_setCell _ _ _ _ hk]

set_option maxHeartbeats 8000000 in
/-- A piece that is not taken. -/
theorem Put_no (key0 key off : Int) (A HA A' : Option Addr) (m c hn hc m' c' : Nat) (last : Bool) (h : List UInt8) (w : World) (hb : Bys w (.slice A m c) h) (hm : m ≤ 1048576) (hh : hn ≤ 1048576) (hm' : m' ≤ 10000)
    (HU : ∀ W, Calls Tryd.prog 14 #[.agg #[.int .i64 key0, .slice A m c], .int .i64 key] W fun y w' => y = .returned (.slice HA hn hc) ∧ Below W.heap.size W w')
    (hcond : (¬ off = 0 ∧ ¬ off = (hn : Int)) ∨ (¬ off = 0 ∧ off = (hn : Int) ∧ 1048576 - off < (m' : Int))) :
    Calls Tryd.prog 10 #[.agg #[.int .i64 key0, .slice A m c], .int .i64 key, .int .i64 off, .slice A' m' c', .bool last] w fun y w' => ∃ A1 c1, y = .returned (.tuple #[.agg #[.int .i64 key0, .slice A1 m c1], .slice none 0 0, .int .i64 (hn : Int), .bool false]) ∧
      SlT w' (fun q => w.heap.size ≤ q ∧ q < w'.heap.size) (.slice A1 m c1) h ∧ Below w.heap.size w w' := by
  obtain ⟨W1, g, g2, hW1, hg, hg2, hb1, hq, hq2, hsz⟩ := ktwo_box w (.cells #[.int .i64 key0, .slice A m c] 37) (.cells #[.int .i64 0, .slice none 0 0] 37)
  have HW := Lib.hid (And.intro hW1 (And.intro hg hg2))
  have HE := Lib.hid (And.intro hb1 (And.intro (show w.heap.size = g by omega) (And.intro (show g2 = g + 1 by omega) hsz)))
  have HQ2 := Lib.hid (show ∀ W, Below W1.heap.size W1 W → W.heap[g2]? = some (.cells #[.int .i64 0, .slice none 0 0] 37 (0, 0)) from fun W hW => (hW.block g2 (kobj_lt hq2)).trans hq2)
  have HCL := Lib.hid (show ∀ W, Below g2 W1 W → W.cell? ⟨g, 0, none⟩ = some (.int .i64 key0) ∧ W.cell? ⟨g, 1, none⟩ = some (.slice A m c) from fun W hW => kcells2 ((hW.block g (by omega)).trans hq))
  have H21 := Lib.hid (show ∀ W, Below W1.heap.size W1 W → Below g2 W1 W from fun W hW => hW.mono (by omega))
  have CU := Lib.hid (HU W1)
  have CC := Lib.hid (show ∀ W, Below w.heap.size w W → _ from fun W hW => CloneK W A m c h (hb.below hW) (by omega))
  obtain ⟨x0, x1⟩ := HCL.out W1 (Below.refl _ _)
  have hres : Tryd.f10.results = #[.cell 10 37, .tmp 11, .tmp 12, .tmp 13] := by kernel_rfl
  have in1 : (hn : Int) ≤ 1048576 := by omega
  have in2 : (m' : Int) ≤ 10000 := by omega
  clear hb hm hh hm' HU hW1 hg hg2 hb1 hq hq2 hsz
  rcases hcond with ⟨k1, k2⟩ | ⟨k1, rfl, k3⟩
  all_goals
    go_enter Tryd.func10, Tryd.ntmps10
    go_upto_region 1 with fail
    rw [← HW.out.1, ← HW.out.2.1, ← HW.out.2.2]
    go_upto_region 3 with (go_at_call 14; go_must (refine CU.out.mono ?_; rintro y w1 ⟨rfl, hb1⟩; obtain ⟨x0, x1⟩ := HCL.out w1 (H21.out w1 hb1); have HB := Lib.hid hb1; clear hb1))
    have hd0 : Below g2 W1 w1.drew := H21.out _ HB.out.drew
    have HD := Lib.hid HB.out.drew
    refine wp_region_held_drew (S := fun W => Below g2 W1 W) (by kernel_rfl) hd0 (fun hHeld => ?_)
    clear x0 x1 hd0
    refine wpAnyH_take (i := 0) (oi := { dst := Option.some 34, op := Op.fieldAddr 37 (Operand.tmp 5) 0, type := 0, pos := "chunk.go:34", after := #[], guard := Option.none }) (v := .pointer (some ⟨g, 0, none⟩)) rfl (by kernel_rfl) (by kernel_rfl) (by kernel_rfl) (fun _ _ _ h => h) (Or.inl ⟨by rfl, ?_⟩) hHeld ?_
    · intro W hSw
      obtain ⟨z0, z1⟩ := HCL.out _ hSw
      go_simp
    simp only [Act.put, List.setIfInBounds_toArray, List.set_cons_zero, List.set_cons_succ]
    refine wpAnyH_take (i := 1) (oi := { dst := Option.some 35, op := Op.load 3 (Operand.tmp 34), type := 3, pos := "chunk.go:34", after := #[{ on := 0, ground := Ground.data }], guard := Option.none }) (v := .int .i64 key0) rfl (by kernel_rfl) (by kernel_rfl) (by kernel_rfl) (fun _ _ _ h => h) (Or.inl ⟨by rfl, ?_⟩) hHeld ?_
    · intro W hSw
      obtain ⟨z0, z1⟩ := HCL.out _ hSw
      go_simp
    simp only [Act.put, List.setIfInBounds_toArray, List.set_cons_zero, List.set_cons_succ]
    refine wpAnyH_take (i := 2) (oi := { dst := Option.some 36, op := Op.fieldAddr 37 (Operand.tmp 5) 1, type := 0, pos := "chunk.go:34", after := #[], guard := Option.none }) (v := .pointer (some ⟨g, 1, none⟩)) rfl (by kernel_rfl) (by kernel_rfl) (by kernel_rfl) (fun _ _ _ h => h) (Or.inl ⟨by rfl, ?_⟩) hHeld ?_
    · intro W hSw
      obtain ⟨z0, z1⟩ := HCL.out _ hSw
      go_simp
    simp only [Act.put, List.setIfInBounds_toArray, List.set_cons_zero, List.set_cons_succ]
    refine wpAnyH_take (i := 3) (oi := { dst := Option.some 37, op := Op.load 22 (Operand.tmp 36), type := 22, pos := "chunk.go:34", after := #[{ on := 2, ground := Ground.data }], guard := Option.none }) (v := .slice A m c) rfl (by kernel_rfl) (by kernel_rfl) (by kernel_rfl) (fun _ _ _ h => h) (Or.inl ⟨by rfl, ?_⟩) hHeld ?_
    · intro W hSw
      obtain ⟨z0, z1⟩ := HCL.out _ hSw
      go_simp
    simp only [Act.put, List.setIfInBounds_toArray, List.set_cons_zero, List.set_cons_succ]
    refine wpAnyH_take (i := 6) (oi := { dst := Option.some 40, op := Op.move (Operand.tmp 14), type := 22, pos := "chunk.go:34", after := #[], guard := Option.none }) (v := .slice HA hn hc) rfl (by kernel_rfl) (by kernel_rfl) (by kernel_rfl) (fun _ _ _ h => h) (Or.inl ⟨by rfl, ?_⟩) hHeld ?_
    · intro W hSw
      go_simp
    simp only [Act.put, List.setIfInBounds_toArray, List.set_cons_zero, List.set_cons_succ]
    refine wpAnyH_take (i := 7) (oi := { dst := Option.some 41, op := Op.call { callee := Callee.builtin Builtin.len, args := #[Operand.tmp 40], argTypes := #[22] }, type := 3, pos := "chunk.go:34", after := #[{ on := 6, ground := Ground.data }], guard := Option.none }) (v := .int .i64 (hn : Int)) rfl (by kernel_rfl) (by kernel_rfl) (by kernel_rfl) (fun _ _ _ h => h) (Or.inl ⟨by rfl, ?_⟩) hHeld ?_
    · intro W hSw
      go_simp
    simp only [Act.put, List.setIfInBounds_toArray, List.set_cons_zero, List.set_cons_succ]
    refine wpAnyH_ready (rs := [4]) (by kernel_rfl) (by simp) ?_
    refine AllReadyH.cons (o := { dst := Option.some 38, op := Op.call { callee := Callee.value (Operand.func 12), args := #[Operand.tmp 37], argTypes := #[22] }, type := 22, pos := "chunk.go:34", after := #[{ on := 3, ground := Ground.data }], guard := Option.none }) rfl (fun K hK => ?_) AllReadyH.nil
    go_simp
    refine (CC.out _ (HE.out.1.trans (HD.out.mono HE.out.1.size))).mono ?_
    rintro y w5 ⟨A5, c5, rfl, hd5, hb5⟩
    have hb5 : Below W1.heap.size W1 w5 := HD.out.trans (hb5.mono HD.out.size)
    have H5 := Lib.hid (And.intro hd5 hb5)
    refine hK.out _ _ (H21.out _ hb5) (fun hHeld2 => ?_)
    clear hK K hHeld
    have hHeld := hHeld2
    clear hHeld2
    have hS := HQ2.out _ hb5
    clear hb5 hd5
    refine wpAnyH_take (i := 5) (oi := { dst := Option.some 39, op := Op.build 37 #[(0, Operand.tmp 35), (1, Operand.tmp 38)], type := 37, pos := "chunk.go:34", after := #[{ on := 1, ground := Ground.data }, { on := 4, ground := Ground.data }], guard := Option.none }) (v := .agg #[.int .i64 key0, .slice A5 m c5]) rfl (by kernel_rfl) (by kernel_rfl) (by kernel_rfl) (fun _ _ _ h => h) (Or.inl ⟨by rfl, ?_⟩) hHeld ?_
    · intro W hSw
      go_simp
    simp only [Act.put, List.setIfInBounds_toArray, List.set_cons_zero, List.set_cons_succ]
    obtain ⟨y0, y1⟩ := kcells2 hS
    have f0 := kfrozen hS 0
    have f1 := kfrozen hS 1
    refine wpAnyH_ready (rs := [8]) (by kernel_rfl) (by simp) ?_
    refine AllReadyH.cons (o := { dst := Option.none, op := Op.store 37 (Operand.tmp 10) (Operand.tmp 39), type := 0, pos := "chunk.go:34", after := #[{ on := 5, ground := Ground.data }, { on := 4, ground := Ground.chain }, { on := 0, ground := Ground.phase }, { on := 1, ground := Ground.phase }, { on := 2, ground := Ground.phase }, { on := 3, ground := Ground.phase }, { on := 4, ground := Ground.phase }, { on := 5, ground := Ground.phase }, { on := 6, ground := Ground.textOnly Departure.lateStores }, { on := 7, ground := Ground.textOnly Departure.lateStoresUnsure }], guard := Option.none }) rfl (fun K hK => ?_) AllReadyH.nil
    go_simp
    obtain ⟨WF, hWF, z0, z1, hbF, hoth, hsz2⟩ := kboxRes (b0 := .int .i64 key0) (b1 := .slice A5 m c5) hS (H21.out _ H5.out.2) (Nat.le_refl g2)
    rw [hWF]
    refine hK.out _ _ hbF (fun hHeld2 => ?_)
    have HF := Lib.hid (And.intro hbF (And.intro hoth hsz2))
    clear hK K hHeld hbF hoth hsz2 hWF y0 y1 f0 f1 hS
    have hHeld := hHeld2
    clear hHeld2
    refine wpAnyH_take (i := 9) (oi := { dst := Option.some 11, op := Op.assign (Operand.const (Value.slice Option.none 0 0)), type := 22, pos := "chunk.go:34", after := #[{ on := 8, ground := Ground.chain }, { on := 0, ground := Ground.phase }, { on := 1, ground := Ground.phase }, { on := 2, ground := Ground.phase }, { on := 3, ground := Ground.phase }, { on := 4, ground := Ground.phase }, { on := 5, ground := Ground.phase }, { on := 6, ground := Ground.textOnly Departure.lateStores }, { on := 7, ground := Ground.textOnly Departure.lateStoresUnsure }, { on := 8, ground := Ground.phase }], guard := Option.none }) (v := .slice none 0 0) rfl (by kernel_rfl) (by kernel_rfl) (by kernel_rfl) (fun _ _ _ h => h) (Or.inl ⟨by rfl, ?_⟩) hHeld ?_
    · intro W hSw
      go_simp
    simp only [Act.put, List.setIfInBounds_toArray, List.set_cons_zero, List.set_cons_succ]
    refine wpAnyH_take (i := 10) (oi := { dst := Option.some 12, op := Op.assign (Operand.tmp 41), type := 3, pos := "chunk.go:34", after := #[{ on := 7, ground := Ground.data }, { on := 9, ground := Ground.chain }, { on := 0, ground := Ground.phase }, { on := 1, ground := Ground.phase }, { on := 2, ground := Ground.phase }, { on := 3, ground := Ground.phase }, { on := 4, ground := Ground.phase }, { on := 5, ground := Ground.phase }, { on := 6, ground := Ground.phase }, { on := 7, ground := Ground.phase }, { on := 8, ground := Ground.phase }, { on := 9, ground := Ground.phase }], guard := Option.none }) (v := .int .i64 (hn : Int)) rfl (by kernel_rfl) (by kernel_rfl) (by kernel_rfl) (fun _ _ _ h => h) (Or.inl ⟨by rfl, ?_⟩) hHeld ?_
    · intro W hSw
      go_simp
    simp only [Act.put, List.setIfInBounds_toArray, List.set_cons_zero, List.set_cons_succ]
    refine wpAnyH_take (i := 11) (oi := { dst := Option.some 13, op := Op.assign (Operand.const (Value.bool false)), type := 4, pos := "chunk.go:34", after := #[{ on := 10, ground := Ground.chain }, { on := 0, ground := Ground.phase }, { on := 1, ground := Ground.phase }, { on := 2, ground := Ground.phase }, { on := 3, ground := Ground.phase }, { on := 4, ground := Ground.phase }, { on := 5, ground := Ground.phase }, { on := 6, ground := Ground.phase }, { on := 7, ground := Ground.phase }, { on := 8, ground := Ground.phase }, { on := 9, ground := Ground.phase }, { on := 10, ground := Ground.phase }], guard := Option.none }) (v := .bool false) rfl (by kernel_rfl) (by kernel_rfl) (by kernel_rfl) (fun _ _ _ h => h) (Or.inl ⟨by rfl, ?_⟩) hHeld ?_
    · intro W hSw
      go_simp
    simp only [Act.put, List.setIfInBounds_toArray, List.set_cons_zero, List.set_cons_succ]
    clear hHeld
    refine wpAnyH_done (by kernel_rfl) ?_ _
    go_wp2_with fail
    refine bodyPost_ret (v := .tuple #[.agg #[.int .i64 key0, .slice A5 m c5], .slice none 0 0, .int .i64 (hn : Int), .bool false]) ?_ rfl ⟨A5, c5, rfl, ?_, HE.out.1.trans (HF.out.1.mono (by have := HE.out; omega))⟩
    · simp only [results, hres]
      go_simp
    · refine (SlT.kept H5.out.1 fun k hk _ => HF.out.2.1 k ?_).mono fun k hk => ⟨Nat.le_trans HE.out.1.size (Nat.le_trans HD.out.size hk.1), by rw [HF.out.2.2]; exact hk.2⟩
      have h1 := hk.1
      have h2 := HD.out.size
      have := HE.out
      omega

end Go.Proofs.YtfdccdjfbdmblaaDoor.pk
